/- Package tithingref05: Count. -/
import Derived.Test.YtnbcfolmadkliaaDoorSp
import Derived.Test.YtnbcfolmadkliaaDoorSl
namespace Go.Proofs.YtnbcfolmadkliaaDoor
namespace Spn
theorem cnt_split (q : Int → Bool) {s d e : Int} (h1 : s ≤ d) (h2 : d ≤ e) : cnt q s (e - s).toNat = cnt q s (d - s).toNat + cnt q d (e - d).toNat := by
  rw [show (e - s).toNat = (d - s).toNat + (e - d).toNat by omega, cnt_add, show s + ((d - s).toNat : Int) = d by omega]
theorem cend {p : Int → Bool} {s n0 d n : Int} (hs : s ≤ d) (hn : 0 ≤ n) (hc : cnt (fun k => !p k) s (d - s).toNat = n0 - n) (hz : d = s ∨ 0 < n) (hf : ∀ k, d ≤ k → k < d + n → p k = false) :
    (d + n ≤ 3652058 → Ends p s n0 (d + n)) ∧ (3652058 < d + n → ∀ e, ¬ Ends p s n0 e) := by
  refine ⟨fun h => ⟨by omega, h, ?_, ?_⟩, fun h e he => ?_⟩
  · rw [cnt_split _ hs (show d ≤ d + n by omega), hc, cnt_all (fun k h1 h2 => by rw [hf k h1 (by omega)]; rfl)]
    omega
  · by_cases h0 : n = 0
    · left; rcases hz with hz | hz <;> omega
    · right; exact hf _ (by omega) (by omega)
  · have h1 := he.lo
    have h2 := he.hi
    have h3 := he.free
    by_cases hd : d ≤ e
    · rw [cnt_split _ hs hd, hc] at h3
      have := (cnt_nonneg (fun k => !p k) d (e - d).toNat).2
      omega
    · have h4 : cnt (fun k => !p k) s (e - s).toNat ≤ cnt (fun k => !p k) s (d - s).toNat := cnt_le _ _ (by omega)
      rcases hz with hz | hz <;> omega
theorem cstep {p : Int → Bool} {L pre post : List Sp} {m : Sp} {s n0 d n f d' : Int} (hL : Nrm L) (hp : ∀ k, has L k = p k) (e : L = pre ++ m :: post) (hpre : ∀ t ∈ pre, t.2 ≤ d) (hs : s ≤ d)
    (hc : cnt (fun k => !p k) s (d - s).toNat = n0 - n) (hf : (m.1 ≤ d ∧ f = 0) ∨ (d ≤ m.1 ∧ f = m.1 - d)) (hd : (m.2 ≤ d ∧ d' = d) ∨ (d ≤ m.2 ∧ d' = m.2)) :
    cnt (fun k => !p k) s (d' - s).toNat = n0 - (n - f) ∧ ∀ t ∈ pre ++ [m], t.2 ≤ d' := by
  subst e
  have hm := (hL.1 m (by simp))
  rw [rt_iff] at hm
  have hpw := (List.pairwise_append.1 hL.2)
  have hpm : ∀ t ∈ post, m.2 < t.1 := fun t ht => (List.pairwise_cons.1 hpw.2.1).1 t ht
  refine ⟨?_, fun t ht => ?_⟩
  · rw [cnt_split _ hs (show d ≤ d' by omega), hc]
    have hfree : ∀ k, d ≤ k → k < m.1 → p k = false := fun k h1 h2 => by
      rw [← hp k]
      refine has_not.2 fun t ht hr h3 => ?_
      rw [rt_iff] at hr
      rcases List.mem_append.1 ht with ht | ht
      · have := hpre t ht; omega
      · rcases List.mem_cons.1 ht with rfl | ht
        · omega
        · have := hpm t ht; omega
    have hbusy : ∀ k, m.1 ≤ k → k < m.2 → p k = true := fun k h1 h2 => by
      rw [← hp k]
      exact has_iff.2 ⟨m, by simp, rt_iff.2 hm, h1, h2⟩
    have key : cnt (fun k => !p k) d (d' - d).toNat = f := by
      rcases hd with ⟨h1, rfl⟩ | ⟨h1, rfl⟩
      · rw [Int.sub_self]
        show cnt _ _ 0 = f
        rw [cnt_zero]
        omega
      · rcases hf with ⟨h2, rfl⟩ | ⟨h2, rfl⟩
        · exact cnt_none fun k h3 h4 => by rw [hbusy k (by omega) (by omega)]; rfl
        · rw [cnt_split _ h2 (show m.1 ≤ m.2 by omega), cnt_all (fun k h3 h4 => by rw [hfree k h3 (by omega)]; rfl), cnt_none (fun k h3 h4 => by rw [hbusy k h3 (by omega)]; rfl)]
          omega
    rw [key]
    omega
  · rcases List.mem_append.1 ht with ht | ht
    · have := hpre t ht; omega
    · rw [List.mem_singleton] at ht; subst ht; omega
theorem crest {p : Int → Bool} {L pre post : List Sp} {m : Sp} {d k : Int} (hL : Nrm L) (hp : ∀ k, has L k = p k) (e : L = pre ++ m :: post) (hpre : ∀ t ∈ pre, t.2 ≤ d) (h1 : d ≤ k) (h2 : k < m.1) : p k = false := by
  subst e
  have hpm : ∀ t ∈ post, m.2 < t.1 := fun t ht => (List.pairwise_cons.1 (List.pairwise_append.1 hL.2).2.1).1 t ht
  have hm := (hL.1 m (by simp))
  rw [rt_iff] at hm
  rw [← hp k]
  refine has_not.2 fun t ht hr h3 => ?_
  rw [rt_iff] at hr
  rcases List.mem_append.1 ht with ht | ht
  · have := hpre t ht; omega
  · rcases List.mem_cons.1 ht with rfl | ht
    · omega
    · have := hpm t ht; omega
theorem cpast {p : Int → Bool} {L : List Sp} {d k : Int} (hp : ∀ k, has L k = p k) (hpre : ∀ t ∈ L, t.2 ≤ d) (h1 : d ≤ k) : p k = false := by
  rw [← hp k]
  exact has_not.2 fun t ht _ _ => by have := hpre t ht; omega
theorem ends_many {p : Int → Bool} {s n : Int} (h0 : 0 ≤ s) (hn : 3652058 < n) (d : Int) : ¬ Ends p s n d := fun hd => by
  have h1 := hd.hi
  have h2 := hd.free
  have h3 := (cnt_nonneg (fun k => !p k) s (d - s).toNat).2
  have h4 := hd.lo
  omega
end Spn
open Go.RowKit Go.Shelf
end Go.Proofs.YtnbcfolmadkliaaDoor
