/- Package tithingref05: Count. -/
import Derived.Test.YtdpapnfjjmeppaaDoorSp
import Derived.Test.YtdpapnfjjmeppaaDoorSl
namespace Go.Proofs.YtdpapnfjjmeppaaDoor
namespace Spn
theorem cnt_split (q : Int → Bool) {s d e : Int} (h1 : s ≤ d) (h2 : d ≤ e) : cnt q s (e - s).toNat = cnt q s (d - s).toNat + cnt q d (e - d).toNat := by
  rw [show (e - s).toNat = (d - s).toNat + (e - d).toNat by omega, cnt_add, show s + ((d - s).toNat : Int) = d by omega]
theorem cend {p : Int → Bool} {s n0 d n : Int} (hs : s ≤ d) (hn : 0 ≤ n) (hc : cnt (fun k => !p k) s (d - s).toNat = n0 - n) (hz : d = s ∨ 0 < n) (hf : ∀ k, d ≤ k → k < d + n → p k = false) :
    (d + n ≤ 3652058 → Ends p s n0 (d + n)) ∧ (3652058 < d + n → ∀ e, ¬ Ends p s n0 e) := by
  refine ⟨fun h => ⟨by omega, h, ?_, ?_⟩, fun h e he => ?_⟩
  · rw [cnt_split _ hs (show d ≤ d + n by omega), hc, cnt_all (fun k h1 h2 => by rw [hf k h1 (by omega)]; rfl)]
    omega
  · by_cases h0 : n = 0
    · left; rcases hz with hz | hz <;> omega
    · right; exact hf _ (by omega) (by omega)
  · have h1 := he.lo
    have h2 := he.hi
    have h3 := he.free
    by_cases hd : d ≤ e
    · rw [cnt_split _ hs hd, hc] at h3
      have := (cnt_nonneg (fun k => !p k) d (e - d).toNat).2
      omega
    · have h4 : cnt (fun k => !p k) s (e - s).toNat ≤ cnt (fun k => !p k) s (d - s).toNat := cnt_le _ _ (by omega)
      rcases hz with hz | hz <;> omega
theorem cstep {p : Int → Bool} {L pre post : List Sp} {m : Sp} {s n0 d n f d' : Int} (hL : Nrm L) (hp : ∀ k, has L k = p k) (e : L = pre ++ m :: post) (hpre : ∀ t ∈ pre, t.2 ≤ d) (hs : s ≤ d)
    (hc : cnt (fun k => !p k) s (d - s).toNat = n0 - n) (hf : (m.1 ≤ d ∧ f = 0) ∨ (d ≤ m.1 ∧ f = m.1 - d)) (hd : (m.2 ≤ d ∧ d' = d) ∨ (d ≤ m.2 ∧ d' = m.2)) :
    cnt (fun k => !p k) s (d' - s).toNat = n0 - (n - f) ∧ ∀ t ∈ pre ++ [m], t.2 ≤ d' := by
  subst e
  have hm := (hL.1 m (by simp))
  rw [rt_iff] at hm
  have hpw := (List.pairwise_append.1 hL.2)
  have hpm : ∀ t ∈ post, m.2 < t.1 := fun t ht => (List.pairwise_cons.1 hpw.2.1).1 t ht
  refine ⟨?_, fun t ht => ?_⟩
  · rw [cnt_split _ hs (show d ≤ d' by omega), hc]
    have hfree : ∀ k, d ≤ k → k < m.1 → p k = false := fun k h1 h2 => by
      rw [← hp k]
      refine has_not.2 fun t ht hr h3 => ?_
      rw [rt_iff] at hr
      rcases List.mem_append.1 ht with ht | ht
      · have := hpre t ht; omega
      · rcases List.mem_cons.1 ht with rfl | ht
        · omega
        · have := hpm t ht; omega
    have hbusy : ∀ k, m.1 ≤ k → k < m.2 → p k = true := fun k h1 h2 => by
      rw [← hp k]
      exact has_iff.2 ⟨m, by simp, rt_iff.2 hm, h1, h2⟩
    have key : cnt (fun k => !p k) d (d' - d).toNat = f := by
      rcases hd with ⟨h1, rfl⟩ | ⟨h1, rfl⟩
      · rw [Int.sub_self]
        show cnt _ _ 0 = f
        rw [cnt_zero]
        omega
      · rcases hf with ⟨h2, rfl⟩ | ⟨h2, rfl⟩
        · exact cnt_none fun k h3 h4 => by rw [hbusy k (by omega) (by omega)]; rfl
        · rw [cnt_split _ h2 (show m.1 ≤ m.2 by omega), cnt_all (fun k h3 h4 => by rw [hfree k h3 (by omega)]; rfl), cnt_none (fun k h3 h4 => by rw [hbusy k h3 (by omega)]; rfl)]
          omega
    rw [key]
    omega
  · rcases List.mem_append.1 ht with ht | ht
    · have := hpre t ht; omega
    · rw [List.mem_singleton] at ht; subst ht; omega
theorem crest {p : Int → Bool} {L pre post : List Sp} {m : Sp} {d k : Int} (hL : Nrm L) (hp : ∀ k, has L k = p k) (e : L = pre ++ m :: post) (hpre : ∀ t ∈ pre, t.2 ≤ d) (h1 : d ≤ k) (h2 : k < m.1) : p k = false := by
  subst e
  have hpm : ∀ t ∈ post, m.2 < t.1 := fun t ht => (List.pairwise_cons.1 (List.pairwise_append.1 hL.2).2.1).1 t ht
  have hm := (hL.1 m (by simp))
  rw [rt_iff] at hm
  rw [← hp k]
  refine has_not.2 fun t ht hr h3 => ?_
  rw [rt_iff] at hr
  rcases List.mem_append.1 ht with ht | ht
  · have := hpre t ht; omega
  · rcases List.mem_cons.1 ht with rfl | ht
    · omega
    · have := hpm t ht; omega
theorem cpast {p : Int → Bool} {L : List Sp} {d k : Int} (hp : ∀ k, has L k = p k) (hpre : ∀ t ∈ L, t.2 ≤ d) (h1 : d ≤ k) : p k = false := by
  rw [← hp k]
  exact has_not.2 fun t ht _ _ => by have := hpre t ht; omega
theorem ends_many {p : Int → Bool} {s n : Int} (h0 : 0 ≤ s) (hn : 3652058 < n) (d : Int) : ¬ Ends p s n d := fun hd => by
  have h1 := hd.hi
  have h2 := hd.free
  have h3 := (cnt_nonneg (fun k => !p k) s (d - s).toNat).2
  have h4 := hd.lo
  omega
end Spn
open Go.RowKit Go.Shelf
set_option maxRecDepth 100000 in
set_option maxHeartbeats 3200000 in
theorem refCount_any (a : List Spn.Sp) (pa : Option Addr) (na ca : Nat) (s n : Int) (w : World) (ha : Rd spc 2 w pa na a) (hna : na ≤ 1000) (hs : -9223372036854775808 ≤ s ∧ s ≤ 9223372036854775807) (hn : -9223372036854775808 ≤ n ∧ n ≤ 9223372036854775807) :
    Calls Tryd.prog 27 #[.slice pa na ca, iz s, iz n] w (Ya w (cenV (Spn.has a) s n)) := by
  obtain ⟨V, hV⟩ : ∃ V, cenV (Spn.has a) s n = V := ⟨_, rfl⟩
  rw [hV]
  have HV := Lib.hid hV
  obtain ⟨s0, s1⟩ := hs
  obtain ⟨n0, n1⟩ := hn
  have H1 := Lib.hid (refNorm_any a pa na ca w ha hna)
  clear hV ha
  by_cases h1 : 0 ≤ s
  rotate_left
  · have HE := Lib.hid (show V = .tuple #[iz 0, .bool false] by rw [← HV.out]; exact cenV_none fun h => absurd h h1)
    go_enter Tryd.func27, Tryd.ntmps27
    go_wp2_with fail
    go_ret2
    exact ⟨by rw [HE.out]; rfl, Ch.refl _ _ _⟩
  by_cases h2 : s ≤ 3652058
  rotate_left
  · have HE := Lib.hid (show V = .tuple #[iz 0, .bool false] by rw [← HV.out]; exact cenV_none fun h => Spn.ends_late (by omega))
    go_enter Tryd.func27, Tryd.ntmps27
    go_wp2_with fail
    go_ret2
    exact ⟨by rw [HE.out]; rfl, Ch.refl _ _ _⟩
  by_cases h3 : 0 ≤ n
  rotate_left
  · have HE := Lib.hid (show V = .tuple #[iz 0, .bool false] by rw [← HV.out]; exact cenV_none fun h => Spn.ends_neg (by omega))
    go_enter Tryd.func27, Tryd.ntmps27
    go_wp2_with fail
    go_ret2
    exact ⟨by rw [HE.out]; rfl, Ch.refl _ _ _⟩
  by_cases h4 : n ≤ 3652058
  rotate_left
  · have HE := Lib.hid (show V = .tuple #[iz 0, .bool false] by rw [← HV.out]; exact cenV_none fun h => Spn.ends_many h1 (by omega))
    go_enter Tryd.func27, Tryd.ntmps27
    go_wp2_with fail
    go_ret2
    exact ⟨by rw [HE.out]; rfl, Ch.refl _ _ _⟩
  have HN := Lib.hid (Spn.nf_spec (Spn.dom_has a)).1
  have HP := Lib.hid (Spn.nf_spec (Spn.dom_has a)).2
  have hm0 := nf_len (Spn.dom_has a)
  obtain ⟨P, hP⟩ : ∃ P, Spn.has a = P := ⟨_, rfl⟩
  rw [hP] at H1 HN HP hm0 HV
  obtain ⟨L, hL⟩ : ∃ L, Spn.nf P = L := ⟨_, rfl⟩
  rw [hL] at H1 HN HP hm0
  clear hL hP
  go_enter Tryd.func27, Tryd.ntmps27
  go_wp2_with fail
  refine H1.out.mono ?_
  rintro e w1 ⟨p, m, c, rfl, hr, hC⟩
  have HR := Lib.hid hr
  have HC1 := Lib.hid hC
  have hm : m ≤ 4000000 := by rw [← hr.len]; exact hm0
  clear hr hC hm0 H1
  go_wp2_with fail
  go_loopw [2, 9, 10] (fun v u i wr => ∃ (k : Nat) (r d : Int), k ≤ m ∧ i = .int .i64 k ∧ v = iz r ∧ u = iz d ∧ (s ≤ d ∧ d ≤ 3652059) ∧ (0 ≤ r ∧ r ≤ 3652058) ∧ (d = s ∨ 0 < r) ∧ Spn.cnt (fun k => !P k) s (d - s).toNat = n - r ∧ (∀ t ∈ L.take k, t.2 ≤ d) ∧ Ch w1.heap.size none1 w1 wr) (fun _ _ i _ => m - (intOf i).toNat)
  case atStart => exact ⟨0, n, s, Nat.zero_le _, rfl, rfl, rfl, by omega, by omega, .inl rfl, by rw [Int.sub_self]; show Spn.cnt _ _ 0 = _; rw [Spn.cnt_zero]; omega, by simp, Ch.refl _ _ _⟩
  case round =>
    obtain ⟨k, r, d, hk, rfl, rfl, rfl, ⟨hd0, hd1⟩, ⟨hr0, hr1⟩, hz, hc, hpre, hC2⟩ := hrel
    have HC2 := Lib.hid hC2
    have HZ := Lib.hid hz
    have HCN := Lib.hid hc
    have HPR := Lib.hid hpre
    clear hC2 hz hc hpre
    by_cases hlt : k < m
    · obtain ⟨g, o, rfl, hg⟩ := HR.out.addr (by omega)
      obtain ⟨⟨x, y⟩, ht⟩ : ∃ t, L[k]? = some t := ⟨L[k]'(by rw [HR.out.len]; exact hlt), List.getElem?_eq_getElem _⟩
      obtain ⟨c0, c1⟩ := (HR.out.ch HC2.out).sp ht
      have HSPL := Lib.hid (take_split ht)
      have HTK := Lib.hid (show L.take (k + 1) = L.take k ++ [(x, y)] by rw [List.take_add_one, ht]; rfl)
      have hr := Spn.rt_iff.1 (HN.out.1 _ (List.mem_of_getElem? ht))
      simp only at hr
      obtain ⟨q0, q1, q2⟩ := hr
      clear ht
      obtain ⟨u, hu⟩ : ∃ u, x - d = u := ⟨_, rfl⟩
      have hur : -3652059 ≤ u ∧ u ≤ 3652059 := by omega
      by_cases hu0 : u < 0
      · by_cases hr2 : r ≤ 0
        · have HQ := Lib.hid (Spn.cend (d := d) (n := r) hd0 hr0 HCN.out HZ.out (fun k h1 h2 => by omega))
          by_cases hfin : d + r ≤ 3652058
          · have HE := Lib.hid (show V = .tuple #[iz (d + r), .bool true] by rw [← HV.out]; exact cenV_some h1 (HQ.out.1 hfin))
            go_wp2_with fail
            go_ret2
            exact ⟨by rw [HE.out]; rfl, HC1.out.step0 HC2.out (Nat.le_refl _)⟩
          · have HE := Lib.hid (show V = .tuple #[iz 0, .bool false] by rw [← HV.out]; exact cenV_none fun h => HQ.out.2 (by omega))
            go_wp2_with fail
            go_ret2
            exact ⟨by rw [HE.out]; rfl, HC1.out.step0 HC2.out (Nat.le_refl _)⟩
        · have hrp : 0 < r := by omega
          by_cases hy : d < y
          · have HS := Lib.hid (Spn.cstep (d' := y) (f := 0) HN.out HP.out HSPL.out HPR.out hd0 HCN.out (.inl ⟨by omega, rfl⟩) (.inr ⟨by omega, rfl⟩))
            go_wp2_with fail
            go_roundw
            case rel => exact ⟨k + 1, r, y, by omega, by go_num, by go_num, by go_num, by omega, by omega, .inr (by omega), by rw [HS.out.1]; omega, by rw [HTK.out]; exact HS.out.2, HC2.out⟩
            case measure => simp [intOf] <;> omega
          · have HS := Lib.hid (Spn.cstep (d' := d) (f := 0) HN.out HP.out HSPL.out HPR.out hd0 HCN.out (.inl ⟨by omega, rfl⟩) (.inl ⟨by omega, rfl⟩))
            go_wp2_with fail
            go_roundw
            case rel => exact ⟨k + 1, r, d, by omega, by go_num, by go_num, by go_num, by omega, by omega, .inr (by omega), by rw [HS.out.1]; omega, by rw [HTK.out]; exact HS.out.2, HC2.out⟩
            case measure => simp [intOf] <;> omega
      · by_cases hr2 : r ≤ u
        · have HQ := Lib.hid (Spn.cend (d := d) (n := r) hd0 hr0 HCN.out HZ.out (fun k h1 h2 => Spn.crest HN.out HP.out HSPL.out HPR.out h1 (by show k < x; omega)))
          have hfin : d + r ≤ 3652058 := by omega
          have HE := Lib.hid (show V = .tuple #[iz (d + r), .bool true] by rw [← HV.out]; exact cenV_some h1 (HQ.out.1 hfin))
          go_wp2_with fail
          go_ret2
          exact ⟨by rw [HE.out]; rfl, HC1.out.step0 HC2.out (Nat.le_refl _)⟩
        · have hrp : u < r := by omega
          have hy : d < y := by omega
          have HS := Lib.hid (Spn.cstep (d' := y) (f := u) HN.out HP.out HSPL.out HPR.out hd0 HCN.out (.inr ⟨by omega, hu.symm⟩) (.inr ⟨by omega, rfl⟩))
          go_wp2_with fail
          go_roundw
          case rel => exact ⟨k + 1, r - u, y, by omega, by go_num, by go_num, by go_num, by omega, by omega, .inr (by omega), HS.out.1, by rw [HTK.out]; exact HS.out.2, HC2.out⟩
          case measure => simp [intOf] <;> omega
    · obtain rfl : k = m := by omega
      have HPA := Lib.hid (show ∀ t ∈ L, t.2 ≤ d by have h := HPR.out; rwa [← HR.out.len, List.take_length] at h)
      have HQ := Lib.hid (Spn.cend (d := d) (n := r) hd0 hr0 HCN.out HZ.out (fun k h1 _ => Spn.cpast HP.out HPA.out h1))
      clear hk
      by_cases hfin : d + r ≤ 3652058
      · have HE := Lib.hid (show V = .tuple #[iz (d + r), .bool true] by rw [← HV.out]; exact cenV_some h1 (HQ.out.1 hfin))
        go_wp2_with fail
        go_ret2
        exact ⟨by rw [HE.out]; rfl, HC1.out.step0 HC2.out (Nat.le_refl _)⟩
      · have HE := Lib.hid (show V = .tuple #[iz 0, .bool false] by rw [← HV.out]; exact cenV_none fun h => HQ.out.2 (by omega))
        go_wp2_with fail
        go_ret2
        exact ⟨by rw [HE.out]; rfl, HC1.out.step0 HC2.out (Nat.le_refl _)⟩
end Go.Proofs.YtdpapnfjjmeppaaDoor
