/- Mathematics of terms (SpanTerms): they end, can be divided, and end no earlier. -/
import Derived.Test.YtnbcfolmadkliaaDoorJm
import Derived.Test.YtnbcfolmadkliaaDoorSv
namespace Go.Proofs.YtnbcfolmadkliaaDoor
namespace Spn
/-- Spans among the first days and the last ones alone. -/
def Low (l : List Sp) : Prop := ∀ s ∈ l, s.2 ≤ 71 ∨ 3652039 ≤ s.1
theorem Low.append {l m : List Sp} (h : Low l) (h' : Low m) : Low (l ++ m) := fun s hs => (List.mem_append.1 hs).elim (h s) (h' s)
theorem Low.ends {l : List Sp} (h : Low l) {s n : Int} (h0 : 0 ≤ s) (hs : s ≤ 1000) (hn0 : 0 ≤ n) (hn : n ≤ 1000) : ∃ d, Ends (has l) s n d := by
  refine ends_exists (by omega) hn0 ?_
  have h2 : ∀ k, s + 71 ≤ k → k < s + 1071 → has l k = false := fun k h2 h3 => has_not.2 fun t ht _ h4 => by
    rcases h t ht with q | q <;> omega
  rw [cnt_split _ (show s ≤ s + 71 by omega) (show s + 71 ≤ 3652058 by omega), cnt_split (s := s + 71) _ (show s + 71 ≤ s + 1071 by omega) (show s + 1071 ≤ 3652058 by omega),
    cnt_all (s := s + 71) (n := (s + 1071 - (s + 71)).toNat) (fun k h3 h4 => by rw [h2 k h3 (by omega)]; rfl)]
  have h3 := (cnt_nonneg (fun k => !has l k) s (s + 71 - s).toNat).1
  have h4 := (cnt_nonneg (fun k => !has l k) (s + 1071) (3652058 - (s + 1071)).toNat).1
  omega
/-- A later end of a longer term; from the first end on it is the rest of the term. -/
theorem Ends.rest {p : Int → Bool} {s m n d e : Int} (h : Ends p s m d) (h' : Ends p s (m + n) e) (hn : 0 ≤ n) : d ≤ e ∧ Ends p d n e := by
  have hle : d ≤ e := by
    by_cases hle : d ≤ e
    · exact hle
    exfalso
    have h1 := h.lt h'.lo (by omega)
    rw [h'.free] at h1
    omega
  refine ⟨hle, hle, h'.hi, ?_, ?_⟩
  · have h1 := h'.free
    rw [cnt_split _ h.lo hle, h.free] at h1
    omega
  · rcases h'.last with q | q
    · left
      have := h.lo
      omega
    · exact .inr q
theorem Ends.later {p : Int → Bool} {s t n d e : Int} (h : Ends p s n d) (h' : Ends p (s + t) n e) (ht : 0 ≤ t) : d ≤ e := by
  by_cases hle : d ≤ e
  · exact hle
  exfalso
  have h0 := h'.lo
  have h1 := h.lt (show s ≤ e by omega) (by omega)
  rw [cnt_split _ (show s ≤ s + t by omega) h0, h'.free] at h1
  have := (cnt_nonneg (fun k => !p k) s (s + t - s).toNat).1
  omega
theorem Ends.more {p q : Int → Bool} {s n d e : Int} (h : Ends p s n d) (h' : Ends q s n e) (hpq : ∀ k, p k = true → q k = true) : d ≤ e := by
  by_cases hle : d ≤ e
  · exact hle
  exfalso
  have h1 := h.lt h'.lo (by omega)
  have h2 : cnt (fun k => !q k) s (e - s).toNat ≤ cnt (fun k => !p k) s (e - s).toNat := cnt_mono (fun k hk => by
    rcases hp : p k with _ | _
    · rfl
    · rw [hpq k hp] at hk; cases hk) _ _
  rw [h'.free] at h2
  omega
end Spn
theorem made_low (xs : List (Int × Int)) : Spn.Low (made xs) := fun _ h => made_ends h
/-- The ends of SpanTerms' five terms. -/
theorem terms_all (xs ys : List (Int × Int)) {s p q t : Int} (hs : 0 ≤ s ∧ s < 100) (hp : 0 ≤ p ∧ p < 40) (hq : 0 ≤ q ∧ q < 40) (ht : 0 ≤ t ∧ t < 40) :
    ∃ m e l r, Spn.Ends (Spn.has (made xs)) s p m ∧ Spn.Ends (Spn.has (made xs)) m q e ∧ Spn.Ends (Spn.has (made xs)) s (p + q) e ∧ Spn.Ends (Spn.has (made xs)) (s + t) p l ∧ Spn.Ends (Spn.has (made xs ++ made ys)) s p r ∧ m ≤ e ∧ m ≤ l ∧ m ≤ r := by
  obtain ⟨m, hm⟩ := (made_low xs).ends (s := s) (n := p) (by omega) (by omega) (by omega) (by omega)
  obtain ⟨e, he⟩ := (made_low xs).ends (s := s) (n := p + q) (by omega) (by omega) (by omega) (by omega)
  obtain ⟨l, hl⟩ := (made_low xs).ends (s := s + t) (n := p) (by omega) (by omega) (by omega) (by omega)
  obtain ⟨r, hr⟩ := ((made_low xs).append (made_low ys)).ends (s := s) (n := p) (by omega) (by omega) (by omega) (by omega)
  obtain ⟨h1, h2⟩ := hm.rest he hq.1
  exact ⟨m, e, l, r, hm, h2, he, hl, hr, h1, hm.later hl ht.1, hm.more hr fun k hk => by rw [Spn.has_append, hk]; rfl⟩
end Go.Proofs.YtnbcfolmadkliaaDoor
