/- Package tithingref05: bounds: the mathematics of pieces; the walk of bounds. -/
import Derived.Test.YtnbcfolmadkliaaDoorSn
import Derived.Deep.RegionHeld3
namespace Go.Proofs.YtnbcfolmadkliaaDoor
namespace Spn
/-- The bounds of right spans, in their order, each once. -/
def rb (l : List Sp) : List Int := l.foldl (fun o s => if rt s then ins s.2 (ins s.1 o) else o) []
theorem rb_nil : rb [] = [] := rfl
theorem rb_snoc (l : List Sp) (s : Sp) : rb (l ++ [s]) = if rt s then ins s.2 (ins s.1 (rb l)) else rb l := by simp [rb]
theorem rb_spec (l : List Sp) : (rb l).Pairwise (· < ·) ∧ (rb l).length ≤ 2 * l.length ∧ ∀ z, z ∈ rb l ↔ ∃ s, s ∈ l ∧ rt s = true ∧ (z = s.1 ∨ z = s.2) := by
  have key : ∀ (m : List Sp) (r : List Sp), m = r.reverse → (rb m).Pairwise (· < ·) ∧ (rb m).length ≤ 2 * m.length ∧ ∀ z, z ∈ rb m ↔ ∃ s, s ∈ m ∧ rt s = true ∧ (z = s.1 ∨ z = s.2) := by
    intro m r
    induction r generalizing m with
    | nil => rintro rfl; simp [rb]
    | cons x r ih =>
      rintro rfl
      obtain ⟨h1, h2, h3⟩ := ih _ rfl
      rw [List.reverse_cons, rb_snoc]
      split
      · rename_i hr
        refine ⟨ins_inc (ins_inc h1), ?_, fun z => ?_⟩
        · have a1 := ins_len x.2 (ins x.1 (rb r.reverse))
          have a2 := ins_len x.1 (rb r.reverse)
          rw [List.length_append]
          simp only [List.length_cons, List.length_nil]
          omega
        · rw [ins_mem, ins_mem, h3]
          constructor
          · rintro (h | h | ⟨s, hs, h⟩)
            · exact ⟨x, by simp, hr, .inr h⟩
            · exact ⟨x, by simp, hr, .inl h⟩
            · exact ⟨s, by simp at hs ⊢; exact .inl hs, h⟩
          · rintro ⟨s, hs, hr', hz⟩
            rcases List.mem_append.1 hs with hs | hs
            · exact .inr (.inr ⟨s, hs, hr', hz⟩)
            · rw [List.mem_singleton.1 hs] at hz
              rcases hz with hz | hz
              · exact .inr (.inl hz)
              · exact .inl hz
      · rename_i hr
        refine ⟨h1, by rw [List.length_append]; omega, fun z => ?_⟩
        rw [h3]
        constructor
        · rintro ⟨s, hs, h⟩
          exact ⟨s, by simp at hs ⊢; exact .inl hs, h⟩
        · rintro ⟨s, hs, hr', hz⟩
          rcases List.mem_append.1 hs with hs | hs
          · exact ⟨s, hs, hr', hz⟩
          · rw [List.mem_singleton.1 hs] at hr'; exact absurd hr' hr
  exact key l l.reverse (by simp)
theorem has_const {l : List Sp} {c d : Int} (hcd : c ≤ d) (h : ∀ s, s ∈ l → rt s = true → (s.1 ≤ c ∨ d < s.1) ∧ (s.2 ≤ c ∨ d < s.2)) : has l d = has l c := by
  rw [Bool.eq_iff_iff, has_iff, has_iff]
  constructor
  · rintro ⟨s, hs, hr, h1, h2⟩
    have := h s hs hr
    exact ⟨s, hs, hr, by omega, by omega⟩
  · rintro ⟨s, hs, hr, h1, h2⟩
    have := h s hs hr
    exact ⟨s, hs, hr, by omega, by omega⟩
/-- What 'pieces' has, up to day t. -/
structure Pc (Q : Int → Bool) (t : Int) (l : List Sp) : Prop where
  nrm : Nrm l
  ends : ∀ s ∈ l, s.2 ≤ t
  days : ∀ d, d < t → has l d = Q d
theorem Pc.start {Q : Int → Bool} {t : Int} (h : ∀ d, d < t → Q d = false) : Pc Q t [] := ⟨Nrm.nil, by simp, fun d hd => by rw [h d hd]; rfl⟩
theorem Pc.skip {Q : Int → Bool} {t t' : Int} {l : List Sp} (h : Pc Q t l) (hlt : t ≤ t') (hq : ∀ d, t ≤ d → d < t' → Q d = false) : Pc Q t' l :=
  ⟨h.nrm, fun s hs => by have := h.ends s hs; omega, fun d hd => by
    by_cases h1 : d < t
    · exact h.days d h1
    · rw [hq d (by omega) hd]
      exact has_past h.ends (by omega)⟩
theorem Pc.add {Q : Int → Bool} {t t' : Int} {l : List Sp} (h : Pc Q t l) (h0 : 0 ≤ t) (hlt : t < t') (hM : t' ≤ 3652059) (hl : ∀ s ∈ l, s.2 < t) (hq : ∀ d, t ≤ d → d < t' → Q d = true) : Pc Q t' (l ++ [(t, t')]) := by
  have hr : rt (t, t') = true := rt_iff.2 ⟨h0, hlt, hM⟩
  refine ⟨nrm_snoc.2 ⟨h.nrm, hr, hl⟩, ?_, fun d hd => ?_⟩
  · intro s hs
    rcases List.mem_append.1 hs with hs | hs
    · have := h.ends s hs; omega
    · rw [List.mem_singleton.1 hs]; exact Int.le_refl _
  · rw [has_append, has_cons, has_nil, Bool.or_false, inn, hr, Bool.true_and]
    show (has l d || (decide (t ≤ d) && decide (d < t'))) = Q d
    by_cases h1 : d < t
    · rw [h.days d h1, decide_eq_false (show ¬ t ≤ d by omega)]; simp
    · rw [has_past h.ends (by omega), hq d (by omega) hd, decide_eq_true (by omega), decide_eq_true hd]; rfl
theorem Pc.ext {Q : Int → Bool} {f t t' : Int} {l : List Sp} (h : Pc Q t (l ++ [(f, t)])) (hlt : t < t') (hM : t' ≤ 3652059) (hq : ∀ d, t ≤ d → d < t' → Q d = true) : Pc Q t' (l ++ [(f, t')]) := by
  obtain ⟨n1, rx, bx⟩ := nrm_snoc.1 h.nrm
  have qx := rt_iff.1 rx
  simp only at qx
  have hr : rt (f, t') = true := rt_iff.2 ⟨qx.1, by show f < t'; omega, hM⟩
  refine ⟨nrm_snoc.2 ⟨n1, hr, bx⟩, ?_, fun d hd => ?_⟩
  · intro s hs
    rcases List.mem_append.1 hs with hs | hs
    · have := h.ends s (by simp [hs]); omega
    · rw [List.mem_singleton.1 hs]; exact Int.le_refl _
  · rw [has_append, has_cons, has_nil, Bool.or_false, inn, hr, Bool.true_and]
    show (has l d || (decide (f ≤ d) && decide (d < t'))) = Q d
    by_cases h1 : d < t
    · rw [← h.days d h1, has_append, has_cons, has_nil, Bool.or_false, inn, rx, Bool.true_and]
      show _ = (has l d || (decide (f ≤ d) && decide (d < t)))
      rw [decide_eq_true hd, decide_eq_true h1]
    · rw [hq d (by omega) hd, decide_eq_true (show f ≤ d by omega), decide_eq_true hd]; simp
theorem Pc.fin {Q : Int → Bool} {t : Int} {l : List Sp} (h : Pc Q t l) (hq : ∀ d, t ≤ d → Q d = false) : nf Q = l :=
  nf_eq h.nrm fun d => by
    by_cases h1 : d < t
    · exact h.days d h1
    · rw [hq d (by omega)]; exact has_past h.ends (by omega)
theorem Pc.far {Q : Int → Bool} {f e t : Int} {l : List Sp} (h : Pc Q t (l ++ [(f, e)])) (hne : e ≠ t) : ∀ s ∈ l ++ [(f, e)], s.2 < t := by
  obtain ⟨n1, rx, bx⟩ := nrm_snoc.1 h.nrm
  have qx := rt_iff.1 rx
  simp only at qx
  have he := h.ends (f, e) (by simp)
  simp only at he
  intro s hs
  rcases List.mem_append.1 hs with hs | hs
  · have := bx s hs; simp only at this; omega
  · rw [List.mem_singleton.1 hs]; show e < t; omega
/-- Between two bounds nothing changes. -/
theorem rb_between {a b : List Sp} {c : List Int} {i : Nat} {t t' : Int} (hc : rb (a ++ b) = c) (h1 : c[i]? = some t) (h2 : c[i + 1]? = some t') (d : Int) (hd : t ≤ d) (hd2 : d < t') : has a d = has a t ∧ has b d = has b t := by
  obtain ⟨hp, _, hm⟩ := rb_spec (a ++ b)
  rw [hc] at hp hm
  have key : ∀ s ∈ a ++ b, rt s = true → (s.1 ≤ t ∨ d < s.1) ∧ (s.2 ≤ t ∨ d < s.2) := by
    have one : ∀ z, z ∈ c → z ≤ t ∨ d < z := by
      intro z hz
      obtain ⟨j, hj⟩ := List.mem_iff_getElem?.1 hz
      obtain ⟨l1, e1⟩ := List.getElem?_eq_some_iff.1 h1
      obtain ⟨l2, e2⟩ := List.getElem?_eq_some_iff.1 h2
      obtain ⟨l3, e3⟩ := List.getElem?_eq_some_iff.1 hj
      have hpp := List.pairwise_iff_getElem.1 hp
      rcases Nat.lt_trichotomy j i with q | q | q
      · have := hpp j i l3 l1 q; omega
      · subst q; omega
      · rcases Nat.lt_or_ge (i + 1) j with q2 | q2
        · have := hpp (i + 1) j l2 l3 q2; omega
        · have : j = i + 1 := by omega
          subst this; omega
    intro s hs hr
    exact ⟨one _ ((hm _).2 ⟨s, hs, hr, .inl rfl⟩), one _ ((hm _).2 ⟨s, hs, hr, .inr rfl⟩)⟩
  exact ⟨has_const hd fun s hs => key s (by simp [hs]), has_const hd fun s hs => key s (by simp [hs])⟩
theorem rb_lt {a b : List Sp} {c : List Int} {i : Nat} {t t' : Int} (hc : rb (a ++ b) = c) (h1 : c[i]? = some t) (h2 : c[i + 1]? = some t') : t < t' := by
  have hp := (rb_spec (a ++ b)).1
  rw [hc] at hp
  obtain ⟨l1, e1⟩ := List.getElem?_eq_some_iff.1 h1
  obtain ⟨l2, e2⟩ := List.getElem?_eq_some_iff.1 h2
  have := List.pairwise_iff_getElem.1 hp i (i + 1) l1 l2 (by omega)
  omega
theorem rb_range {a b : List Sp} {c : List Int} {i : Nat} {t : Int} (hc : rb (a ++ b) = c) (h1 : c[i]? = some t) : 0 ≤ t ∧ t ≤ 3652059 := by
  have hm := (rb_spec (a ++ b)).2.2
  rw [hc] at hm
  obtain ⟨s, _, hr, hz⟩ := (hm t).1 (List.mem_of_getElem? h1)
  have := rt_iff.1 hr
  omega
/-- Before the first bound, and from the last one on, there are no days. -/
theorem rb_first {a b : List Sp} {c : List Int} {t : Int} (hc : rb (a ++ b) = c) (h1 : c[0]? = some t) (d : Int) (hd : d < t) : has a d = false ∧ has b d = false := by
  obtain ⟨hp, _, hm⟩ := rb_spec (a ++ b)
  rw [hc] at hp hm
  have key : ∀ s ∈ a ++ b, rt s = true → t ≤ s.1 := by
    intro s hs hr
    obtain ⟨j, hj⟩ := List.mem_iff_getElem?.1 ((hm s.1).2 ⟨s, hs, hr, .inl rfl⟩)
    obtain ⟨l1, e1⟩ := List.getElem?_eq_some_iff.1 h1
    obtain ⟨l3, e3⟩ := List.getElem?_eq_some_iff.1 hj
    rcases Nat.eq_zero_or_pos j with q | q
    · subst q; omega
    · have := List.pairwise_iff_getElem.1 hp 0 j l1 l3 q; omega
  refine ⟨has_not.2 fun s hs hr h => ?_, has_not.2 fun s hs hr h => ?_⟩
  · have := key s (by simp [hs]) hr; omega
  · have := key s (by simp [hs]) hr; omega
theorem rb_last {a b : List Sp} {c : List Int} {i : Nat} {t : Int} (hc : rb (a ++ b) = c) (h1 : c[i]? = some t) (hi : i + 1 = c.length) (d : Int) (hd : t ≤ d) : has a d = false ∧ has b d = false := by
  obtain ⟨hp, _, hm⟩ := rb_spec (a ++ b)
  rw [hc] at hp hm
  have key : ∀ s ∈ a ++ b, rt s = true → s.2 ≤ t := by
    intro s hs hr
    obtain ⟨j, hj⟩ := List.mem_iff_getElem?.1 ((hm s.2).2 ⟨s, hs, hr, .inr rfl⟩)
    obtain ⟨l1, e1⟩ := List.getElem?_eq_some_iff.1 h1
    obtain ⟨l3, e3⟩ := List.getElem?_eq_some_iff.1 hj
    rcases Nat.lt_or_ge j i with q | q
    · have := List.pairwise_iff_getElem.1 hp j i l3 l1 q; omega
    · have : j = i := by omega
      subst this; omega
  refine ⟨has_not.2 fun s hs hr h => ?_, has_not.2 fun s hs hr h => ?_⟩
  · have := key s (by simp [hs]) hr; omega
  · have := key s (by simp [hs]) hr; omega
theorem rb_none {a b : List Sp} (hc : rb (a ++ b) = []) (d : Int) : has a d = false ∧ has b d = false := by
  have hm := (rb_spec (a ++ b)).2.2
  rw [hc] at hm
  have key : ∀ s ∈ a ++ b, rt s = true → False := fun s hs hr => by have := (hm s.1).2 ⟨s, hs, hr, .inl rfl⟩; simp at this
  refine ⟨has_not.2 fun s hs hr h => ?_, has_not.2 fun s hs hr h => ?_⟩
  · exact (key s (by simp [hs]) hr).elim
  · exact (key s (by simp [hs]) hr).elim
end Spn
open Go.RowKit Go.Shelf
/-- What a region with calls of 'with' holds. -/
structure Rg (w W : World) (X : Nat) (x y : Int) (p : Option Addr) (n : Nat) (l : List Int) : Prop where
  ch : Ch w.heap.size none1 w W
  bx : Blk W X 35 [iz x, iz y]
  rd : Rd inc 1 W p n l
theorem Rg.drew {w W : World} {X : Nat} {x y : Int} {p : Option Addr} {n : Nat} {l : List Int} (h : Rg w W X x y p n l) : Rg w W.drew X x y p n l := ⟨h.ch.drew, h.bx.drew, ⟨h.rd.len, h.rd.nil, h.rd.at'⟩⟩
theorem Rg.next {w W W' : World} {X : Nat} {x y : Int} {p p' : Option Addr} {n n' : Nat} {l l' : List Int} (h : Rg w W X x y p n l) (hC : Ch W.heap.size none1 W W') (hr : Rd inc 1 W' p' n' l') : Rg w W' X x y p' n' l' :=
  ⟨h.ch.step0 hC (Nat.le_refl _), hC.blk h.bx h.bx.lt (fun q => q), hr⟩
theorem Rg.cells {w W : World} {X : Nat} {x y : Int} {p : Option Addr} {n : Nat} {l : List Int} (h : Rg w W X x y p n l) : W.cell? ⟨X, 0, none⟩ = some (iz x) ∧ W.cell? ⟨X, 1, none⟩ = some (iz y) := ⟨h.bx.cell 0, h.bx.cell 1⟩
end Go.Proofs.YtnbcfolmadkliaaDoor
