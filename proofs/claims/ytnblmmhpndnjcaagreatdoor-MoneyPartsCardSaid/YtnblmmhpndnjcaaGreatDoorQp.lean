/- Package ratio's fold over rational numbers, Sum. -/
import Derived.Test.YtnblmmhpndnjcaaGreatDoorQo
namespace Go.Proofs.YtnblmmhpndnjcaaGreatDoor
open Go.RowKit
/-- The sum of a list. -/
def rsum (l : List Rat) : Rat := l.foldr (· + ·) 0
theorem rsum_append (l m : List Rat) : rsum (l ++ m) = rsum l + rsum m := by
  unfold rsum
  induction l with
  | nil => simp only [List.nil_append, List.foldr_nil]; rw [Rat.zero_add]
  | cons a l ih => simp only [List.cons_append, List.foldr_cons]; rw [ih, Rat.add_assoc]
theorem rsum_size (K : Nat) (l : List Rat) (h : ∀ q ∈ l, Szq q K) : Szq (rsum l) (l.length * (K + 1) + 1) := by
  induction l with
  | nil =>
    rw [show ([] : List Rat).length * (K + 1) + 1 = 1 from by simp]
    exact ⟨by decide, by decide⟩
  | cons a l ih =>
    have h1 := ih fun x hx => h x (List.mem_cons_of_mem _ hx)
    have h2 := (h a (List.mem_cons_self ..)).add h1
    refine Szq.mono h2 ?_
    rw [List.length_cons, Nat.add_mul, Nat.one_mul]
    omega
abbrev FP : Value := .func (.func 111) #[] #[]
theorem Tb.cells1p {w W : World} {g : Nat} {rows : List (List Value)} (h : Tb w) (hB : Box w W g rows) (u v t : Value) :
    (((W.setCell ⟨g, 0, none⟩ u).setCell ⟨g, 1, none⟩ v).setCell ⟨g, 2, none⟩ t).cell? ⟨2, 0, none⟩ = some (.bool false) ∧ (((W.setCell ⟨g, 0, none⟩ u).setCell ⟨g, 1, none⟩ v).setCell ⟨g, 2, none⟩ t).cell? ⟨2, 1, none⟩ = some (S []) ∧ (((W.setCell ⟨g, 0, none⟩ u).setCell ⟨g, 1, none⟩ v).setCell ⟨g, 2, none⟩ t).cell? ⟨2, 2, none⟩ = some (S [1]) := by
  have hz := (h.ch hB.ch).zero
  have hl := h.size
  have hge := hB.ge
  have hne : 2 ≠ g := by omega
  have r := ((hz.set_other hne 0 u).set_other hne 1 v).set_other hne 2 t
  exact ⟨r.cell 0, r.cell 1, r.cell 2⟩
theorem Szq.rof {t : T3} {K : Nat} (hK : 1 ≤ K) (h : t.2.1.length ≤ K ∧ t.2.2.length ≤ K) : Szq (rof t) K := Szq.of_len h.1 h.2 hK
end Go.Proofs.YtnblmmhpndnjcaaGreatDoor
