/- Package tithingref05: with. -/
import Derived.Test.YtnbcfolmadkliaaDoorSd
import Derived.Test.YtnbcfolmadkliaaDoorSh
namespace Go.Proofs.YtnbcfolmadkliaaDoor
open Go.RowKit
namespace Spn
/-- A number put in its place. -/
def ins (n : Int) : List Int → List Int
  | [] => [n]
  | x :: t => if n < x then n :: x :: t else if x = n then x :: t else x :: ins n t
theorem ins_mem {n z : Int} {l : List Int} : z ∈ ins n l ↔ z = n ∨ z ∈ l := by
  induction l with
  | nil => simp [ins]
  | cons x t ih =>
    unfold ins
    split
    · simp
    · split
      · rename_i h; subst h; simp
      · simp only [List.mem_cons, ih]
        constructor
        · rintro (h | h | h) <;> simp [h]
        · rintro (h | h | h) <;> simp [h]
theorem ins_inc {n : Int} {l : List Int} (h : l.Pairwise (· < ·)) : (ins n l).Pairwise (· < ·) := by
  induction l with
  | nil => simp [ins]
  | cons x t ih =>
    obtain ⟨h1, h2⟩ := List.pairwise_cons.1 h
    unfold ins
    split
    · rename_i hn
      refine List.pairwise_cons.2 ⟨fun z hz => ?_, h⟩
      rcases List.mem_cons.1 hz with rfl | hz
      · exact hn
      · have := h1 z hz; omega
    · split
      · exact h
      · refine List.pairwise_cons.2 ⟨fun z hz => ?_, ih h2⟩
        rcases ins_mem.1 hz with rfl | hz
        · omega
        · exact h1 z hz
theorem ins_len (n : Int) (l : List Int) : (ins n l).length ≤ l.length + 1 := by
  induction l with
  | nil => simp [ins]
  | cons x t ih => unfold ins; split <;> (try split) <;> simp <;> omega
end Spn
theorem in_news (W : World) (a : Int) : ∀ (j : Nat) (u : Value), [iz a][j]? = some u → (W.alloc (.cells #[iz a] 3 (0, 0))).cell? ((⟨W.heap.size, 0, none⟩ : Addr).add j) = some u := by
  intro j u h
  exact (Blk.new W #[iz a] 3).adds j u h
theorem in_one (a : Int) : ∀ u ∈ [iz a], u.oneCell' = true := iz_one (l := [a])
theorem inc_flat (l : List Int) : l.flatMap inc = l.map iz := by
  induction l with
  | nil => rfl
  | cons x t ih => rw [List.flatMap_cons, ih]; rfl
/-- A call that returns a slice of these numbers. -/
def Yi (w : World) (l : List Int) (e : Ending) (w' : World) : Prop := ∃ p n c, e = .returned (.slice p n c) ∧ Rd inc 1 w' p n l ∧ Ch w.heap.size none1 w w'
end Go.Proofs.YtnbcfolmadkliaaDoor
