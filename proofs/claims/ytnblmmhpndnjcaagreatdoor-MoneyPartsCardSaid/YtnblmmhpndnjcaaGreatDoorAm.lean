/- Package money: the mathematics of a division into parts. -/
import Derived.Test.YtnblmmhpndnjcaaGreatDoorAi
namespace Go.Proofs.YtnblmmhpndnjcaaGreatDoor
/-- The quotas, rounded down; their rests over the same denominator. -/
def qus (c s : Nat) (X : List Nat) : List Nat := X.map fun x => c * x / s
def rss (c s : Nat) (X : List Nat) : List Nat := X.map fun x => c * x % s
theorem qus_rss (c s : Nat) : ∀ X : List Nat, (qus c s X).sum * s + (rss c s X).sum = c * X.sum
  | [] => by simp [qus, rss]
  | x :: X => by
    have ih := qus_rss c s X
    have hd := Nat.div_add_mod (c * x) s
    simp only [qus, rss, List.map_cons, List.sum_cons] at ih ⊢
    rw [Nat.add_mul, Nat.mul_add, ← ih, Nat.mul_comm (c * x / s) s]
    generalize s * (c * x / s) = A at hd ⊢
    generalize c * x % s = R at hd ⊢
    generalize c * x = T at hd ⊢
    omega
theorem rss_lt (c s : Nat) (hs : 0 < s) : ∀ X : List Nat, X ≠ [] → (rss c s X).sum < X.length * s
  | [], h => (h rfl).elim
  | [x], _ => by
    have := Nat.mod_lt (c * x) hs
    simp only [rss, List.map_cons, List.map_nil, List.sum_cons, List.sum_nil, List.length_cons, List.length_nil]
    omega
  | x :: y :: X, _ => by
    have ih := rss_lt c s hs (y :: X) (by simp)
    have := Nat.mod_lt (c * x) hs
    simp only [rss, List.map_cons, List.sum_cons, List.length_cons] at ih ⊢
    rw [Nat.add_mul (X.length + 1) 1 s, Nat.one_mul]
    omega
/-- What is left over after rounding down: less than there are weights. -/
theorem left_le (c : Nat) (X : List Nat) (hs : 0 < X.sum) : (qus c X.sum X).sum ≤ c := by
  have h := qus_rss c X.sum X
  exact Nat.le_of_mul_le_mul_right (Nat.le_trans (Nat.le_add_right _ _) (Nat.le_of_eq h)) hs
theorem left_lt (c : Nat) (X : List Nat) (hs : 0 < X.sum) : c - (qus c X.sum X).sum < X.length := by
  have h := qus_rss c X.sum X
  have h1 := left_le c X hs
  have h2 := rss_lt c X.sum hs X (by rintro rfl; simp at hs)
  have h3 : (c - (qus c X.sum X).sum) * X.sum = (rss c X.sum X).sum := by rw [Nat.sub_mul]; omega
  exact Nat.lt_of_mul_lt_mul_right (h3 ▸ h2 : (c - (qus c X.sum X).sum) * X.sum < X.length * X.sum)
/-- Parts: the ones that are served get one more. -/
def up1 (P : List Nat) (i : Nat) : List Nat := P.set i (P.getD i 0 + 1)
def served (P : List Nat) (l : List Nat) : List Nat := l.foldl up1 P
theorem up1_len (P : List Nat) (i : Nat) : (up1 P i).length = P.length := by unfold up1; rw [List.length_set]
theorem served_len (l : List Nat) : ∀ P : List Nat, (served P l).length = P.length := by
  induction l with
  | nil => intro P; rfl
  | cons i l ih => intro P; show (served (up1 P i) l).length = _; rw [ih, up1_len]
theorem up1_sum : ∀ (P : List Nat) (i : Nat), i < P.length → (up1 P i).sum = P.sum + 1
  | [], i, h => by simp at h
  | x :: P, 0, _ => by simp [up1]; omega
  | x :: P, i + 1, h => by
    have ih := up1_sum P i (by simpa using h)
    simp only [up1, List.set_cons_succ, List.getD_cons_succ, List.sum_cons] at ih ⊢
    omega
theorem served_sum (l : List Nat) : ∀ P : List Nat, (∀ i ∈ l, i < P.length) → (served P l).sum = P.sum + l.length := by
  induction l with
  | nil => intro P _; rfl
  | cons i l ih =>
    intro P h
    show (served (up1 P i) l).sum = _
    rw [ih _ (fun j hj => by rw [up1_len]; exact h j (by simp [hj])), up1_sum P i (h i (by simp)), List.length_cons]
    omega
/-- The parts of c, by the weights X. -/
def partsOf (c : Nat) (X : List Nat) : List Nat := served (qus c X.sum X) ((srv (fun i => (rss c X.sum X).getD i 0) X.length).take (c - (qus c X.sum X).sum))
theorem partsOf_len (c : Nat) (X : List Nat) : (partsOf c X).length = X.length := by unfold partsOf qus; rw [served_len, List.length_map]
/-- The parts are all of c. -/
theorem partsOf_sum (c : Nat) (X : List Nat) (hs : 0 < X.sum) : (partsOf c X).sum = c := by
  have h1 := left_le c X hs
  have h2 := left_lt c X hs
  unfold partsOf
  rw [served_sum _ _ (fun i hi => by
    have := (srv_mem _ _ i).1 (List.mem_of_mem_take hi)
    unfold qus
    rw [List.length_map]
    exact this), List.length_take, srv_len]
  omega
end Go.Proofs.YtnblmmhpndnjcaaGreatDoor
