/- MoneyParts: mathematics: what each part is, how far from its quota, and in which order. -/
import Derived.Test.YtnblmmhpndnjcaaGreatDoorAu
import Derived.Test.YtnblmmhpndnjcaaGreatDoorWs
namespace Go.Proofs.YtnblmmhpndnjcaaGreatDoor
open Go.RowKit
theorem up1_get (P : List Nat) (i k : Nat) (hk : k < P.length) : (up1 P i).getD k 0 = P.getD k 0 + (if i = k then 1 else 0) := by
  unfold up1
  by_cases h : i = k
  · subst h
    rw [if_pos rfl, List.getD_eq_getElem?_getD, List.getElem?_set_self (by omega)]
    rfl
  · rw [if_neg h, List.getD_eq_getElem?_getD, List.getElem?_set_ne h, Nat.add_zero, List.getD_eq_getElem?_getD]
theorem served_get (k : Nat) : ∀ (l P : List Nat), k < P.length → (served P l).getD k 0 = P.getD k 0 + l.count k
  | [], P, _ => by simp [served]
  | i :: l, P, hk => by
    show (served (up1 P i) l).getD k 0 = _
    rw [served_get k l (up1 P i) (by rw [up1_len]; exact hk), up1_get P i k hk, List.count_cons]
    by_cases h : i = k
    · subst h; simp; omega
    · rw [if_neg h]; simp [h]
/-- The places that get one more. -/
def tops (c : Nat) (X : List Nat) : List Nat := (srv (fun i => (rss c X.sum X).getD i 0) X.length).take (c - (qus c X.sum X).sum)
theorem rss_get {c s : Nat} {X : List Nat} {k x : Nat} (h : X[k]? = some x) : (rss c s X).getD k 0 = c * x % s := by
  unfold rss
  rw [List.getD_eq_getElem?_getD, List.getElem?_map, h]
  rfl
theorem qus_get {c s : Nat} {X : List Nat} {k x : Nat} (h : X[k]? = some x) : (qus c s X).getD k 0 = c * x / s := by
  unfold qus
  rw [List.getD_eq_getElem?_getD, List.getElem?_map, h]
  rfl
theorem tops_nodup (c : Nat) (X : List Nat) : (tops c X).Nodup := (srv_nodup _ _).sublist (List.take_sublist _ _)
theorem partsOf_at {c : Nat} {X : List Nat} {k x : Nat} (h : X[k]? = some x) : (partsOf c X)[k]? = some (c * x / X.sum + if k ∈ tops c X then 1 else 0) := by
  have hk : k < X.length := (List.getElem?_eq_some_iff.1 h).1
  have hl : k < (partsOf c X).length := by rw [partsOf_len]; exact hk
  have h1 : (partsOf c X).getD k 0 = (qus c X.sum X).getD k 0 + (tops c X).count k := served_get k _ _ (by unfold qus; rw [List.length_map]; exact hk)
  rw [qus_get h, (tops_nodup c X).count] at h1
  rw [List.getElem?_eq_getElem hl]
  rw [List.getD_eq_getElem?_getD, List.getElem?_eq_getElem hl] at h1
  exact congrArg some h1
theorem tops_down {c : Nat} {X : List Nat} {i k : Nat} (hi : i ∈ tops c X) (hk : k < X.length) (h : ltp (fun i => (rss c X.sum X).getD i 0) k i = true) : k ∈ tops c X := by
  unfold tops at hi ⊢
  generalize hf : (fun i => (rss c X.sum X).getD i 0) = f at *
  generalize c - (qus c X.sum X).sum = r at *
  obtain ⟨a, ha, hae⟩ := List.mem_iff_getElem.1 hi
  rw [List.length_take] at ha
  rw [List.getElem_take] at hae
  obtain ⟨b, hb, hbe⟩ := List.mem_iff_getElem.1 ((srv_mem f X.length k).2 hk)
  by_cases hbr : b < r
  · rw [List.mem_iff_getElem]
    exact ⟨b, by rw [List.length_take]; omega, by rw [List.getElem_take]; exact hbe⟩
  · exfalso
    have h4 := List.pairwise_iff_getElem.1 (srv_sorted f X.length) a b (by omega) hb (by omega)
    rw [hae, hbe] at h4
    rw [ltp_iff] at h h4
    omega
theorem sum_below (f : Nat → Nat) (s : Nat) (hf : ∀ i, f i < s) : ∀ l : List Nat, (l.map f).sum + l.length ≤ l.length * s
  | [] => by simp
  | i :: l => by
    have h1 := sum_below f s hf l
    have h2 := hf i
    rw [List.map_cons, List.sum_cons, List.length_cons, Nat.add_mul]
    omega
theorem sum_zero (f : Nat → Nat) : ∀ l : List Nat, (∀ i ∈ l, f i = 0) → (l.map f).sum = 0
  | [], _ => rfl
  | i :: l, h => by rw [List.map_cons, List.sum_cons, h i (List.mem_cons_self ..), sum_zero f l (fun j hj => h j (List.mem_cons_of_mem _ hj))]
theorem rss_range (c s : Nat) (X : List Nat) : (List.range X.length).map (fun i => (rss c s X).getD i 0) = rss c s X := by
  apply List.ext_getElem?
  intro i
  by_cases hi : i < X.length
  · have hl : i < (rss c s X).length := by unfold rss; rw [List.length_map]; exact hi
    rw [List.getElem?_map, List.getElem?_range hi, List.getElem?_eq_getElem hl]
    show some ((rss c s X).getD i 0) = _
    rw [List.getD_eq_getElem?_getD, List.getElem?_eq_getElem hl]
    rfl
  · rw [List.getElem?_eq_none (by rw [List.length_map, List.length_range]; omega), List.getElem?_eq_none (by unfold rss; rw [List.length_map]; omega)]
/-- Who gets one more has a rest. -/
theorem tops_pos {c : Nat} {X : List Nat} {k x : Nat} (hs : 0 < X.sum) (hk : k ∈ tops c X) (h : X[k]? = some x) : 0 < c * x % X.sum := by
  rcases Nat.eq_zero_or_pos (c * x % X.sum) with h0 | h0
  · exfalso
    have hr := rss_get (c := c) (s := X.sum) h
    rw [h0] at hr
    have hq := qus_rss c X.sum X
    have hle := left_le c X hs
    have hlt : ∀ i, (rss c X.sum X).getD i 0 < X.sum := fun i => by
      rw [List.getD_eq_getElem?_getD]
      unfold rss
      rw [List.getElem?_map]
      cases X[i]? with
      | none => exact hs
      | some y => exact Nat.mod_lt _ hs
    have hsum := rss_range c X.sum X
    unfold tops at hk
    have hperm := (srv_perm (fun i => (rss c X.sum X).getD i 0) X.length).map (fun i => (rss c X.sum X).getD i 0)
    have hso := srv_sorted (fun i => (rss c X.sum X).getD i 0) X.length
    generalize hL : srv (fun i => (rss c X.sum X).getD i 0) X.length = L at *
    have ht : (L.map (fun i => (rss c X.sum X).getD i 0)).sum = (rss c X.sum X).sum := by rw [hperm.sum_nat, hsum]
    generalize hf : (fun i => (rss c X.sum X).getD i 0) = f at *
    have hlf : ∀ i, f i < X.sum := fun i => by rw [← hf]; exact hlt i
    have hfk : f k = 0 := by rw [← hf]; exact hr
    obtain ⟨a, ha, hae⟩ := List.mem_iff_getElem.1 hk
    rw [List.length_take] at ha
    rw [List.getElem_take] at hae
    have hdec : L = L.take a ++ k :: L.drop (a + 1) := by
      rw [← hae, ← List.drop_eq_getElem_cons (by omega), List.take_append_drop]
    have hz : ∀ y ∈ L.drop (a + 1), f y = 0 := fun y hy => by
      obtain ⟨b, hb, hbe⟩ := List.mem_iff_getElem.1 hy
      rw [List.length_drop] at hb
      rw [List.getElem_drop] at hbe
      have h4 := List.pairwise_iff_getElem.1 hso a (a + 1 + b) (by omega) (by omega) (by omega)
      rw [hae, hbe, ltp_iff] at h4
      omega
    have h1 := sum_below f X.sum hlf (L.take a)
    rw [hdec, List.map_append, List.map_cons, List.sum_append, List.sum_cons, hfk, sum_zero f _ hz] at ht
    have hla : (L.take a).length = a := by rw [List.length_take]; omega
    rw [hla] at h1
    have h2 : (c - (qus c X.sum X).sum) * X.sum = (rss c X.sum X).sum := by
      rw [Nat.sub_mul]; omega
    have h3 : (a + 1) * X.sum ≤ (c - (qus c X.sum X).sum) * X.sum := Nat.mul_le_mul_right _ (by omega)
    rw [Nat.add_mul] at h3
    omega
  · exact h0
/-- A greater weight has no smaller part; of equal ones the first has no smaller one. -/
theorem parts_ge {c : Nat} {X : List Nat} {i k x y p q : Nat} (_ : 0 < X.sum) (hi : X[i]? = some x) (hk : X[k]? = some y) (hik : i < k) (hxy : y ≤ x) (hp : (partsOf c X)[i]? = some p) (hq : (partsOf c X)[k]? = some q) : q ≤ p := by
  rw [partsOf_at hi] at hp
  rw [partsOf_at hk] at hq
  have hp := Option.some.inj hp
  have hq := Option.some.inj hq
  have hm : c * y ≤ c * x := Nat.mul_le_mul_left _ hxy
  have hd : c * y / X.sum ≤ c * x / X.sum := Nat.div_le_div_right hm
  by_cases hkt : k ∈ tops c X
  · by_cases he : c * y / X.sum = c * x / X.sum
    · have hmod : c * y % X.sum ≤ c * x % X.sum := by
        have h1 := Nat.div_add_mod (c * y) X.sum
        have h2 := Nat.div_add_mod (c * x) X.sum
        rw [he] at h1
        omega
      have hit : i ∈ tops c X := tops_down hkt (List.getElem?_eq_some_iff.1 hi).1 (by
        rw [ltp_iff, rss_get hi, rss_get hk]
        omega)
      rw [if_pos hit] at hp
      rw [if_pos hkt] at hq
      omega
    · split at hp <;> split at hq <;> omega
  · rw [if_neg hkt] at hq
    omega
theorem parts_le {c : Nat} {X : List Nat} {i k x y p q : Nat} (hs : 0 < X.sum) (hi : X[i]? = some x) (hk : X[k]? = some y) (hxy : x < y) (hp : (partsOf c X)[i]? = some p) (hq : (partsOf c X)[k]? = some q) : p ≤ q := by
  rw [partsOf_at hi] at hp
  rw [partsOf_at hk] at hq
  have hp := Option.some.inj hp
  have hq := Option.some.inj hq
  have hm : c * x ≤ c * y := Nat.mul_le_mul_left _ (Nat.le_of_lt hxy)
  have hd : c * x / X.sum ≤ c * y / X.sum := Nat.div_le_div_right hm
  by_cases hit : i ∈ tops c X
  · by_cases he : c * x / X.sum = c * y / X.sum
    · have h1 := Nat.div_add_mod (c * x) X.sum
      have h2 := Nat.div_add_mod (c * y) X.sum
      rw [he] at h1
      have hpos := tops_pos hs hit hi
      have hc : 0 < c := by
        rcases Nat.eq_zero_or_pos c with h0 | h0
        · rw [h0] at hpos; simp at hpos
        · exact h0
      have hlt : c * x < c * y := Nat.mul_lt_mul_of_pos_left hxy hc
      have hkt : k ∈ tops c X := tops_down hit (List.getElem?_eq_some_iff.1 hk).1 (by
        rw [ltp_iff, rss_get hi, rss_get hk]
        omega)
      rw [if_pos hkt] at hq
      rw [if_pos hit] at hp
      omega
    · split at hp <;> split at hq <;> omega
  · rw [if_neg hit] at hp
    omega
/-- Each part is less than one away from its quota. -/
theorem parts_near {c : Nat} {X : List Nat} {k x p : Nat} (hs : 0 < X.sum) (hk : X[k]? = some x) (hp : (partsOf c X)[k]? = some p) : p * X.sum < c * x + X.sum ∧ c * x < p * X.sum + X.sum := by
  rw [partsOf_at hk] at hp
  have hp := Option.some.inj hp
  have h1 := Nat.div_add_mod (c * x) X.sum
  have h2 := Nat.mod_lt (c * x) hs
  rw [Nat.mul_comm] at h1
  by_cases hkt : k ∈ tops c X
  · have h3 := tops_pos hs hkt hk
    rw [if_pos hkt] at hp
    rw [← hp, Nat.add_mul, Nat.one_mul]
    omega
  · rw [if_neg hkt, Nat.add_zero] at hp
    rw [← hp]
    omega
theorem sumQ_rsum : ∀ (l : List T3), sumQ l = rsum (l.map rof) := by
  have h : ∀ (l : List T3) (a : Rat), l.foldl (fun a t => a + ratOf t.1 t.2.1 t.2.2) a = a + rsum (l.map rof) := by
    intro l
    induction l with
    | nil => intro a; exact (Rat.add_zero a).symm
    | cons t l ih =>
      intro a
      rw [List.foldl_cons, ih, List.map_cons]
      show a + rof t + rsum (l.map rof) = a + (rof t + rsum (l.map rof))
      grind
  intro l
  have := h l 0
  rw [Rat.zero_add] at this
  exact this
end Go.Proofs.YtnblmmhpndnjcaaGreatDoor
