/- Package span: slices.Contains at []bool; the three closures; slices.ContainsFunc at []api.Span; Has; the reference's Has. -/
import Derived.Test.YtnbcfolmadkliaaDoorSb
import Derived.BigQuiet
namespace Go.Proofs.YtnbcfolmadkliaaDoor
open Go.RowKit
set_option maxRecDepth 100000 in
set_option maxHeartbeats 1600000 in
theorem index_bool (w : World) (p : Option Addr) (n cap : Nat) (l : List Bool) (b : Bool) (hv : Rd boc 1 w p n l) (hn : n ≤ 1000) :
    Calls Tryd.prog 40 #[.slice p n cap, .bool b] w fun e w' => ∃ i : Int, e = .returned (iz i) ∧ (0 ≤ i ↔ b ∈ l) ∧ w = w' := by
  have HV := Lib.hid hv
  clear hv
  go_enter Tryd.func40, Tryd.ntmps40
  go_wp2_with fail
  go_loopw [8] (fun i wr => ∃ k : Nat, k ≤ n ∧ i = .int .i64 k ∧ wr = w ∧ ∀ j, j < k → l[j]? ≠ some b) (fun i _ => n - (intOf i).toNat)
  case atStart => exact ⟨0, Nat.zero_le _, rfl, rfl, fun j h => by omega⟩
  case round =>
    obtain ⟨k, hk, rfl, rfl, hno⟩ := hrel
    have HN := Lib.hid hno
    clear hno
    by_cases hlt : k < n
    · obtain ⟨g, o, rfl, hg⟩ := HV.out.addr (by omega)
      obtain ⟨t, ht⟩ : ∃ t, l[k]? = some t := ⟨l[k]'(by rw [HV.out.len]; exact hlt), List.getElem?_eq_getElem _⟩
      have c0 := HV.out.bo ht
      have HL := Lib.hid ht
      clear ht
      by_cases hbt : b = t
      · subst hbt
        go_wp2_with fail
        go_ret
        exact ⟨_, rfl, ⟨fun _ => List.mem_of_getElem? HL.out, fun _ => by omega⟩, rfl⟩
      · have hb2 : (b == t) = false := beq_eq_false_iff_ne.2 hbt
        have HBT := Lib.hid hbt
        clear hbt
        go_wp2_with fail
        go_roundw
        case rel =>
          refine ⟨k + 1, by omega, by go_num, by first | rfl | trivial, fun j hj => ?_⟩
          rcases Nat.lt_or_ge j k with h | h
          · exact HN.out j h
          · obtain rfl : j = k := by omega
            rw [HL.out]
            exact fun q => HBT.out (Option.some.inj q).symm
        case measure => simp [intOf]; omega
    · obtain rfl : k = n := by omega
      go_wp2_with fail
      go_ret
      refine ⟨_, rfl, ⟨fun h => by omega, fun h => ?_⟩, rfl⟩
      obtain ⟨j, hj⟩ := List.mem_iff_getElem?.1 h
      exact absurd hj (HN.out j (by have := (List.getElem?_eq_some_iff.1 hj).1; rw [HV.out.len] at this; exact this))
set_option maxRecDepth 100000 in
set_option maxHeartbeats 1600000 in
theorem contains_bool (w : World) (p : Option Addr) (n cap : Nat) (l : List Bool) (b r : Bool) (hv : Rd boc 1 w p n l) (hn : n ≤ 1000) (hr : (decide (b ∈ l)) = r) :
    Calls Tryd.prog 29 #[.slice p n cap, .bool b] w fun e w' => e = .returned (.bool r) ∧ w = w' := by
  have H1 := Lib.hid (index_bool w p n cap l b hv hn)
  have HR := Lib.hid hr
  clear hv hr
  go_enter Tryd.func29, Tryd.ntmps29
  go_wp2_with fail
  refine H1.out.mono ?_
  rintro e w' ⟨i, rfl, hi, rfl⟩
  have HI := Lib.hid hi
  clear hi
  go_wp2_with fail
  go_ret
  refine ⟨ret_bool ?_, rfl⟩
  rw [← HR.out, decide_eq_decide]
  exact HI.out
/-- The three ways to combine two lists. -/
def kUnion (x y : Bool) : Bool := x || y
def kMeet (x y : Bool) : Bool := x && y
def kLess (x y : Bool) : Bool := x && !y
/-- A function that keeps the days for which q says so: it makes and writes nothing. -/
def Keeps (f : Nat) (q : Bool → Bool → Bool) : Prop := ∀ (g o : Nat) (x y : Bool) (w : World), Rd boc 1 w (some ⟨g, o, none⟩) 2 [x, y] → Calls Tryd.prog f #[.slice (some ⟨g, o, none⟩) 2 2] w fun e w' => e = .returned (.bool (q x y)) ∧ w = w'
set_option maxRecDepth 100000 in
set_option maxHeartbeats 1600000 in
theorem union_keeps : Keeps 28 kUnion := fun g o x y w hv => by
  have H1 := Lib.hid (contains_bool w (some ⟨g, o, none⟩) 2 2 [x, y] true (kUnion x y) hv (by omega) (by cases x <;> cases y <;> rfl))
  clear hv
  generalize kUnion x y = r at H1 ⊢
  go_enter Tryd.func28, Tryd.ntmps28
  go_wp2_with fail
  refine H1.out.mono ?_
  rintro e w' ⟨rfl, rfl⟩
  go_wp2_with fail
  go_ret
  exact ⟨rfl, rfl⟩
set_option maxRecDepth 100000 in
set_option maxHeartbeats 1600000 in
theorem meet_keeps : Keeps 30 kMeet := fun g o x y w hv => by
  obtain ⟨r, hr⟩ : ∃ r, kMeet x y = r := ⟨_, rfl⟩
  have H1 := Lib.hid (contains_bool w (some ⟨g, o, none⟩) 2 2 [x, y] false (!r) hv (by omega) (by rw [← hr]; cases x <;> cases y <;> rfl))
  clear hv
  rw [hr]
  clear hr
  go_enter Tryd.func30, Tryd.ntmps30
  go_wp2_with fail
  refine H1.out.mono ?_
  rintro e w' ⟨rfl, rfl⟩
  cases r with
  | false =>
    go_wp2_with fail
    go_ret
    exact ⟨rfl, rfl⟩
  | true =>
    go_wp2_with fail
    go_ret
    exact ⟨rfl, rfl⟩
set_option maxRecDepth 100000 in
set_option maxHeartbeats 1600000 in
theorem less_keeps : Keeps 31 kLess := fun g o x y w hv => by
  have hd := hv.drop 1
  rw [show o + 1 * 1 = o + 1 from rfl, show 2 - 1 = 1 from rfl, List.drop_one, List.tail_cons] at hd
  have c0 := hv.bo (i := 0) rfl
  rw [Nat.add_zero] at c0
  have H1 := Lib.hid (contains_bool w (some ⟨g, o + 1, none⟩) 1 1 [y] true y hd (by omega) (by cases y <;> rfl))
  clear hv hd
  cases x with
  | false =>
    go_enter Tryd.func31, Tryd.ntmps31
    go_wp2_with fail
    go_ret
    exact ⟨rfl, rfl⟩
  | true =>
    cases y with
    | false =>
      go_enter Tryd.func31, Tryd.ntmps31
      go_wp2_with fail
      refine H1.out.mono ?_
      rintro e w' ⟨rfl, rfl⟩
      go_wp2_with fail
      go_ret
      exact ⟨rfl, rfl⟩
    | true =>
      go_enter Tryd.func31, Tryd.ntmps31
      go_wp2_with fail
      refine H1.out.mono ?_
      rintro e w' ⟨rfl, rfl⟩
      go_wp2_with fail
      go_ret
      exact ⟨rfl, rfl⟩
/-- The closure of Has: whether the day that its box holds is one of the span's. -/
theorem inn_parts {a b d : Int} {r : Bool} (h : Spn.rt (a, b) = r) : Spn.inn (a, b) d = (r && (decide (a ≤ d) && decide (d < b))) := by unfold Spn.inn; rw [h]
set_option maxRecDepth 100000 in
set_option maxHeartbeats 1600000 in
theorem has1_any (a b d : Int) (B : Nat) (w : World) (hB : w.cell? ⟨B, 0, none⟩ = some (iz d)) (hlt : B < w.heap.size) :
    Calls Tryd.prog 26 #[SpV a b, .pointer (some ⟨B, 0, none⟩)] w (Ya w (.bool (Spn.inn (a, b) d))) := by
  have H1 := fun W => Right_any a b W
  have hb := Blk.new w #[iz a, iz b] 35
  obtain ⟨r, hr⟩ : ∃ r, Spn.rt (a, b) = r := ⟨_, rfl⟩
  have HI := Lib.hid (inn_parts (d := d) hr)
  rw [hr] at H1
  have H2 := Lib.hid H1
  clear H1 hr
  have q0 : ∀ o, ((w.alloc (.cells #[iz a, iz b] 35)).alloc o).cell? ⟨w.heap.size, 0, none⟩ = some (iz a) := fun o => (hb.alloc o).cell 0
  have q1 : ∀ o, ((w.alloc (.cells #[iz a, iz b] 35)).alloc o).cell? ⟨w.heap.size, 1, none⟩ = some (iz b) := fun o => (hb.alloc o).cell 1
  have q2 : ∀ o, ((w.alloc (.cells #[iz a, iz b] 35)).alloc o).cell? ⟨B, 0, none⟩ = some (iz d) := fun o => by
    have hC : Ch w.heap.size none1 w ((w.alloc (.cells #[iz a, iz b] 35)).alloc o) := ((Ch.refl _ _ w).alloc (Nat.le_refl _) _).alloc (by simp) _
    rw [hC.cell (p := ⟨B, 0, none⟩) hlt (fun q => q)]; exact hB
  have c0 := hb.cell 0
  have c1 := hb.cell 1
  simp only [List.getElem?_cons_zero, List.getElem?_cons_succ] at c0 c1
  have HC := Lib.hid (fun o => ((Ch.refl w.heap.size none1 w).alloc (Nat.le_refl _) (.cells #[iz a, iz b] 35)).alloc (by simp) o)
  clear hb hB
  cases r with
  | false =>
    go_enter Tryd.func26, Tryd.ntmps26
    go_wp2_with fail
    refine (H2.out _).mono ?_
    rintro e w' ⟨rfl, rfl⟩
    go_wp2_with fail
    go_ret
    exact ⟨ret_bool (by rw [HI.out]; rfl), HC.out _⟩
  | true =>
    by_cases h1 : a ≤ d
    · by_cases h2 : d < b
      all_goals
        go_enter Tryd.func26, Tryd.ntmps26
        go_wp2_with fail
        refine (H2.out _).mono ?_
        rintro e w' ⟨rfl, rfl⟩
        go_wp2_with fail
        go_ret
        exact ⟨ret_bool (by rw [HI.out]; simp [h1, h2]), HC.out _⟩
    · go_enter Tryd.func26, Tryd.ntmps26
      go_wp2_with fail
      refine (H2.out _).mono ?_
      rintro e w' ⟨rfl, rfl⟩
      go_wp2_with fail
      go_ret
      exact ⟨ret_bool (by rw [HI.out, decide_eq_false (show ¬ a ≤ d by omega)]; rfl), HC.out _⟩
end Go.Proofs.YtnbcfolmadkliaaDoor
