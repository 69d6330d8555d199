/- The reference model of layer 2: Sign, Neg, Sub, Cmp, Of, Make. -/
import Derived.Test.YtkeomlpecjjhiaaGreatDoorQk
namespace Go.Proofs.YtkeomlpecjjhiaaGreatDoor
open Go.RowKit
set_option maxRecDepth 100000
set_option maxHeartbeats 3200000 in
theorem C_rSign {a : Rat} {s : Bool} {n d : List UInt8} (hn : n.length ≤ 400) (hd : d.length ≤ 400) (ra : ratOf s n d = a) {k : Int} (hk : sgr a = k) : Ans 35 #[Rv s n d] (.int .i64 k) := fun w => by
 obtain ⟨s1, n1, d1, ia⟩ := Is.ex a
 have H1 := Lib.hid (C_value (by omega) (by omega) ra ia)
 rw [ia.sgr] at hk
 clear ra hn hd ia
 have HB := Lib.hid (Box.one w #[.bool s, S n, S d])
 obtain ⟨B, hB⟩ : ∃ B, w.heap.size = B := ⟨_, rfl⟩
 rw [hB] at HB
 obtain ⟨a0, a1, a2, fa0, fa1, fa2⟩ := HB.out.store0
 go_enter Tryz.func35, Tryz.ntmps35
 go_wp2_with fail
 refine (H1.out _).mono ?_
 rintro e w1 ⟨rfl, hC⟩
 have HB2 := Lib.hid (HB.out.on hC)
 clear hC HB a0 a1 a2 fa0 fa1 fa2
 have HB := HB2
 clear HB2
 obtain ⟨a0, a1, a2, fa0, fa1, fa2⟩ := HB.out.store0
 by_cases hn0 : n1 = []
 ·subst hn0
  rw [if_pos rfl] at hk
  subst hk
  go_wp2_with fail
  have hp := HB.out.put (i := 0) rfl (.bool s1) (S []) (S d1)
  go_ret
  exact ⟨rfl, hp.2⟩
 ·rw [if_neg hn0] at hk
  have e1 := beq_no hn0
  clear hn0
  cases s1 with
  | true =>
   obtain rfl : -1 = k := by simpa using hk
   clear hk
   go_wp2_with fail
   have hp := HB.out.put (i := 0) rfl (.bool true) (S n1) (S d1)
   go_ret
   exact ⟨rfl, hp.2⟩
  | false =>
   obtain rfl : 1 = k := by simpa using hk
   clear hk
   go_wp2_with fail
   have hp := HB.out.put (i := 0) rfl (.bool false) (S n1) (S d1)
   go_ret
   exact ⟨rfl, hp.2⟩
theorem Box.neg {w W : World} {g : Nat} {rows : List (List Value)} (h : Box w W g rows) {i : Nat} {x y z : Value} (hr : rows[i]? = some [x, y, z]) (a : Value) :
  Box w (W.setCell ⟨g + i, 0, none⟩ a) g (rows.set i [a, y, z]) := by
 have hge := h.ge
 refine ⟨h.ch.setCell (p := ⟨g + i, 0, none⟩) (.inl (Nat.le_trans hge (Nat.le_add_right _ _))) a, h.ge, fun j r hj => ?_⟩
 by_cases e : i = j
 ·subst e
  have hlt : i < rows.length := (List.getElem?_eq_some_iff.1 hr).1
  rw [List.getElem?_set_self hlt] at hj
  obtain rfl := Option.some.inj hj
  exact (h.row i _ hr).set 0 a
 ·rw [List.getElem?_set_ne e] at hj
  have hne : g + j ≠ g + i := by omega
  exact (h.row j r hj).set_other hne 0 a
set_option maxHeartbeats 3200000 in
theorem C_rNeg {a : Rat} {s : Bool} {n d : List UInt8} (hn : n.length ≤ 400) (hd : d.length ≤ 400) (ra : ratOf s n d = a) {r : Bool} {k f : List UInt8} (ic : Is (-a) r k f) : Ans 44 #[Rv s n d] (Rv r k f) := fun w => by
 obtain ⟨s1, n1, d1, ia⟩ := Is.ex a
 have H1 := Lib.hid (C_value (by omega) (by omega) ra ia)
 obtain ⟨q1, q2, q3⟩ := ic.eqs ia.opp
 have hz : k = [] → s1 = false := fun e => by
  have h0 := ia.nil.1 (q2 ▸ e)
  subst h0
  rw [← ia.sgn]
  rfl
 have HZ := Lib.hid hz
 clear hz
 subst q1 q2 q3
 obtain ⟨r1, hr1⟩ : ∃ r1, (!s1 && !k.isEmpty) = r1 := ⟨_, rfl⟩
 rw [hr1]
 clear ra hn hd ia ic
 have HB := Lib.hid (Box.two w #[.bool s, S n, S d] #[.bool false, S [], S []])
 obtain ⟨B, hB⟩ : ∃ B, w.heap.size = B := ⟨_, rfl⟩
 rw [hB] at HB
 obtain ⟨a0, a1, a2, fa0, fa1, fa2⟩ := HB.out.store0
 go_enter Tryz.func44, Tryz.ntmps44
 go_wp2_with fail
 refine (H1.out _).mono ?_
 rintro e w1 ⟨rfl, hC⟩
 have HB2 := Lib.hid (HB.out.on hC)
 clear hC HB a0 a1 a2 fa0 fa1 fa2
 have HB := HB2
 clear HB2
 obtain ⟨a0, a1, a2, fa0, fa1, fa2⟩ := HB.out.store0
 obtain ⟨e0, e1, e2, f0, f1, f2⟩ := HB.out.store (i := 1) rfl
 have hne : ¬ (B = B + 1) := by omega
 by_cases hn0 : k = []
 ·subst hn0
  have hs1 : s1 = false := HZ.out rfl
  subst hs1
  obtain rfl : false = r1 := by rw [← hr1]; simp
  clear hr1 HZ
  go_wp2_with fail
  have hq := HB.out.upd (i := 0) rfl (.bool false) (S []) (S f)
  have hp := hq.put (i := 1) rfl (.bool false) (S []) (S f)
  refine bodyPost_ret (results_cell_row (P := Tryz.prog) rfl _ _ (B + 1) 26 _ (0, 0) _ rfl hp.1 Tryz.underlying26 rfl (by kernel_rfl)) rfl ?_
  exact ⟨rfl, hp.2⟩
 ·have e3 := beq_no hn0
  have e4 : k.isEmpty = false := by cases k with
   | nil => exact absurd rfl hn0
   | cons _ _ => rfl
  obtain rfl : (!s1) = r1 := by rw [← hr1, e4]; simp
  clear hn0 e4 hr1 HZ
  go_wp2_with fail
  have hq := (HB.out.upd (i := 0) rfl (.bool s1) (S k) (S f)).neg (i := 0) rfl (.bool !s1)
  have hp := hq.put (i := 1) rfl (.bool !s1) (S k) (S f)
  refine bodyPost_ret (results_cell_row (P := Tryz.prog) rfl _ _ (B + 1) 26 _ (0, 0) _ rfl hp.1 Tryz.underlying26 rfl (by kernel_rfl)) rfl ?_
  exact ⟨rfl, hp.2⟩
set_option maxHeartbeats 3200000 in
theorem C_rSub {a b : Rat} {s t r : Bool} {n d m e k f : List UInt8} (hn : n.length ≤ 400) (hd : d.length ≤ 400) (hm : m.length ≤ 400) (he : e.length ≤ 400) (ra : ratOf s n d = a) (rb : ratOf t m e = b) (ic : Is (a - b) r k f) : Ans 27 #[Rv s n d, Rv t m e] (Rv r k f) := fun w => by
 obtain ⟨t1, m1, e1, ib⟩ := Is.ex (-b)
 obtain ⟨t0, m0, e0, ib0⟩ := Is.ex b
 obtain ⟨l1, l2⟩ := len_of4 rb hm he ib0
 obtain ⟨-, q2, q3⟩ := ib.eqs ib0.opp
 rw [← q2] at l1
 rw [← q3] at l2
 have H1 := Lib.hid (C_rNeg hm he rb ib)
 have H2 := Lib.hid (C_rAdd hn hd l1 l2 ra (ratOf_is ib) (by rw [← Rat.sub_eq_add_neg]; exact ic))
 clear hn hd hm he ra rb ic ib ib0 l1 l2 q2 q3
 have HB := Lib.hid (Box.three w #[.bool s, S n, S d] #[.bool t, S m, S e] #[.bool false, S [], S []])
 obtain ⟨B, hB⟩ : ∃ B, w.heap.size = B := ⟨_, rfl⟩
 rw [hB] at HB
 obtain ⟨a0, a1, a2, b0, b1, b2⟩ := HB.out.cells2
 go_enter Tryz.func27, Tryz.ntmps27
 go_wp2_with fail
 clear a0 a1 a2 b0 b1 b2
 have HBD := Lib.hid HB.out.drew
 clear HB
 have HB := HBD
 clear HBD
 go_region_held3 (fun w' => w'.cell? ⟨B, 0, none⟩ = some (.bool s) ∧ w'.cell? ⟨B, 1, none⟩ = some (S n) ∧ w'.cell? ⟨B, 2, none⟩ = some (S d) ∧ w'.cell? ⟨B + 1, 0, none⟩ = some (.bool t) ∧ w'.cell? ⟨B + 1, 1, none⟩ = some (S m) ∧ w'.cell? ⟨B + 1, 2, none⟩ = some (S e))
  (first
   | (with_reducible exact HB.out.cells2)
   | (exact HB.out.cells2p _ _ _)
   | go_keep)
  (first
   | (go_at_call 44; with_reducible refine (H1.out _).mono ?_; rintro e wq ⟨rfl, hCq⟩; have HB2 := Lib.hid (HB.out.on hCq); clear hCq HB; have HB := HB2; clear HB2)
   | (go_at_call 32; with_reducible refine (H2.out _).mono ?_; rintro e wq ⟨rfl, hCq⟩; have HB2 := Lib.hid (HB.out.on hCq); clear hCq HB; have HB := HB2; clear HB2; obtain ⟨e0, e1, e2, f0, f1, f2⟩ := HB.out.store (i := 2) rfl))
 go_wp2_with fail
 have hp := HB.out.put (i := 2) rfl (.bool r) (S k) (S f)
 refine bodyPost_ret (results_cell_row (P := Tryz.prog) rfl _ _ (B + 2) 26 _ (0, 0) _ rfl hp.1 Tryz.underlying26 rfl (by kernel_rfl)) rfl ?_
 exact ⟨rfl, hp.2⟩
set_option maxHeartbeats 3200000 in
theorem C_rOf (n : Int) {k : List UInt8} (h1 : -9223372036854775808 ≤ n) (h2 : n ≤ 9223372036854775807) (hk : nb n.natAbs = k) : Ans 17 #[.int .i64 n] (Rv (decide (n < 0)) k [1]) := fun w => by
 have HB := Lib.hid (Box.one w #[.bool false, S [], S []])
 obtain ⟨B, hB⟩ : ∃ B, w.heap.size = B := ⟨_, rfl⟩
 rw [hB] at HB
 have H0 := Lib.hid C_one
 by_cases hn : n < 0
 ·obtain ⟨l, el, vl⟩ := has_nb (-(n + 1)).toNat
  have ll := nbl' 8 el (by rw [show (256 : Nat) ^ 8 = 18446744073709551616 from rfl]; omega)
  have H1 := Lib.hid (C_refOf (n := -(n + 1)) (l := l) el (by omega) (by omega))
  have H2 := Lib.hid (C_radd (a := l) (b := [1]) (l := k) hk (by omega) (by decide) (by rw [vl, show bv [1] = 1 from rfl]; omega))
  have hw1 : IntKind.i64.wrap (n + 1) = n + 1 := IntWalk.i64_in _ (by omega)
  have hw2 : IntKind.i64.wrap (-(n + 1)) = -(n + 1) := IntWalk.i64_in _ (by omega)
  have hd : decide (n < 0) = true := decide_eq_true hn
  have hng : (n + 1) ≤ 0 := by omega
  have hng2 : ¬ 0 ≤ n := by omega
  clear el vl ll hk
  rw [hd]
  go_enter Tryz.func17, Tryz.ntmps17
  go_wp2_with fail
  refine (H1.out _).mono ?_
  rintro e w1 ⟨rfl, hC⟩
  have HB2 := Lib.hid (HB.out.on hC)
  clear hC HB
  have HB := HB2
  clear HB2
  go_wp2_with fail
  refine (H0.out _).mono ?_
  rintro e w2 ⟨rfl, hC⟩
  have HB2 := Lib.hid (HB.out.on hC)
  clear hC HB
  have HB := HB2
  clear HB2
  go_wp2_with fail
  refine (H2.out _).mono ?_
  rintro e w3 ⟨rfl, hC⟩
  have HB2 := Lib.hid (HB.out.on hC)
  clear hC HB
  have HB := HB2
  clear HB2
  go_wp2_with fail
  refine (H0.out _).mono ?_
  rintro e w4 ⟨rfl, hC⟩
  have HB2 := Lib.hid (HB.out.on hC)
  clear hC HB
  have HB := HB2
  clear HB2
  obtain ⟨e0, e1, e2, f0, f1, f2⟩ := HB.out.store0
  go_wp2_with fail
  have hp := HB.out.put (i := 0) rfl (.bool true) (S k) (S [1])
  refine bodyPost_ret (results_cell_row (P := Tryz.prog) rfl _ _ B 26 _ (0, 0) _ rfl hp.1 Tryz.underlying26 rfl (by kernel_rfl)) rfl ?_
  exact ⟨rfl, hp.2⟩
 ·have hd : decide (n < 0) = false := decide_eq_false hn
  have H1 := Lib.hid (C_refOf (n := n) (l := k) (by rw [← hk]; congr 1; omega) (by omega) (by omega))
  have hn2 : 0 ≤ n := by omega
  clear hk
  rw [hd]
  go_enter Tryz.func17, Tryz.ntmps17
  go_wp2_with fail
  refine (H1.out _).mono ?_
  rintro e w1 ⟨rfl, hC⟩
  have HB2 := Lib.hid (HB.out.on hC)
  clear hC HB
  have HB := HB2
  clear HB2
  go_wp2_with fail
  refine (H0.out _).mono ?_
  rintro e w2 ⟨rfl, hC⟩
  have HB2 := Lib.hid (HB.out.on hC)
  clear hC HB
  have HB := HB2
  clear HB2
  obtain ⟨e0, e1, e2, f0, f1, f2⟩ := HB.out.store0
  go_wp2_with fail
  have hp := HB.out.put (i := 0) rfl (.bool false) (S k) (S [1])
  refine bodyPost_ret (results_cell_row (P := Tryz.prog) rfl _ _ B 26 _ (0, 0) _ rfl hp.1 Tryz.underlying26 rfl (by kernel_rfl)) rfl ?_
  exact ⟨rfl, hp.2⟩
set_option maxHeartbeats 3200000 in
theorem C_rMake {s r : Bool} {n d k f : List UInt8} (hn : n.length ≤ 1000) (hd : d.length ≤ 1000) (h1 : Rt n) (h2 : Rt d) (h3 : d ≠ []) (ic : Is (mq s (bv n) (bv d)) r k f) : Ans 77 #[.bool s, S n, S d] (.tuple #[Rv r k f, .bool true]) := fun w => by
 have HB := Lib.hid (Box.one w #[.bool false, S [], S []])
 obtain ⟨B, hB⟩ : ∃ B, w.heap.size = B := ⟨_, rfl⟩
 rw [hB] at HB
 have H1 := Lib.hid (C_refRight (a := n) (by omega) ((rightB_iff n).2 h1))
 have H2 := Lib.hid (C_refRight (a := d) (by omega) ((rightB_iff d).2 h2))
 have H3 := Lib.hid (C_lowest hn hd h1 (rt_pos h2 h3) ic)
 have e1 := beq_no h3
 clear h1 h2 h3 hn hd ic
 go_enter Tryz.func77, Tryz.ntmps77
 go_wp2_with fail
 refine (H1.out _).mono ?_
 rintro e w1 ⟨rfl, hC⟩
 have HB2 := Lib.hid (HB.out.on hC)
 clear hC HB
 have HB := HB2
 clear HB2
 go_wp2_with fail
 refine (H2.out _).mono ?_
 rintro e w2 ⟨rfl, hC⟩
 have HB2 := Lib.hid (HB.out.on hC)
 clear hC HB
 have HB := HB2
 clear HB2
 go_wp2_with fail
 refine (H3.out _).mono ?_
 rintro e w3 ⟨rfl, hC⟩
 have HB2 := Lib.hid (HB.out.on hC)
 clear hC HB
 have HB := HB2
 clear HB2
 obtain ⟨e0, e1, e2, f0, f1, f2⟩ := HB.out.store0
 go_wp2_with fail
 have hp := HB.out.put (i := 0) rfl (.bool r) (S k) (S f)
 refine bodyPost_ret (results_cell_row_tmp (P := Tryz.prog) rfl _ _ B 26 _ (0, 0) _ rfl hp.1 Tryz.underlying26 rfl (by kernel_rfl)) rfl ?_
 exact ⟨rfl, hp.2⟩
end Go.Proofs.YtkeomlpecjjhiaaGreatDoor
