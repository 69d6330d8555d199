/- Package ratio's Of, Make. -/
import Derived.Test.YtkeomlpecjjhiaaGreatDoorQf
namespace Go.Proofs.YtkeomlpecjjhiaaGreatDoor
open Go.RowKit
set_option maxRecDepth 100000
theorem Box.store0 {w W : World} {g : Nat} {a b c : Value} {rest : List (List Value)} (h : Box w W g ([a, b, c] :: rest)) : W.cell? ⟨g, 0, none⟩ = some a ∧ W.cell? ⟨g, 1, none⟩ = some b ∧ W.cell? ⟨g, 2, none⟩ = some c ∧ W.frozen? ⟨g, 0, none⟩ = false ∧ W.frozen? ⟨g, 1, none⟩ = false ∧ W.frozen? ⟨g, 2, none⟩ = false := h.store (i := 0) rfl
theorem Box.store1 {w W : World} {g : Nat} {r a b c : Value} {r2 r3 : Value} {rest : List (List Value)} (h : Box w W g ([r, r2, r3] :: [a, b, c] :: rest)) : W.cell? ⟨g + 1, 0, none⟩ = some a ∧ W.cell? ⟨g + 1, 1, none⟩ = some b ∧ W.cell? ⟨g + 1, 2, none⟩ = some c ∧ W.frozen? ⟨g + 1, 0, none⟩ = false ∧ W.frozen? ⟨g + 1, 1, none⟩ = false ∧ W.frozen? ⟨g + 1, 2, none⟩ = false := h.store (i := 1) rfl
theorem Box.set01 {w W : World} {g : Nat} {a b c d e f x y z : Value} (h : Box w W g [[a, b, c], [d, e, f], [x, y, z]]) (a' b' c' d' e' f' : Value) :
  Box w ((((((W.setCell ⟨g, 0, none⟩ a').setCell ⟨g, 1, none⟩ b').setCell ⟨g, 2, none⟩ c').setCell ⟨g + 1, 0, none⟩ d').setCell ⟨g + 1, 1, none⟩ e').setCell ⟨g + 1, 2, none⟩ f') g [[a', b', c'], [d', e', f'], [x, y, z]] := by
 have n1 : g ≠ g + 1 := by omega
 have n2 : g + 2 ≠ g := by omega
 have n3 : g + 2 ≠ g + 1 := by omega
 have hge := h.ge
 have hge1 : w.heap.size ≤ g + 1 := Nat.le_succ_of_le hge
 have r0 := ((((((h.row 0 _ rfl).set 0 a').set 1 b').set 2 c').set_other n1 0 d').set_other n1 1 e').set_other n1 2 f'
 have r1 := ((((((h.row 1 _ rfl).set_other n1.symm 0 a').set_other n1.symm 1 b').set_other n1.symm 2 c').set 0 d').set 1 e').set 2 f'
 have r2 := ((((((h.row 2 _ rfl).set_other n2 0 a').set_other n2 1 b').set_other n2 2 c').set_other n3 0 d').set_other n3 1 e').set_other n3 2 f'
 refine ⟨(((((h.ch.setCell (p := ⟨g, 0, none⟩) (.inl hge) a').setCell (p := ⟨g, 1, none⟩) (.inl hge) b').setCell (p := ⟨g, 2, none⟩) (.inl hge) c').setCell (p := ⟨g + 1, 0, none⟩) (.inl hge1) d').setCell (p := ⟨g + 1, 1, none⟩) (.inl hge1) e').setCell (p := ⟨g + 1, 2, none⟩) (.inl hge1) f', hge, fun i r hr => ?_⟩
 rcases i with _ | _ | _ | i
 ·simp at hr; subst hr; exact r0
 ·simp at hr; subst hr; exact r1
 ·simp at hr; subst hr; exact r2
 ·simp at hr
theorem Is.inv {q : Rat} {s : Bool} {n d : List UInt8} (h : Is q s n d) (h0 : q ≠ 0) : Is q⁻¹ s d n := by
 obtain ⟨h1, h2⟩ := rinv_parts q h0
 have hp := rpos_den q
 refine ⟨?_, ?_, by rw [h2]; exact h.num⟩
 ·rw [h1, ← h.sgn]
  split
  ·rename_i e
   rw [decide_eq_true e]
   exact decide_eq_true (by omega)
  ·rename_i e
   rw [decide_eq_false e]
   exact decide_eq_false (by omega)
 ·rw [h1, ← h.den]
  split <;> simp
set_option maxHeartbeats 3200000 in
theorem C_Quo {a b : Rat} {s t r : Bool} {n d m e k f : List UInt8} (hn : n.length ≤ 1000) (hd : d.length ≤ 1000) (hm : m.length ≤ 1000) (he : e.length ≤ 1000) (ra : ratOf s n d = a) (rb : ratOf t m e = b) (hb : b ≠ 0) (ic : Is (a / b) r k f) :
  AnsT 65 #[Rv s n d, Rv t m e] (.tuple #[Rv r k f, .bool true]) := fun w ht => by
 obtain ⟨s1, n1, d1, ia⟩ := Is.ex a
 obtain ⟨t1, m1, e1, ib⟩ := Is.ex b
 obtain ⟨ln, ld⟩ := len_of ra hn hd ia
 obtain ⟨lm, le⟩ := len_of rb hm he ib
 have h1 := C_counted hn hd (ra ▸ ia)
 have h2 := C_counted hm he (rb ▸ ib)
 have H1 := Lib.hid h1
 have H2 := Lib.hid h2
 have HT := Lib.hid ht
 have H3 := Lib.hid (C_times ia (ib.inv hb) (by rw [← Rat.div_def]; exact ic) ln ld le lm)
 have hm1 : (m1 == []) = false := beq_no fun e => hb (ib.nil.1 e)
 have hm2 : m1.isEmpty = false := by cases m1 with
  | nil => simp at hm1
  | cons _ _ => rfl
 have hm3 : ¬ m1 = [] := fun e => hb (ib.nil.1 e)
 clear h1 h2 ht hn hd hm he ra rb ia ib ic hb ln ld lm le
 have HB := Lib.hid (Box.three w #[.bool s, S n, S d] #[.bool t, S m, S e] #[.bool false, S [], S []])
 obtain ⟨B, hB⟩ : ∃ B, w.heap.size = B := ⟨_, rfl⟩
 rw [hB] at HB
 obtain ⟨a0, a1, a2, b0, b1, b2⟩ := HB.out.cells2
 go_enter Tryz.func65, Tryz.ntmps65
 go_wp2_with fail
 clear a0 a1 a2 b0 b1 b2
 have HBD := Lib.hid HB.out.drew
 clear HB
 have HB := HBD
 clear HBD
 obtain ⟨a0, a1, a2, fa0, fa1, fa2⟩ := HB.out.store0
 obtain ⟨b0, b1, b2, fb0, fb1, fb2⟩ := HB.out.store1
 go_region_with (first
  | (go_at_call 108; with_reducible refine (H1.out _ (HT.out.ch HB.out.ch)).mono ?_; rintro e wq ⟨rfl, hCq⟩; have HB2 := Lib.hid (HB.out.on hCq); clear hCq HB a0 a1 a2 b0 b1 b2 fa0 fa1 fa2 fb0 fb1 fb2; have HB := HB2; clear HB2; obtain ⟨a0, a1, a2, fa0, fa1, fa2⟩ := HB.out.store0; obtain ⟨b0, b1, b2, fb0, fb1, fb2⟩ := HB.out.store1)
  | (go_at_call 108; with_reducible refine (H2.out _ (HT.out.ch HB.out.ch)).mono ?_; rintro e wq ⟨rfl, hCq⟩; have HB2 := Lib.hid (HB.out.on hCq); clear hCq HB a0 a1 a2 b0 b1 b2 fa0 fa1 fa2 fb0 fb1 fb2; have HB := HB2; clear HB2; obtain ⟨a0, a1, a2, fa0, fa1, fa2⟩ := HB.out.store0; obtain ⟨b0, b1, b2, fb0, fb1, fb2⟩ := HB.out.store1))
 all_goals
  have HN := Lib.hid (HB.out.set01 (.bool s1) (S n1) (S d1) (.bool t1) (S m1) (S e1))
  clear HB a0 a1 a2 b0 b1 b2 fa0 fa1 fa2 fb0 fb1 fb2
  obtain ⟨W3, hW3⟩ : ∃ W3, ((((((wq.setCell ⟨B, 0, none⟩ (.bool s1)).setCell ⟨B, 1, none⟩ (S n1)).setCell ⟨B, 2, none⟩ (S d1)).setCell ⟨B + 1, 0, none⟩ (.bool t1)).setCell ⟨B + 1, 1, none⟩ (S m1)).setCell ⟨B + 1, 2, none⟩ (S e1)) = W3 := ⟨_, rfl⟩
  rw [hW3] at HN ⊢
  clear hW3 wq
  have HB := HN
  clear HN
  obtain ⟨a0, a1, a2, b0, b1, b2⟩ := HB.out.cells2
  obtain ⟨z0, z1, z2⟩ := (HT.out.ch HB.out.ch).cells
 all_goals
  go_wp2_with fail
  refine (H3.out _).mono ?_
  rintro e w6 ⟨rfl, hC⟩
  have HB2 := Lib.hid (HB.out.on hC)
  clear hC HB a0 a1 a2 b0 b1 b2
  have HB := HB2
  clear HB2
  obtain ⟨a0, a1, a2, b0, b1, b2⟩ := HB.out.cells2
  clear z0 z1 z2
  obtain ⟨e0, e1, e2, f0, f1, f2⟩ := HB.out.store (i := 2) rfl
  go_wp2_with fail
  have hp := HB.out.put (i := 2) rfl (.bool r) (S k) (S f)
  refine bodyPost_ret (results_cell_row_tmp (P := Tryz.prog) rfl _ _ (B + 2) 26 _ (0, 0) _ rfl hp.1 Tryz.underlying26 rfl (by kernel_rfl)) rfl ?_
  exact ⟨rfl, hp.2⟩
theorem Is.int (n : Int) {k : List UInt8} (hk : nb n.natAbs = k) : Is (n : Rat) (decide (n < 0)) k [1] :=
 ⟨by rw [Rat.num_intCast], by rw [Rat.num_intCast]; exact hk, by rw [Rat.den_intCast]; exact nb_one⟩
set_option maxHeartbeats 3200000 in
theorem C_Of (n : Int) {k : List UInt8} (h1 : -9223372036854775808 ≤ n) (h2 : n ≤ 9223372036854775807) (hk : nb n.natAbs = k) : Ans 60 #[.int .i64 n] (Rv (decide (n < 0)) k [1]) := fun w => by
 have HB := Lib.hid (Box.one w #[.bool false, S [], S []])
 obtain ⟨B, hB⟩ : ∃ B, w.heap.size = B := ⟨_, rfl⟩
 rw [hB] at HB
 by_cases hn : n < 0
 ·obtain ⟨l, el, vl⟩ := has_nb (-(n + 1)).toNat
  have ll := nbl' 8 el (by rw [show (256 : Nat) ^ 8 = 18446744073709551616 from rfl]; omega)
  have H1 := Lib.hid (C_of (n := -(n + 1)) (l := l) el (by omega) (by omega))
  have H2 := Lib.hid (C_add (a := l) (b := [1]) (l := k) hk (by omega) (by decide) (by rw [vl, show bv [1] = 1 from rfl]; omega))
  have hw1 : IntKind.i64.wrap (n + 1) = n + 1 := IntWalk.i64_in _ (by omega)
  have hw2 : IntKind.i64.wrap (-(n + 1)) = -(n + 1) := IntWalk.i64_in _ (by omega)
  have hd : decide (n < 0) = true := decide_eq_true hn
  have hng : (n + 1) ≤ 0 := by omega
  clear el vl ll hk
  rw [hd]
  go_enter Tryz.func60, Tryz.ntmps60
  go_wp2_with fail
  refine (H1.out _).mono ?_
  rintro e w1 ⟨rfl, hC⟩
  have HB2 := Lib.hid (HB.out.on hC)
  clear hC HB
  have HB := HB2
  clear HB2
  go_wp2_with fail
  refine (H2.out _).mono ?_
  rintro e w2 ⟨rfl, hC⟩
  have HB2 := Lib.hid (HB.out.on hC)
  clear hC HB
  have HB := HB2
  clear HB2
  obtain ⟨e0, e1, e2, f0, f1, f2⟩ := HB.out.store0
  go_wp2_with fail
  have hp := HB.out.put (i := 0) rfl (.bool true) (S k) (S [1])
  refine bodyPost_ret (results_cell_row (P := Tryz.prog) rfl _ _ B 26 _ (0, 0) _ rfl hp.1 Tryz.underlying26 rfl (by kernel_rfl)) rfl ?_
  exact ⟨rfl, hp.2⟩
 ·have hd : decide (n < 0) = false := decide_eq_false hn
  have H1 := Lib.hid (C_of (n := n) (l := k) (by rw [← hk]; congr 1; omega) (by omega) (by omega))
  have hn2 : 0 ≤ n := by omega
  clear hk
  rw [hd]
  go_enter Tryz.func60, Tryz.ntmps60
  go_wp2_with fail
  refine (H1.out _).mono ?_
  rintro e w1 ⟨rfl, hC⟩
  have HB2 := Lib.hid (HB.out.on hC)
  clear hC HB
  have HB := HB2
  clear HB2
  obtain ⟨e0, e1, e2, f0, f1, f2⟩ := HB.out.store0
  go_wp2_with fail
  have hp := HB.out.put (i := 0) rfl (.bool false) (S k) (S [1])
  refine bodyPost_ret (results_cell_row (P := Tryz.prog) rfl _ _ B 26 _ (0, 0) _ rfl hp.1 Tryz.underlying26 rfl (by kernel_rfl)) rfl ?_
  exact ⟨rfl, hp.2⟩
set_option maxHeartbeats 3200000 in
theorem C_Make {s r : Bool} {n d k f : List UInt8} (hn : n.length ≤ 1000) (hd : d.length ≤ 1000) (h1 : Rt n) (h2 : Rt d) (h3 : d ≠ []) (ic : Is (mq s (bv n) (bv d)) r k f) : Ans 101 #[.bool s, S n, S d] (.tuple #[Rv r k f, .bool true]) := fun w => by
 have HB := Lib.hid (Box.one w #[.bool false, S [], S []])
 obtain ⟨B, hB⟩ : ∃ B, w.heap.size = B := ⟨_, rfl⟩
 rw [hB] at HB
 have hd0 := rt_pos h2 h3
 obtain ⟨p1, p2⟩ := mq_parts s (bv n) (bv d) (by omega)
 obtain ⟨G, hG⟩ : ∃ G, Nat.gcd (bv n) (bv d) = G := ⟨_, rfl⟩
 have hG0 : 0 < G := by rw [← hG]; exact Nat.gcd_pos_of_pos_right _ hd0
 obtain ⟨g, eg, vg⟩ := has_nb G
 have bn := bv_b hn
 have bd := bv_b hd
 have lg := nbl' 1000 eg (by rw [← hG]; exact gcd_lt bn bd)
 rw [hG] at p1 p2
 obtain ⟨p, ep, vp⟩ := has_nb (bv n / G)
 obtain ⟨q, eq, vq⟩ := has_nb (bv d / G)
 obtain ⟨q1, q2, q3⟩ := ic.eqs (Is.of p1 p2 ep eq)
 rw [← ne_empty ep] at q1
 have k1 := C_right (a := n) (by omega) ((rightB_iff n).2 h1)
 have k2 := C_right (a := d) (by omega) ((rightB_iff d).2 h2)
 have k3 := C_common (a := n) (b := d) eg (by omega) (by omega) hG
 have k4 := C_quotient (a := n) (g := g) ep (by omega) (by omega) h1 (by rw [vg]; exact hG0) (by rw [vg])
 have k5 := C_quotient (a := d) (g := g) eq (by omega) (by omega) h2 (by rw [vg]; exact hG0) (by rw [vg])
 have k6 := C_signed s p q
 rw [← q1, ← q2, ← q3] at k6
 rw [← q2] at k4
 rw [← q3] at k5
 have H1 := Lib.hid k1
 have H2 := Lib.hid k2
 have H3 := Lib.hid k3
 have H4 := Lib.hid k4
 have H5 := Lib.hid k5
 have H6 := Lib.hid k6
 have e1 := beq_no h3
 clear k1 k2 k3 k4 k5 k6 q1 q2 q3 ic p1 p2 hG hG0 eg vg lg ep vp eq vq h1 h2 h3 hd0 hn hd bn bd
 go_enter Tryz.func101, Tryz.ntmps101
 go_wp2_with fail
 refine (H1.out _).mono ?_
 rintro e w1 ⟨rfl, hC⟩
 have HB2 := Lib.hid (HB.out.on hC)
 clear hC HB
 have HB := HB2
 clear HB2
 go_wp2_with fail
 refine (H2.out _).mono ?_
 rintro e w2 ⟨rfl, hC⟩
 have HB2 := Lib.hid (HB.out.on hC)
 clear hC HB
 have HB := HB2
 clear HB2
 go_wp2_with fail
 refine (H3.out _).mono ?_
 rintro e w3 ⟨rfl, hC⟩
 have HB2 := Lib.hid (HB.out.on hC)
 clear hC HB
 have HB := HB2
 clear HB2
 go_wp2_with fail
 refine (H4.out _).mono ?_
 rintro e w4 ⟨rfl, hC⟩
 have HB2 := Lib.hid (HB.out.on hC)
 clear hC HB
 have HB := HB2
 clear HB2
 go_wp2_with fail
 refine (H5.out _).mono ?_
 rintro e w5 ⟨rfl, hC⟩
 have HB2 := Lib.hid (HB.out.on hC)
 clear hC HB
 have HB := HB2
 clear HB2
 go_wp2_with fail
 refine (H6.out _).mono ?_
 rintro e w6 ⟨rfl, hC⟩
 have HB2 := Lib.hid (HB.out.on hC)
 clear hC HB
 have HB := HB2
 clear HB2
 obtain ⟨e0, e1, e2, f0, f1, f2⟩ := HB.out.store0
 go_wp2_with fail
 have hp := HB.out.put (i := 0) rfl (.bool r) (S k) (S f)
 refine bodyPost_ret (results_cell_row_tmp (P := Tryz.prog) rfl _ _ B 26 _ (0, 0) _ rfl hp.1 Tryz.underlying26 rfl (by kernel_rfl)) rfl ?_
 exact ⟨rfl, hp.2⟩
end Go.Proofs.YtkeomlpecjjhiaaGreatDoor
