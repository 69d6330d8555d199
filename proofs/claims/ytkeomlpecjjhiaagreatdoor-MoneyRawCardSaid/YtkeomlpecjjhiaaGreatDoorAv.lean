/- Package money: what the examples of the chapter need: fractions of ints, lists of rational numbers compared, closed facts. -/
import Derived.Test.YtkeomlpecjjhiaaGreatDoorAz
namespace Go.Proofs.YtkeomlpecjjhiaaGreatDoor
open Go.RowKit
set_option maxRecDepth 100000
set_option maxHeartbeats 3200000 in
theorem C_rat {n d : Int} {r : Bool} {k f : List UInt8} (hn : -9223372036854775808 ≤ n ∧ n ≤ 9223372036854775807) (hd : -9223372036854775808 ≤ d ∧ d ≤ 9223372036854775807) (h0 : d ≠ 0) (ic : Is ((n : Rat) / (d : Rat)) r k f) : Ans 38 #[.int .i64 n, .int .i64 d] (Rv r k f) := fun w => by
 have HB := Lib.hid (Box.one w #[.bool false, S [], S []])
 obtain ⟨B, hB⟩ : ∃ B, w.heap.size = B := ⟨_, rfl⟩
 rw [hB] at HB
 have p8' := p8
 obtain ⟨x, ex, vx⟩ := has_nb n.natAbs
 obtain ⟨y, ey, vy⟩ := has_nb d.natAbs
 have lx := nbl' 8 ex (by omega)
 have ly := nbl' 8 ey (by omega)
 have hd0 : (d : Rat) ≠ 0 := fun e => h0 (by have := congrArg Rat.num e; simpa using this)
 have H1 := Lib.hid (C_rOf n hn.1 hn.2 ex)
 have H2 := Lib.hid (C_rOf d hd.1 hd.2 ey)
 have H3 := Lib.hid (C_rQuo (a := (n : Rat)) (b := (d : Rat)) (s := decide (n < 0)) (n := x) (d := [1]) (t := decide (d < 0)) (m := y) (e := [1]) (by omega) (by decide) (by omega) (by decide) (ratOf_is (Is.int n ex)) (ratOf_is (Is.int d ey)) hd0 ic)
 obtain ⟨s1, hs1⟩ : ∃ s, decide (n < 0) = s := ⟨_, rfl⟩
 obtain ⟨s2, hs2⟩ : ∃ s, decide (d < 0) = s := ⟨_, rfl⟩
 rw [hs1] at H1 H3
 rw [hs2] at H2 H3
 clear hs1 hs2 p8' ex vx ey vy lx ly hd0 ic hn hd h0
 go_enter Tryz.func38, Tryz.ntmps38
 go_wp2_with fail
 refine (H1.out _).mono ?_
 rintro e w1 ⟨rfl, hC⟩
 have HB2 := Lib.hid (HB.out.on hC)
 clear hC HB
 have HB := HB2
 clear HB2
 go_wp2_with fail
 refine (H2.out _).mono ?_
 rintro e w2 ⟨rfl, hC⟩
 have HB2 := Lib.hid (HB.out.on hC)
 clear hC HB
 have HB := HB2
 clear HB2
 go_wp2_with fail
 refine (H3.out _).mono ?_
 rintro e w3 ⟨rfl, hC⟩
 have HB2 := Lib.hid (HB.out.on hC)
 clear hC HB
 have HB := HB2
 clear HB2
 have hal : ∀ o : Obj, Ch w3.heap.size none1 w3 (w3.alloc o) := fun o => (Ch.refl _ _ _).alloc (Nat.le_refl _) o
 have e0 : ∀ o : Obj, (w3.alloc o).cell? ⟨B, 0, none⟩ = some (.bool false) := fun o => (HB.out.on (hal o)).store0.1
 have e1 : ∀ o : Obj, (w3.alloc o).cell? ⟨B, 1, none⟩ = some (S []) := fun o => (HB.out.on (hal o)).store0.2.1
 have e2 : ∀ o : Obj, (w3.alloc o).cell? ⟨B, 2, none⟩ = some (S []) := fun o => (HB.out.on (hal o)).store0.2.2.1
 have f0 : ∀ o : Obj, (w3.alloc o).frozen? ⟨B, 0, none⟩ = false := fun o => (HB.out.on (hal o)).store0.2.2.2.1
 have f1 : ∀ o : Obj, (w3.alloc o).frozen? ⟨B, 1, none⟩ = false := fun o => (HB.out.on (hal o)).store0.2.2.2.2.1
 have f2 : ∀ o : Obj, (w3.alloc o).frozen? ⟨B, 2, none⟩ = false := fun o => (HB.out.on (hal o)).store0.2.2.2.2.2
 have HAL := Lib.hid hal
 clear hal
 go_wp2_with fail
 have hp := (HB.out.on (HAL.out (.cells #[.bool r, S k, S f] 26 (0, 0)))).put (i := 0) rfl (.bool r) (S k) (S f)
 refine bodyPost_ret (results_cell_row (P := Tryz.prog) rfl _ _ B 26 _ (0, 0) _ rfl hp.1 Tryz.underlying26 rfl (by kernel_rfl)) rfl ?_
 exact ⟨rfl, hp.2⟩
set_option maxHeartbeats 3200000 in
theorem equal_true (w : World) (p q : Option Addr) (n c1 c2 : Nat) (l : List T3) (hp : Rs w p n l) (hq : Rs w q n l) (hn : n ≤ 1000) : Calls Tryz.prog 63 #[.slice p n c1, .slice q n c2] w (Yld w (.bool true)) := by
 have HP := Lib.hid hp
 have HQ := Lib.hid hq
 clear hp hq
 have HC := Lib.hid (Ch.refl w.heap.size none1 w)
 go_enter Tryz.func63, Tryz.ntmps63
 go_wp2_with fail
 go_loopw [5] (fun i wr => ∃ k : Nat, k ≤ n ∧ i = .int .i64 k ∧ Ch w.heap.size none1 w wr) (fun i _ => n - (intOf i).toNat)
 case atStart => exact ⟨0, Nat.zero_le _, rfl, HC.out⟩
 case round =>
  obtain ⟨k, hk, rfl, hC⟩ := hrel
  have HR := Lib.hid hC
  clear hC HC
  by_cases hlt : k < n
  ·obtain ⟨g1, o1, rfl⟩ := HP.out.addr (by omega)
   obtain ⟨g2, o2, rfl⟩ := HQ.out.addr (by omega)
   obtain ⟨⟨s, m, d⟩, ht⟩ : ∃ t, l[k]? = some t := ⟨l[k]'(by rw [HP.out.len]; exact hlt), List.getElem?_eq_getElem _⟩
   obtain ⟨a0, a1, a2⟩ := (HP.out.ch HR.out).get ht
   obtain ⟨b0, b1, b2⟩ := (HQ.out.ch HR.out).get ht
   simp only at a0 a1 a2 b0 b1 b2
   clear ht
   go_wp2_with fail
   go_quiet (fail)
   go_wp2_with fail
   exact ⟨⟨k + 1, by omega, by go_num, HR.out.drewN _⟩, by simp [intOf]; omega⟩
  ·have hkn : k = n := by omega
   subst hkn
   go_wp2
   go_ret
   exact ⟨rfl, HR.out⟩
set_option maxHeartbeats 3200000 in
theorem same4_true (w : World) (p q : Option Addr) (n c1 c2 : Nat) (l : List T3) (hp : Rs w p n l) (hq : Rs w q n l) (hn : n ≤ 1000) : Calls Tryz.prog 22 #[.slice p n c1, .slice q n c2] w (Yld w (.bool true)) := by
 have H1 := Lib.hid (equal_true w p q n c1 c2 l hp hq hn)
 clear hp hq
 go_enter Tryz.func22, Tryz.ntmps22
 go_wp2_with fail
 refine H1.out.mono ?_
 rintro e w1 ⟨rfl, hC⟩
 have HC := Lib.hid hC
 clear hC
 go_wp2_with fail
 go_ret
 exact ⟨rfl, HC.out⟩
theorem kis {q : Rat} {s : Bool} {n d : List UInt8} (h1 : decide (q.num < 0) = s) (h2 : bv n = q.num.natAbs) (h3 : bv d = q.den) (t1 : trimL n = n) (t2 : trimL d = d) : Is q s n d := ⟨h1, nb_is n _ h2 t1, nb_is d _ h3 t2⟩
theorem i_r25_2 : Is (((25 : Int) : Rat) / ((2 : Int) : Rat)) false [25] [2] := kis (by decide +kernel) (by decide +kernel) (by decide +kernel) (by decide) (by decide)
theorem f_r25_2 : Ans 38 #[.int .i64 (25), .int .i64 2] (Rv false [25] [2]) := C_rat (by decide) (by decide) (by decide) i_r25_2
theorem i_r1_3 : Is (((1 : Int) : Rat) / ((3 : Int) : Rat)) false [1] [3] := kis (by decide +kernel) (by decide +kernel) (by decide +kernel) (by decide) (by decide)
theorem f_r1_3 : Ans 38 #[.int .i64 (1), .int .i64 3] (Rv false [1] [3]) := C_rat (by decide) (by decide) (by decide) i_r1_3
theorem i_r7_3 : Is (((7 : Int) : Rat) / ((3 : Int) : Rat)) false [7] [3] := kis (by decide +kernel) (by decide +kernel) (by decide +kernel) (by decide) (by decide)
theorem f_r7_3 : Ans 38 #[.int .i64 (7), .int .i64 3] (Rv false [7] [3]) := C_rat (by decide) (by decide) (by decide) i_r7_3
theorem i_r1_2 : Is (((1 : Int) : Rat) / ((2 : Int) : Rat)) false [1] [2] := kis (by decide +kernel) (by decide +kernel) (by decide +kernel) (by decide) (by decide)
theorem f_r1_2 : Ans 38 #[.int .i64 (1), .int .i64 2] (Rv false [1] [2]) := C_rat (by decide) (by decide) (by decide) i_r1_2
theorem i_r5_4 : Is (((5 : Int) : Rat) / ((4 : Int) : Rat)) false [5] [4] := kis (by decide +kernel) (by decide +kernel) (by decide +kernel) (by decide) (by decide)
theorem f_r5_4 : Ans 38 #[.int .i64 (5), .int .i64 4] (Rv false [5] [4]) := C_rat (by decide) (by decide) (by decide) i_r5_4
theorem i_rn5_4 : Is (((-5 : Int) : Rat) / ((4 : Int) : Rat)) true [5] [4] := kis (by decide +kernel) (by decide +kernel) (by decide +kernel) (by decide) (by decide)
theorem f_rn5_4 : Ans 38 #[.int .i64 (-5), .int .i64 4] (Rv true [5] [4]) := C_rat (by decide) (by decide) (by decide) i_rn5_4
theorem i_r1_1 : Is (((1 : Int) : Rat) / ((1 : Int) : Rat)) false [1] [1] := kis (by decide +kernel) (by decide +kernel) (by decide +kernel) (by decide) (by decide)
theorem f_r1_1 : Ans 38 #[.int .i64 (1), .int .i64 1] (Rv false [1] [1]) := C_rat (by decide) (by decide) (by decide) i_r1_1
theorem i_r0_1 : Is (((0 : Int) : Rat) / ((1 : Int) : Rat)) false [] [1] := kis (by decide +kernel) (by decide +kernel) (by decide +kernel) (by decide) (by decide)
theorem f_r0_1 : Ans 38 #[.int .i64 (0), .int .i64 1] (Rv false [] [1]) := C_rat (by decide) (by decide) (by decide) i_r0_1
theorem i_r2_1 : Is (((2 : Int) : Rat) / ((1 : Int) : Rat)) false [2] [1] := kis (by decide +kernel) (by decide +kernel) (by decide +kernel) (by decide) (by decide)
theorem f_r2_1 : Ans 38 #[.int .i64 (2), .int .i64 1] (Rv false [2] [1]) := C_rat (by decide) (by decide) (by decide) i_r2_1
theorem i_r5_2 : Is (((5 : Int) : Rat) / ((2 : Int) : Rat)) false [5] [2] := kis (by decide +kernel) (by decide +kernel) (by decide +kernel) (by decide) (by decide)
theorem f_r5_2 : Ans 38 #[.int .i64 (5), .int .i64 2] (Rv false [5] [2]) := C_rat (by decide) (by decide) (by decide) i_r5_2
theorem i_r3_2 : Is (((3 : Int) : Rat) / ((2 : Int) : Rat)) false [3] [2] := kis (by decide +kernel) (by decide +kernel) (by decide +kernel) (by decide) (by decide)
theorem f_r3_2 : Ans 38 #[.int .i64 (3), .int .i64 2] (Rv false [3] [2]) := C_rat (by decide) (by decide) (by decide) i_r3_2
theorem i_rn1_1 : Is (((-1 : Int) : Rat) / ((1 : Int) : Rat)) true [1] [1] := kis (by decide +kernel) (by decide +kernel) (by decide +kernel) (by decide) (by decide)
theorem f_rn1_1 : Ans 38 #[.int .i64 (-1), .int .i64 1] (Rv true [1] [1]) := C_rat (by decide) (by decide) (by decide) i_rn1_1
theorem i_rn1_100 : Is (((-1 : Int) : Rat) / ((100 : Int) : Rat)) true [1] [100] := kis (by decide +kernel) (by decide +kernel) (by decide +kernel) (by decide) (by decide)
theorem f_rn1_100 : Ans 38 #[.int .i64 (-1), .int .i64 100] (Rv true [1] [100]) := C_rat (by decide) (by decide) (by decide) i_rn1_100
theorem i_r17_50 : Is (((17 : Int) : Rat) / ((50 : Int) : Rat)) false [17] [50] := kis (by decide +kernel) (by decide +kernel) (by decide +kernel) (by decide) (by decide)
theorem f_r17_50 : Ans 38 #[.int .i64 (17), .int .i64 50] (Rv false [17] [50]) := C_rat (by decide) (by decide) (by decide) i_r17_50
theorem i_r33_100 : Is (((33 : Int) : Rat) / ((100 : Int) : Rat)) false [33] [100] := kis (by decide +kernel) (by decide +kernel) (by decide +kernel) (by decide) (by decide)
theorem f_r33_100 : Ans 38 #[.int .i64 (33), .int .i64 100] (Rv false [33] [100]) := C_rat (by decide) (by decide) (by decide) i_r33_100
theorem i_rn1_20 : Is (((-1 : Int) : Rat) / ((20 : Int) : Rat)) true [1] [20] := kis (by decide +kernel) (by decide +kernel) (by decide +kernel) (by decide) (by decide)
theorem f_rn1_20 : Ans 38 #[.int .i64 (-1), .int .i64 20] (Rv true [1] [20]) := C_rat (by decide) (by decide) (by decide) i_rn1_20
theorem k_cents1 : AnsM 29 #[Rv false [25] [2]] (.tuple #[.int .i64 1250, .bool true]) := C_Cents (o := some 1250) (by decide) (by decide) (by decide +kernel)
theorem k_cents2 : AnsM 29 #[Rv false [1] [3]] (.tuple #[.int .i64 0, .bool false]) := C_Cents (o := none) (by decide) (by decide) (by decide +kernel)
theorem k_of : AnsM 20 #[.int .i64 1250] (Rv false [25] [2]) := C_mOf (by decide) (by decide) (kis (by decide +kernel) (by decide +kernel) (by decide +kernel) (by decide) (by decide))
theorem k_down : AnsM 23 #[Rv false [7] [3], Rv false [1] [2]] (.tuple #[Rv false [2] [1], .bool true]) := C_Down (a := (((7 : Int) : Rat) / ((3 : Int) : Rat))) (b := (((1 : Int) : Rat) / ((2 : Int) : Rat))) (by decide) (by decide) (by decide) (by decide) (by decide +kernel) (ratOf_is i_r7_3) (ratOf_is i_r1_2) (kis (by decide +kernel) (by decide +kernel) (by decide +kernel) (by decide) (by decide))
theorem k_up : AnsM 24 #[Rv false [7] [3], Rv false [1] [2]] (.tuple #[Rv false [5] [2], .bool true]) := C_Up (a := (((7 : Int) : Rat) / ((3 : Int) : Rat))) (b := (((1 : Int) : Rat) / ((2 : Int) : Rat))) (by decide) (by decide) (by decide) (by decide) (by decide +kernel) (ratOf_is i_r7_3) (ratOf_is i_r1_2) (kis (by decide +kernel) (by decide +kernel) (by decide +kernel) (by decide) (by decide))
theorem k_near1 : AnsM 25 #[Rv false [7] [3], Rv false [1] [2]] (.tuple #[Rv false [5] [2], .bool true]) := C_Near (a := (((7 : Int) : Rat) / ((3 : Int) : Rat))) (b := (((1 : Int) : Rat) / ((2 : Int) : Rat))) (by decide) (by decide) (by decide) (by decide) (by decide +kernel) (ratOf_is i_r7_3) (ratOf_is i_r1_2) (kis (by decide +kernel) (by decide +kernel) (by decide +kernel) (by decide) (by decide))
theorem k_near2 : AnsM 25 #[Rv false [5] [4], Rv false [1] [2]] (.tuple #[Rv false [3] [2], .bool true]) := C_Near (a := (((5 : Int) : Rat) / ((4 : Int) : Rat))) (b := (((1 : Int) : Rat) / ((2 : Int) : Rat))) (by decide) (by decide) (by decide) (by decide) (by decide +kernel) (ratOf_is i_r5_4) (ratOf_is i_r1_2) (kis (by decide +kernel) (by decide +kernel) (by decide +kernel) (by decide) (by decide))
theorem k_near3 : AnsM 25 #[Rv true [5] [4], Rv false [1] [2]] (.tuple #[Rv true [1] [1], .bool true]) := C_Near (a := (((-5 : Int) : Rat) / ((4 : Int) : Rat))) (b := (((1 : Int) : Rat) / ((2 : Int) : Rat))) (by decide) (by decide) (by decide) (by decide) (by decide +kernel) (ratOf_is i_rn5_4) (ratOf_is i_r1_2) (kis (by decide +kernel) (by decide +kernel) (by decide +kernel) (by decide) (by decide))
theorem k_down_no : AnsM 23 #[Rv false [1] [1], Rv false [] [1]] (.tuple #[Rv false [] [], .bool false]) := C_Down_no (by decide) (by decide) (by decide) (by decide) (by decide +kernel)
theorem k_fits : AnsM 39 #[Rv false [1] [3]] (.bool true) := C_fits (by decide) (by decide) (by decide +kernel)
end Go.Proofs.YtkeomlpecjjhiaaGreatDoor
