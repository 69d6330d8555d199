/- The reference model of layer 2: Made. -/
import Derived.Test.YtkeomlpecjjhiaaGreatDoorQt
namespace Go.Proofs.YtkeomlpecjjhiaaGreatDoor
open Go.RowKit
set_option maxRecDepth 100000
def mdn (x y z : Int) : Nat := if z % 4 = 1 then (x % 4611686018427387904).toNat else if z % 4 = 2 then (x % 4611686018427387904).toNat * (y % 4611686018427387904).toNat else if z % 4 = 3 then (x % 7).toNat else (x % 1000).toNat
def mdd (x y z : Int) : Nat := if z % 4 = 1 then (1 + y % 4611686018427387904).toNat else if z % 4 = 2 then (1 + y % 4611686018427387904).toNat * (1 + x % 2147483648).toNat else if z % 4 = 3 then (1 + y % 7).toNat else (1 + y % 60).toNat
def mdq (x y z : Int) : Rat := mq (decide (x < 0)) (mdn x y z) (mdd x y z)
theorem p8 : (256 : Nat) ^ 8 = 18446744073709551616 := rfl
theorem mdd_pos (x y z : Int) : 0 < mdd x y z := by
 unfold mdd
 split
 ·omega
 ·split
  ·exact Nat.mul_pos (by omega) (by omega)
  ·split <;> omega
theorem mdn_lt (x y z : Int) : mdn x y z < 256 ^ 16 := by
 have h8 := p8
 have h16 : (256 : Nat) ^ 16 = 256 ^ 8 * 256 ^ 8 := by rw [← Nat.pow_add]
 have h1 : (256 : Nat) ^ 8 * 1 ≤ 256 ^ 8 * 256 ^ 8 := Nat.mul_le_mul_left _ (by omega)
 unfold mdn
 split
 ·omega
 ·split
  ·rw [h16]
   exact Nat.mul_lt_mul'' (by omega) (by omega)
  ·split <;> omega
theorem mdd_lt (x y z : Int) : mdd x y z < 256 ^ 16 := by
 have h8 := p8
 have h16 : (256 : Nat) ^ 16 = 256 ^ 8 * 256 ^ 8 := by rw [← Nat.pow_add]
 have h1 : (256 : Nat) ^ 8 * 1 ≤ 256 ^ 8 * 256 ^ 8 := Nat.mul_le_mul_left _ (by omega)
 unfold mdd
 split
 ·omega
 ·split
  ·rw [h16]
   exact Nat.mul_lt_mul'' (by omega) (by omega)
  ·split <;> omega
theorem mdq_size (x y z : Int) : Szq (mdq x y z) 16 := Szq.mq (Nat.ne_of_gt (mdd_pos x y z)) (mdn_lt x y z) (mdd_lt x y z)
structure Mb (w W : World) (B : Nat) (xs : List Value) : Prop where
 ch : Ch w.heap.size none1 w W
 ge : w.heap.size = B
 arr : Blk W B 22 xs
 res : Blk W (B + 1) 26 [.bool false, S [], S []]
theorem Mb.start {w : World} {B : Nat} (hB : w.heap.size = B) (a : Array Value) : Mb w ((w.alloc (.cells a 22 (0, 0))).alloc (.cells #[.bool false, S [], S []] 26 (0, 0))) B a.toList := by
 have h1 : Blk (w.alloc (.cells a 22 (0, 0))) B 22 a.toList := hB ▸ Blk.new w a _
 have hs : (w.alloc (.cells a 22 (0, 0))).heap.size = B + 1 := by rw [World.size_alloc, hB]
 have h2 := Blk.new (w.alloc (.cells a 22 (0, 0))) #[.bool false, S [], S []] 26
 rw [hs] at h2
 exact ⟨((Ch.refl _ _ _).alloc (Nat.le_refl _) _).alloc (by rw [hs]; omega) _, hB, h1.alloc _, h2⟩
theorem Mb.on {w W W' : World} {B : Nat} {xs : List Value} (h : Mb w W B xs) (hC : Ch W.heap.size none1 W W') : Mb w W' B xs :=
 ⟨h.ch.step0 hC (Nat.le_refl _), h.ge, hC.blk h.arr h.arr.lt (fun q => q), hC.blk h.res h.res.lt (fun q => q)⟩
theorem Mb.drew {w W : World} {B : Nat} {xs : List Value} (h : Mb w W B xs) : Mb w W.drew B xs := ⟨h.ch.drew, h.ge, h.arr.drew, h.res.drew⟩
theorem Mb.cells {w W : World} {B : Nat} {a b c : Value} (h : Mb w W B [a, b, c]) : W.cell? ⟨B, 0, none⟩ = some a ∧ W.cell? ⟨B, 1, none⟩ = some b ∧ W.cell? ⟨B, 2, none⟩ = some c := ⟨h.arr.cell 0, h.arr.cell 1, h.arr.cell 2⟩
theorem Mb.slots {w W : World} {B : Nat} {xs : List Value} (h : Mb w W B xs) : W.cell? ⟨B + 1, 0, none⟩ = some (.bool false) ∧ W.cell? ⟨B + 1, 1, none⟩ = some (S []) ∧ W.cell? ⟨B + 1, 2, none⟩ = some (S []) ∧ W.frozen? ⟨B + 1, 0, none⟩ = false ∧ W.frozen? ⟨B + 1, 1, none⟩ = false ∧ W.frozen? ⟨B + 1, 2, none⟩ = false :=
 ⟨h.res.cell 0, h.res.cell 1, h.res.cell 2, h.res.frozen 0, h.res.frozen 1, h.res.frozen 2⟩
theorem Mb.put {w W : World} {B : Nat} {xs : List Value} (h : Mb w W B xs) (a b c : Value) : Blk (((W.setCell ⟨B + 1, 0, none⟩ a).setCell ⟨B + 1, 1, none⟩ b).setCell ⟨B + 1, 2, none⟩ c) (B + 1) 26 [a, b, c] ∧ Ch w.heap.size none1 w (((W.setCell ⟨B + 1, 0, none⟩ a).setCell ⟨B + 1, 1, none⟩ b).setCell ⟨B + 1, 2, none⟩ c) := by
 have hge := h.ge
 have hp : w.heap.size ≤ B + 1 := by omega
 exact ⟨((h.res.set 0 a).set 1 b).set 2 c, ((h.ch.setCell (p := ⟨B + 1, 0, none⟩) (.inl hp) a).setCell (p := ⟨B + 1, 1, none⟩) (.inl hp) b).setCell (p := ⟨B + 1, 2, none⟩) (.inl hp) c⟩
set_option maxHeartbeats 3200000 in
theorem made_0 (x y z : Int) (w : World) (hx : -9223372036854775808 ≤ x ∧ x ≤ 9223372036854775807) (hy : -9223372036854775808 ≤ y ∧ y ≤ 9223372036854775807) (hz : -9223372036854775808 ≤ z ∧ z ≤ 9223372036854775807) (hc : z % 4 = 0) :
  Calls Tryz.prog 12 #[.agg #[.int .i64 x, .int .i64 y, .int .i64 z]] w (Yld w (Tv (pt (mdq x y z)))) := by
 obtain ⟨k1, hk1⟩ : ∃ k, x % 1000 = k := ⟨_, rfl⟩
 obtain ⟨k2, hk2⟩ : ∃ k, y % 60 = k := ⟨_, rfl⟩
 obtain ⟨l1, el1, vl1⟩ := has_nb k1.toNat
 obtain ⟨l2, el2, vl2⟩ := has_nb (1 + k2).toNat
 have M1 := Lib.hid (C_mod x 1000 k1 (by omega) (by omega) hx.1 hx.2 hk1)
 have M2 := Lib.hid (C_mod y 60 k2 (by omega) (by omega) hy.1 hy.2 hk2)
 have M3 := Lib.hid (C_mod z 4 0 (by omega) (by omega) hz.1 hz.2 hc)
 have O1 := Lib.hid (C_refOf (n := k1) (l := l1) el1 (by omega) (by omega))
 have O2 := Lib.hid (C_refOf (n := 1 + k2) (l := l2) el2 (by omega) (by omega))
 have w2 : IntKind.i64.wrap (1 + k2) = 1 + k2 := IntWalk.i64_in _ (by omega)
 have ll1 := nbl' 8 el1 (by rw [p8]; omega)
 have ll2 := nbl' 8 el2 (by rw [p8]; omega)
 have hmd : mdn x y z = bv l1 ∧ mdd x y z = bv l2 := by
  rw [vl1, vl2]
  unfold mdn mdd; rw [hc]; simp only [hk1, hk2]; simp
 have hq : mdq x y z = mq (decide (x < 0)) (bv l1) (bv l2) := by unfold mdq; rw [hmd.1, hmd.2]
 have hdp : 0 < bv l2 := by rw [← hmd.2]; exact mdd_pos x y z
 have L1 := Lib.hid (C_lowest (s := decide (x < 0)) (n := l1) (d := l2) (r := (pt (mdq x y z)).1) (k := (pt (mdq x y z)).2.1) (f := (pt (mdq x y z)).2.2) (by omega) (by omega) (el1 ▸ rt_nb _) hdp (by rw [← hq]; exact pt_is _))
 obtain ⟨⟨r, k, f⟩, hpt⟩ : ∃ t, pt (mdq x y z) = t := ⟨_, rfl⟩
 rw [hpt] at L1 ⊢
 simp only at L1
 obtain ⟨sg, hsg⟩ : ∃ sg, decide (x < 0) = sg := ⟨_, rfl⟩
 rw [hsg] at L1
 clear hpt hq hdp hmd hc
 have HM := Lib.hid (Mb.start (w := w) rfl #[.int .i64 x, .int .i64 y, .int .i64 z])
 obtain ⟨B, hB⟩ : ∃ B, w.heap.size = B := ⟨_, rfl⟩
 rw [hB] at HM
 obtain ⟨a0, a1, a2⟩ := HM.out.cells
 go_enter Tryz.func12, Tryz.ntmps12
 go_wp2_with (first
 | (go_at_call 41; with_reducible refine (M1.out _).mono ?_; rintro e wq ⟨rfl, hCq⟩; have HM2 := Lib.hid (HM.out.on hCq); clear hCq HM; have HM := HM2; clear HM2; clear a0 a1 a2; obtain ⟨a0, a1, a2⟩ := HM.out.cells)
 | (go_at_call 40; with_reducible refine (O1.out _).mono ?_; rintro e wq ⟨rfl, hCq⟩; have HM2 := Lib.hid (HM.out.on hCq); clear hCq HM; have HM := HM2; clear HM2; clear a0 a1 a2; obtain ⟨a0, a1, a2⟩ := HM.out.cells)
 | (go_at_call 41; with_reducible refine (M2.out _).mono ?_; rintro e wq ⟨rfl, hCq⟩; have HM2 := Lib.hid (HM.out.on hCq); clear hCq HM; have HM := HM2; clear HM2; clear a0 a1 a2; obtain ⟨a0, a1, a2⟩ := HM.out.cells)
 | (go_at_call 40; with_reducible refine (O2.out _).mono ?_; rintro e wq ⟨rfl, hCq⟩; have HM2 := Lib.hid (HM.out.on hCq); clear hCq HM; have HM := HM2; clear HM2; clear a0 a1 a2; obtain ⟨a0, a1, a2⟩ := HM.out.cells)
 | (go_at_call 41; with_reducible refine (M3.out _).mono ?_; rintro e wq ⟨rfl, hCq⟩; have HM2 := Lib.hid (HM.out.on hCq); clear hCq HM; have HM := HM2; clear HM2; clear a0 a1 a2; obtain ⟨a0, a1, a2⟩ := HM.out.cells)
 | (go_at_call 43; with_reducible refine (L1.out _).mono ?_; rintro e wq ⟨rfl, hCq⟩; have HM2 := Lib.hid (HM.out.on hCq); clear hCq HM; have HM := HM2; clear HM2; obtain ⟨e0, e1, e2, f0, f1, f2⟩ := HM.out.slots))
 have hp := HM.out.put (.bool r) (S k) (S f)
 refine bodyPost_ret (results_cell_row (P := Tryz.prog) rfl _ _ (B + 1) 26 _ (0, 0) _ rfl hp.1 Tryz.underlying26 rfl (by kernel_rfl)) rfl ?_
 exact ⟨rfl, hp.2⟩
set_option maxHeartbeats 3200000 in
theorem made_1 (x y z : Int) (w : World) (hx : -9223372036854775808 ≤ x ∧ x ≤ 9223372036854775807) (hy : -9223372036854775808 ≤ y ∧ y ≤ 9223372036854775807) (hz : -9223372036854775808 ≤ z ∧ z ≤ 9223372036854775807) (hc : z % 4 = 1) :
  Calls Tryz.prog 12 #[.agg #[.int .i64 x, .int .i64 y, .int .i64 z]] w (Yld w (Tv (pt (mdq x y z)))) := by
 obtain ⟨k1, hk1⟩ : ∃ k, x % 1000 = k := ⟨_, rfl⟩
 obtain ⟨k2, hk2⟩ : ∃ k, y % 60 = k := ⟨_, rfl⟩
 obtain ⟨l1, el1, vl1⟩ := has_nb k1.toNat
 obtain ⟨l2, el2, vl2⟩ := has_nb (1 + k2).toNat
 have M1 := Lib.hid (C_mod x 1000 k1 (by omega) (by omega) hx.1 hx.2 hk1)
 have M2 := Lib.hid (C_mod y 60 k2 (by omega) (by omega) hy.1 hy.2 hk2)
 have M3 := Lib.hid (C_mod z 4 1 (by omega) (by omega) hz.1 hz.2 hc)
 have O1 := Lib.hid (C_refOf (n := k1) (l := l1) el1 (by omega) (by omega))
 have O2 := Lib.hid (C_refOf (n := 1 + k2) (l := l2) el2 (by omega) (by omega))
 have w2 : IntKind.i64.wrap (1 + k2) = 1 + k2 := IntWalk.i64_in _ (by omega)
 have ll1 := nbl' 8 el1 (by rw [p8]; omega)
 have ll2 := nbl' 8 el2 (by rw [p8]; omega)
 obtain ⟨k3, hk3⟩ : ∃ k, x % 4611686018427387904 = k := ⟨_, rfl⟩
 obtain ⟨k4, hk4⟩ : ∃ k, y % 4611686018427387904 = k := ⟨_, rfl⟩
 obtain ⟨l3, el3, vl3⟩ := has_nb k3.toNat
 obtain ⟨l4, el4, vl4⟩ := has_nb (1 + k4).toNat
 have M4 := Lib.hid (C_mod x 4611686018427387904 k3 (by omega) (by omega) hx.1 hx.2 hk3)
 have M5 := Lib.hid (C_mod y 4611686018427387904 k4 (by omega) (by omega) hy.1 hy.2 hk4)
 have O3 := Lib.hid (C_refOf (n := k3) (l := l3) el3 (by omega) (by omega))
 have O4 := Lib.hid (C_refOf (n := 1 + k4) (l := l4) el4 (by omega) (by omega))
 have w4 : IntKind.i64.wrap (1 + k4) = 1 + k4 := IntWalk.i64_in _ (by omega)
 have ll3 := nbl' 8 el3 (by rw [p8]; omega)
 have ll4 := nbl' 8 el4 (by rw [p8]; omega)
 have hmd : mdn x y z = bv l3 ∧ mdd x y z = bv l4 := by
  rw [vl3, vl4]
  unfold mdn mdd; rw [hc]; simp only [hk3, hk4]; simp
 have hq : mdq x y z = mq (decide (x < 0)) (bv l3) (bv l4) := by unfold mdq; rw [hmd.1, hmd.2]
 have hdp : 0 < bv l4 := by rw [← hmd.2]; exact mdd_pos x y z
 have L1 := Lib.hid (C_lowest (s := decide (x < 0)) (n := l3) (d := l4) (r := (pt (mdq x y z)).1) (k := (pt (mdq x y z)).2.1) (f := (pt (mdq x y z)).2.2) (by omega) (by omega) (el3 ▸ rt_nb _) hdp (by rw [← hq]; exact pt_is _))
 obtain ⟨⟨r, k, f⟩, hpt⟩ : ∃ t, pt (mdq x y z) = t := ⟨_, rfl⟩
 rw [hpt] at L1 ⊢
 simp only at L1
 obtain ⟨sg, hsg⟩ : ∃ sg, decide (x < 0) = sg := ⟨_, rfl⟩
 rw [hsg] at L1
 clear hpt hq hdp hmd hc
 have HM := Lib.hid (Mb.start (w := w) rfl #[.int .i64 x, .int .i64 y, .int .i64 z])
 obtain ⟨B, hB⟩ : ∃ B, w.heap.size = B := ⟨_, rfl⟩
 rw [hB] at HM
 obtain ⟨a0, a1, a2⟩ := HM.out.cells
 go_enter Tryz.func12, Tryz.ntmps12
 go_wp2_with (first
 | (go_at_call 41; with_reducible refine (M1.out _).mono ?_; rintro e wq ⟨rfl, hCq⟩; have HM2 := Lib.hid (HM.out.on hCq); clear hCq HM; have HM := HM2; clear HM2; clear a0 a1 a2; obtain ⟨a0, a1, a2⟩ := HM.out.cells)
 | (go_at_call 40; with_reducible refine (O1.out _).mono ?_; rintro e wq ⟨rfl, hCq⟩; have HM2 := Lib.hid (HM.out.on hCq); clear hCq HM; have HM := HM2; clear HM2; clear a0 a1 a2; obtain ⟨a0, a1, a2⟩ := HM.out.cells)
 | (go_at_call 41; with_reducible refine (M2.out _).mono ?_; rintro e wq ⟨rfl, hCq⟩; have HM2 := Lib.hid (HM.out.on hCq); clear hCq HM; have HM := HM2; clear HM2; clear a0 a1 a2; obtain ⟨a0, a1, a2⟩ := HM.out.cells)
 | (go_at_call 40; with_reducible refine (O2.out _).mono ?_; rintro e wq ⟨rfl, hCq⟩; have HM2 := Lib.hid (HM.out.on hCq); clear hCq HM; have HM := HM2; clear HM2; clear a0 a1 a2; obtain ⟨a0, a1, a2⟩ := HM.out.cells)
 | (go_at_call 41; with_reducible refine (M3.out _).mono ?_; rintro e wq ⟨rfl, hCq⟩; have HM2 := Lib.hid (HM.out.on hCq); clear hCq HM; have HM := HM2; clear HM2; clear a0 a1 a2; obtain ⟨a0, a1, a2⟩ := HM.out.cells)
 | (go_at_call 41; with_reducible refine (M4.out _).mono ?_; rintro e wq ⟨rfl, hCq⟩; have HM2 := Lib.hid (HM.out.on hCq); clear hCq HM; have HM := HM2; clear HM2; clear a0 a1 a2; obtain ⟨a0, a1, a2⟩ := HM.out.cells)
 | (go_at_call 40; with_reducible refine (O3.out _).mono ?_; rintro e wq ⟨rfl, hCq⟩; have HM2 := Lib.hid (HM.out.on hCq); clear hCq HM; have HM := HM2; clear HM2; clear a0 a1 a2; obtain ⟨a0, a1, a2⟩ := HM.out.cells)
 | (go_at_call 41; with_reducible refine (M5.out _).mono ?_; rintro e wq ⟨rfl, hCq⟩; have HM2 := Lib.hid (HM.out.on hCq); clear hCq HM; have HM := HM2; clear HM2; clear a0 a1 a2; obtain ⟨a0, a1, a2⟩ := HM.out.cells)
 | (go_at_call 40; with_reducible refine (O4.out _).mono ?_; rintro e wq ⟨rfl, hCq⟩; have HM2 := Lib.hid (HM.out.on hCq); clear hCq HM; have HM := HM2; clear HM2; clear a0 a1 a2; obtain ⟨a0, a1, a2⟩ := HM.out.cells)
 | (go_at_call 43; with_reducible refine (L1.out _).mono ?_; rintro e wq ⟨rfl, hCq⟩; have HM2 := Lib.hid (HM.out.on hCq); clear hCq HM; have HM := HM2; clear HM2; obtain ⟨e0, e1, e2, f0, f1, f2⟩ := HM.out.slots))
 have hp := HM.out.put (.bool r) (S k) (S f)
 refine bodyPost_ret (results_cell_row (P := Tryz.prog) rfl _ _ (B + 1) 26 _ (0, 0) _ rfl hp.1 Tryz.underlying26 rfl (by kernel_rfl)) rfl ?_
 exact ⟨rfl, hp.2⟩
set_option maxHeartbeats 3200000 in
theorem made_2 (x y z : Int) (w : World) (hx : -9223372036854775808 ≤ x ∧ x ≤ 9223372036854775807) (hy : -9223372036854775808 ≤ y ∧ y ≤ 9223372036854775807) (hz : -9223372036854775808 ≤ z ∧ z ≤ 9223372036854775807) (hc : z % 4 = 2) :
  Calls Tryz.prog 12 #[.agg #[.int .i64 x, .int .i64 y, .int .i64 z]] w (Yld w (Tv (pt (mdq x y z)))) := by
 obtain ⟨k1, hk1⟩ : ∃ k, x % 1000 = k := ⟨_, rfl⟩
 obtain ⟨k2, hk2⟩ : ∃ k, y % 60 = k := ⟨_, rfl⟩
 obtain ⟨l1, el1, vl1⟩ := has_nb k1.toNat
 obtain ⟨l2, el2, vl2⟩ := has_nb (1 + k2).toNat
 have M1 := Lib.hid (C_mod x 1000 k1 (by omega) (by omega) hx.1 hx.2 hk1)
 have M2 := Lib.hid (C_mod y 60 k2 (by omega) (by omega) hy.1 hy.2 hk2)
 have M3 := Lib.hid (C_mod z 4 2 (by omega) (by omega) hz.1 hz.2 hc)
 have O1 := Lib.hid (C_refOf (n := k1) (l := l1) el1 (by omega) (by omega))
 have O2 := Lib.hid (C_refOf (n := 1 + k2) (l := l2) el2 (by omega) (by omega))
 have w2 : IntKind.i64.wrap (1 + k2) = 1 + k2 := IntWalk.i64_in _ (by omega)
 have ll1 := nbl' 8 el1 (by rw [p8]; omega)
 have ll2 := nbl' 8 el2 (by rw [p8]; omega)
 obtain ⟨k3, hk3⟩ : ∃ k, x % 4611686018427387904 = k := ⟨_, rfl⟩
 obtain ⟨k4, hk4⟩ : ∃ k, y % 4611686018427387904 = k := ⟨_, rfl⟩
 obtain ⟨k5, hk5⟩ : ∃ k, x % 2147483648 = k := ⟨_, rfl⟩
 obtain ⟨l3, el3, vl3⟩ := has_nb k3.toNat
 obtain ⟨l4, el4, vl4⟩ := has_nb k4.toNat
 obtain ⟨l5, el5, vl5⟩ := has_nb (1 + k4).toNat
 obtain ⟨l6, el6, vl6⟩ := has_nb (1 + k5).toNat
 obtain ⟨l7, el7, vl7⟩ := has_nb (k3.toNat * k4.toNat)
 obtain ⟨l8, el8, vl8⟩ := has_nb ((1 + k4).toNat * (1 + k5).toNat)
 have M4 := Lib.hid (C_mod x 4611686018427387904 k3 (by omega) (by omega) hx.1 hx.2 hk3)
 have M5 := Lib.hid (C_mod y 4611686018427387904 k4 (by omega) (by omega) hy.1 hy.2 hk4)
 have M6 := Lib.hid (C_mod x 2147483648 k5 (by omega) (by omega) hx.1 hx.2 hk5)
 have O3 := Lib.hid (C_refOf (n := k3) (l := l3) el3 (by omega) (by omega))
 have O4 := Lib.hid (C_refOf (n := k4) (l := l4) el4 (by omega) (by omega))
 have O5 := Lib.hid (C_refOf (n := 1 + k4) (l := l5) el5 (by omega) (by omega))
 have O6 := Lib.hid (C_refOf (n := 1 + k5) (l := l6) el6 (by omega) (by omega))
 have w4 : IntKind.i64.wrap (1 + k4) = 1 + k4 := IntWalk.i64_in _ (by omega)
 have w5 : IntKind.i64.wrap (1 + k5) = 1 + k5 := IntWalk.i64_in _ (by omega)
 have ll3 := nbl' 8 el3 (by rw [p8]; omega)
 have ll4 := nbl' 8 el4 (by rw [p8]; omega)
 have ll5 := nbl' 8 el5 (by rw [p8]; omega)
 have ll6 := nbl' 8 el6 (by rw [p8]; omega)
 have X1 := Lib.hid (C_rmul (a := l3) (b := l4) el7 (by omega) (by omega) (by rw [vl3, vl4]))
 have X2 := Lib.hid (C_rmul (a := l5) (b := l6) el8 (by omega) (by omega) (by rw [vl5, vl6]))
 have ll7 := nbl' (8 + 8) el7 (mulb (by rw [p8]; omega) (by rw [p8]; omega))
 have ll8 := nbl' (8 + 8) el8 (mulb (by rw [p8]; omega) (by rw [p8]; omega))
 have hmd : mdn x y z = bv l7 ∧ mdd x y z = bv l8 := by
  rw [vl7, vl8]
  unfold mdn mdd; rw [hc]; simp only [hk3, hk4, hk5]; simp
 have hq : mdq x y z = mq (decide (x < 0)) (bv l7) (bv l8) := by unfold mdq; rw [hmd.1, hmd.2]
 have hdp : 0 < bv l8 := by rw [← hmd.2]; exact mdd_pos x y z
 have L1 := Lib.hid (C_lowest (s := decide (x < 0)) (n := l7) (d := l8) (r := (pt (mdq x y z)).1) (k := (pt (mdq x y z)).2.1) (f := (pt (mdq x y z)).2.2) (by omega) (by omega) (el7 ▸ rt_nb _) hdp (by rw [← hq]; exact pt_is _))
 obtain ⟨⟨r, k, f⟩, hpt⟩ : ∃ t, pt (mdq x y z) = t := ⟨_, rfl⟩
 rw [hpt] at L1 ⊢
 simp only at L1
 obtain ⟨sg, hsg⟩ : ∃ sg, decide (x < 0) = sg := ⟨_, rfl⟩
 rw [hsg] at L1
 clear hpt hq hdp hmd hc
 have HM := Lib.hid (Mb.start (w := w) rfl #[.int .i64 x, .int .i64 y, .int .i64 z])
 obtain ⟨B, hB⟩ : ∃ B, w.heap.size = B := ⟨_, rfl⟩
 rw [hB] at HM
 obtain ⟨a0, a1, a2⟩ := HM.out.cells
 go_enter Tryz.func12, Tryz.ntmps12
 go_wp2_with (first
 | (go_at_call 41; with_reducible refine (M1.out _).mono ?_; rintro e wq ⟨rfl, hCq⟩; have HM2 := Lib.hid (HM.out.on hCq); clear hCq HM; have HM := HM2; clear HM2; clear a0 a1 a2; obtain ⟨a0, a1, a2⟩ := HM.out.cells)
 | (go_at_call 40; with_reducible refine (O1.out _).mono ?_; rintro e wq ⟨rfl, hCq⟩; have HM2 := Lib.hid (HM.out.on hCq); clear hCq HM; have HM := HM2; clear HM2; clear a0 a1 a2; obtain ⟨a0, a1, a2⟩ := HM.out.cells)
 | (go_at_call 41; with_reducible refine (M2.out _).mono ?_; rintro e wq ⟨rfl, hCq⟩; have HM2 := Lib.hid (HM.out.on hCq); clear hCq HM; have HM := HM2; clear HM2; clear a0 a1 a2; obtain ⟨a0, a1, a2⟩ := HM.out.cells)
 | (go_at_call 40; with_reducible refine (O2.out _).mono ?_; rintro e wq ⟨rfl, hCq⟩; have HM2 := Lib.hid (HM.out.on hCq); clear hCq HM; have HM := HM2; clear HM2; clear a0 a1 a2; obtain ⟨a0, a1, a2⟩ := HM.out.cells)
 | (go_at_call 41; with_reducible refine (M3.out _).mono ?_; rintro e wq ⟨rfl, hCq⟩; have HM2 := Lib.hid (HM.out.on hCq); clear hCq HM; have HM := HM2; clear HM2; clear a0 a1 a2; obtain ⟨a0, a1, a2⟩ := HM.out.cells))
 clear a0 a1 a2
 have HMD := Lib.hid HM.out.drew
 clear HM
 have HM := HMD
 clear HMD
 go_region_held3 (fun w' => w'.cell? ⟨B, 0, none⟩ = some (.int .i64 x) ∧ w'.cell? ⟨B, 1, none⟩ = some (.int .i64 y) ∧ w'.cell? ⟨B, 2, none⟩ = some (.int .i64 z))
  (first
   | (with_reducible exact HM.out.cells)
   | go_keep)
  (first
 | (go_at_call 41; with_reducible refine (M4.out _).mono ?_; rintro e wq ⟨rfl, hCq⟩; have HM2 := Lib.hid (HM.out.on hCq); clear hCq HM; have HM := HM2; clear HM2)
 | (go_at_call 40; with_reducible refine (O3.out _).mono ?_; rintro e wq ⟨rfl, hCq⟩; have HM2 := Lib.hid (HM.out.on hCq); clear hCq HM; have HM := HM2; clear HM2)
 | (go_at_call 41; with_reducible refine (M5.out _).mono ?_; rintro e wq ⟨rfl, hCq⟩; have HM2 := Lib.hid (HM.out.on hCq); clear hCq HM; have HM := HM2; clear HM2)
 | (go_at_call 40; with_reducible refine (O4.out _).mono ?_; rintro e wq ⟨rfl, hCq⟩; have HM2 := Lib.hid (HM.out.on hCq); clear hCq HM; have HM := HM2; clear HM2)
 | (go_at_call 42; with_reducible refine (X1.out _).mono ?_; rintro e wq ⟨rfl, hCq⟩; have HM2 := Lib.hid (HM.out.on hCq); clear hCq HM; have HM := HM2; clear HM2))
 obtain ⟨a0, a1, a2⟩ := HM.out.cells
 go_wp2_with fail
 clear a0 a1 a2
 have HMD := Lib.hid HM.out.drew
 clear HM
 have HM := HMD
 clear HMD
 go_region_held3 (fun w' => w'.cell? ⟨B, 0, none⟩ = some (.int .i64 x) ∧ w'.cell? ⟨B, 1, none⟩ = some (.int .i64 y) ∧ w'.cell? ⟨B, 2, none⟩ = some (.int .i64 z))
  (first
   | (with_reducible exact HM.out.cells)
   | go_keep)
  (first
 | (go_at_call 41; with_reducible refine (M5.out _).mono ?_; rintro e wq ⟨rfl, hCq⟩; have HM2 := Lib.hid (HM.out.on hCq); clear hCq HM; have HM := HM2; clear HM2)
 | (go_at_call 40; with_reducible refine (O5.out _).mono ?_; rintro e wq ⟨rfl, hCq⟩; have HM2 := Lib.hid (HM.out.on hCq); clear hCq HM; have HM := HM2; clear HM2)
 | (go_at_call 41; with_reducible refine (M6.out _).mono ?_; rintro e wq ⟨rfl, hCq⟩; have HM2 := Lib.hid (HM.out.on hCq); clear hCq HM; have HM := HM2; clear HM2)
 | (go_at_call 40; with_reducible refine (O6.out _).mono ?_; rintro e wq ⟨rfl, hCq⟩; have HM2 := Lib.hid (HM.out.on hCq); clear hCq HM; have HM := HM2; clear HM2)
 | (go_at_call 42; with_reducible refine (X2.out _).mono ?_; rintro e wq ⟨rfl, hCq⟩; have HM2 := Lib.hid (HM.out.on hCq); clear hCq HM; have HM := HM2; clear HM2))
 obtain ⟨a0, a1, a2⟩ := HM.out.cells
 go_wp2_with (first
 | (go_at_call 43; with_reducible refine (L1.out _).mono ?_; rintro e wq ⟨rfl, hCq⟩; have HM2 := Lib.hid (HM.out.on hCq); clear hCq HM; have HM := HM2; clear HM2; obtain ⟨e0, e1, e2, f0, f1, f2⟩ := HM.out.slots))
 have hp := HM.out.put (.bool r) (S k) (S f)
 refine bodyPost_ret (results_cell_row (P := Tryz.prog) rfl _ _ (B + 1) 26 _ (0, 0) _ rfl hp.1 Tryz.underlying26 rfl (by kernel_rfl)) rfl ?_
 exact ⟨rfl, hp.2⟩
set_option maxHeartbeats 3200000 in
theorem made_3 (x y z : Int) (w : World) (hx : -9223372036854775808 ≤ x ∧ x ≤ 9223372036854775807) (hy : -9223372036854775808 ≤ y ∧ y ≤ 9223372036854775807) (hz : -9223372036854775808 ≤ z ∧ z ≤ 9223372036854775807) (hc : z % 4 = 3) :
  Calls Tryz.prog 12 #[.agg #[.int .i64 x, .int .i64 y, .int .i64 z]] w (Yld w (Tv (pt (mdq x y z)))) := by
 obtain ⟨k1, hk1⟩ : ∃ k, x % 1000 = k := ⟨_, rfl⟩
 obtain ⟨k2, hk2⟩ : ∃ k, y % 60 = k := ⟨_, rfl⟩
 obtain ⟨l1, el1, vl1⟩ := has_nb k1.toNat
 obtain ⟨l2, el2, vl2⟩ := has_nb (1 + k2).toNat
 have M1 := Lib.hid (C_mod x 1000 k1 (by omega) (by omega) hx.1 hx.2 hk1)
 have M2 := Lib.hid (C_mod y 60 k2 (by omega) (by omega) hy.1 hy.2 hk2)
 have M3 := Lib.hid (C_mod z 4 3 (by omega) (by omega) hz.1 hz.2 hc)
 have O1 := Lib.hid (C_refOf (n := k1) (l := l1) el1 (by omega) (by omega))
 have O2 := Lib.hid (C_refOf (n := 1 + k2) (l := l2) el2 (by omega) (by omega))
 have w2 : IntKind.i64.wrap (1 + k2) = 1 + k2 := IntWalk.i64_in _ (by omega)
 have ll1 := nbl' 8 el1 (by rw [p8]; omega)
 have ll2 := nbl' 8 el2 (by rw [p8]; omega)
 obtain ⟨k3, hk3⟩ : ∃ k, x % 7 = k := ⟨_, rfl⟩
 obtain ⟨k4, hk4⟩ : ∃ k, y % 7 = k := ⟨_, rfl⟩
 obtain ⟨l3, el3, vl3⟩ := has_nb k3.toNat
 obtain ⟨l4, el4, vl4⟩ := has_nb (1 + k4).toNat
 have M4 := Lib.hid (C_mod x 7 k3 (by omega) (by omega) hx.1 hx.2 hk3)
 have M5 := Lib.hid (C_mod y 7 k4 (by omega) (by omega) hy.1 hy.2 hk4)
 have O3 := Lib.hid (C_refOf (n := k3) (l := l3) el3 (by omega) (by omega))
 have O4 := Lib.hid (C_refOf (n := 1 + k4) (l := l4) el4 (by omega) (by omega))
 have w4 : IntKind.i64.wrap (1 + k4) = 1 + k4 := IntWalk.i64_in _ (by omega)
 have ll3 := nbl' 8 el3 (by rw [p8]; omega)
 have ll4 := nbl' 8 el4 (by rw [p8]; omega)
 have hmd : mdn x y z = bv l3 ∧ mdd x y z = bv l4 := by
  rw [vl3, vl4]
  unfold mdn mdd; rw [hc]; simp only [hk3, hk4]; simp
 have hq : mdq x y z = mq (decide (x < 0)) (bv l3) (bv l4) := by unfold mdq; rw [hmd.1, hmd.2]
 have hdp : 0 < bv l4 := by rw [← hmd.2]; exact mdd_pos x y z
 have L1 := Lib.hid (C_lowest (s := decide (x < 0)) (n := l3) (d := l4) (r := (pt (mdq x y z)).1) (k := (pt (mdq x y z)).2.1) (f := (pt (mdq x y z)).2.2) (by omega) (by omega) (el3 ▸ rt_nb _) hdp (by rw [← hq]; exact pt_is _))
 obtain ⟨⟨r, k, f⟩, hpt⟩ : ∃ t, pt (mdq x y z) = t := ⟨_, rfl⟩
 rw [hpt] at L1 ⊢
 simp only at L1
 obtain ⟨sg, hsg⟩ : ∃ sg, decide (x < 0) = sg := ⟨_, rfl⟩
 rw [hsg] at L1
 clear hpt hq hdp hmd hc
 have HM := Lib.hid (Mb.start (w := w) rfl #[.int .i64 x, .int .i64 y, .int .i64 z])
 obtain ⟨B, hB⟩ : ∃ B, w.heap.size = B := ⟨_, rfl⟩
 rw [hB] at HM
 obtain ⟨a0, a1, a2⟩ := HM.out.cells
 go_enter Tryz.func12, Tryz.ntmps12
 go_wp2_with (first
 | (go_at_call 41; with_reducible refine (M1.out _).mono ?_; rintro e wq ⟨rfl, hCq⟩; have HM2 := Lib.hid (HM.out.on hCq); clear hCq HM; have HM := HM2; clear HM2; clear a0 a1 a2; obtain ⟨a0, a1, a2⟩ := HM.out.cells)
 | (go_at_call 40; with_reducible refine (O1.out _).mono ?_; rintro e wq ⟨rfl, hCq⟩; have HM2 := Lib.hid (HM.out.on hCq); clear hCq HM; have HM := HM2; clear HM2; clear a0 a1 a2; obtain ⟨a0, a1, a2⟩ := HM.out.cells)
 | (go_at_call 41; with_reducible refine (M2.out _).mono ?_; rintro e wq ⟨rfl, hCq⟩; have HM2 := Lib.hid (HM.out.on hCq); clear hCq HM; have HM := HM2; clear HM2; clear a0 a1 a2; obtain ⟨a0, a1, a2⟩ := HM.out.cells)
 | (go_at_call 40; with_reducible refine (O2.out _).mono ?_; rintro e wq ⟨rfl, hCq⟩; have HM2 := Lib.hid (HM.out.on hCq); clear hCq HM; have HM := HM2; clear HM2; clear a0 a1 a2; obtain ⟨a0, a1, a2⟩ := HM.out.cells)
 | (go_at_call 41; with_reducible refine (M3.out _).mono ?_; rintro e wq ⟨rfl, hCq⟩; have HM2 := Lib.hid (HM.out.on hCq); clear hCq HM; have HM := HM2; clear HM2; clear a0 a1 a2; obtain ⟨a0, a1, a2⟩ := HM.out.cells)
 | (go_at_call 41; with_reducible refine (M4.out _).mono ?_; rintro e wq ⟨rfl, hCq⟩; have HM2 := Lib.hid (HM.out.on hCq); clear hCq HM; have HM := HM2; clear HM2; clear a0 a1 a2; obtain ⟨a0, a1, a2⟩ := HM.out.cells)
 | (go_at_call 40; with_reducible refine (O3.out _).mono ?_; rintro e wq ⟨rfl, hCq⟩; have HM2 := Lib.hid (HM.out.on hCq); clear hCq HM; have HM := HM2; clear HM2; clear a0 a1 a2; obtain ⟨a0, a1, a2⟩ := HM.out.cells)
 | (go_at_call 41; with_reducible refine (M5.out _).mono ?_; rintro e wq ⟨rfl, hCq⟩; have HM2 := Lib.hid (HM.out.on hCq); clear hCq HM; have HM := HM2; clear HM2; clear a0 a1 a2; obtain ⟨a0, a1, a2⟩ := HM.out.cells)
 | (go_at_call 40; with_reducible refine (O4.out _).mono ?_; rintro e wq ⟨rfl, hCq⟩; have HM2 := Lib.hid (HM.out.on hCq); clear hCq HM; have HM := HM2; clear HM2; clear a0 a1 a2; obtain ⟨a0, a1, a2⟩ := HM.out.cells)
 | (go_at_call 43; with_reducible refine (L1.out _).mono ?_; rintro e wq ⟨rfl, hCq⟩; have HM2 := Lib.hid (HM.out.on hCq); clear hCq HM; have HM := HM2; clear HM2; obtain ⟨e0, e1, e2, f0, f1, f2⟩ := HM.out.slots))
 have hp := HM.out.put (.bool r) (S k) (S f)
 refine bodyPost_ret (results_cell_row (P := Tryz.prog) rfl _ _ (B + 1) 26 _ (0, 0) _ rfl hp.1 Tryz.underlying26 rfl (by kernel_rfl)) rfl ?_
 exact ⟨rfl, hp.2⟩
theorem made_any (x y z : Int) (w : World) (hx : -9223372036854775808 ≤ x ∧ x ≤ 9223372036854775807) (hy : -9223372036854775808 ≤ y ∧ y ≤ 9223372036854775807) (hz : -9223372036854775808 ≤ z ∧ z ≤ 9223372036854775807) :
  Calls Tryz.prog 12 #[.agg #[.int .i64 x, .int .i64 y, .int .i64 z]] w (Yld w (Tv (pt (mdq x y z)))) := by
 have h : z % 4 = 0 ∨ z % 4 = 1 ∨ z % 4 = 2 ∨ z % 4 = 3 := by omega
 rcases h with h | h | h | h
 ·exact made_0 x y z w hx hy hz h
 ·exact made_1 x y z w hx hy hz h
 ·exact made_2 x y z w hx hy hz h
 ·exact made_3 x y z w hx hy hz h
end Go.Proofs.YtkeomlpecjjhiaaGreatDoor
