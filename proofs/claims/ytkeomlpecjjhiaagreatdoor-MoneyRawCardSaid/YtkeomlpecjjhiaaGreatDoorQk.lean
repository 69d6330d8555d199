/- The reference model of layer 2: Sign, Neg, Add, Sub, Cmp, Mul, Quo, Of, Make. -/
import Derived.Test.YtkeomlpecjjhiaaGreatDoorQj
namespace Go.Proofs.YtkeomlpecjjhiaaGreatDoor
open Go.RowKit
set_option maxRecDepth 100000
theorem C_rsub {a b l : List UInt8} {n : Nat} (hl : nb n = l) (ha : a.length ≤ 10000) (hb : b.length ≤ 10000) (hn : bv a = n + bv b) : Ans 75 #[S a, S b] (.tuple #[S l, .bool true]) := fun w =>
 (refSub_yes a b w ha hb (by omega)).mono fun _ _ h => by
  obtain ⟨he, hC⟩ := h
  refine ⟨?_, hC⟩
  rw [he, show bv a - bv b = n by omega, hl]
theorem len_of4 {q : Rat} {s : Bool} {n d : List UInt8} {s' : Bool} {n' d' : List UInt8} (hq : ratOf s n d = q) (hn : n.length ≤ 400) (hd : d.length ≤ 400) (hi : Is q s' n' d') : n'.length ≤ 400 ∧ d'.length ≤ 400 := by
 have h := Szq.of_len (s := s) (n := n) (d := d) (k := 400) hn hd (by decide)
 rw [hq] at h
 exact h.len hi
set_option maxHeartbeats 3200000 in
theorem C_rMul {a b : Rat} {s t r : Bool} {n d m e k f : List UInt8} (hn : n.length ≤ 400) (hd : d.length ≤ 400) (hm : m.length ≤ 400) (he : e.length ≤ 400) (ra : ratOf s n d = a) (rb : ratOf t m e = b) (ic : Is (a * b) r k f) : Ans 16 #[Rv s n d, Rv t m e] (Rv r k f) := fun w => by
 obtain ⟨s1, n1, d1, ia⟩ := Is.ex a
 obtain ⟨t1, m1, e1, ib⟩ := Is.ex b
 obtain ⟨ln, ld⟩ := len_of4 ra hn hd ia
 obtain ⟨lm, le⟩ := len_of4 rb hm he ib
 have H1 := Lib.hid (C_value (by omega) (by omega) ra ia)
 have H2 := Lib.hid (C_value (by omega) (by omega) rb ib)
 have bn := bv_b ln
 have bd := bv_b ld
 have bm := bv_b lm
 have be := bv_b le
 obtain ⟨x, ex, vx⟩ := has_nb (bv n1 * bv m1)
 obtain ⟨y, ey, vy⟩ := has_nb (bv d1 * bv e1)
 have lx := nbl' _ ex (mulb bn bm)
 have ly := nbl' _ ey (mulb bd be)
 have hm1 : a * b = mq (!(s1 == t1)) (bv x) (bv y) := mq_mul a b _ _ _ (by show sv (s1 != t1) _ = _; rw [vx, ← sv_mul, ia.val, ib.val]) (by rw [vy, ia.vd, ib.vd])
 rw [hm1] at ic
 have H3 := Lib.hid (C_rmul (a := n1) (b := m1) ex (by omega) (by omega) rfl)
 have H4 := Lib.hid (C_rmul (a := d1) (b := e1) ey (by omega) (by omega) rfl)
 have H5 := Lib.hid (C_lowest (s := !(s1 == t1)) (n := x) (d := y) (by omega) (by omega) (ex ▸ rt_nb _) (by rw [vy]; exact Nat.mul_pos ia.pos ib.pos) ic)
 clear hm1 ic ex vx ey vy lx ly bn bd bm be ln ld lm le ia ib hn hd hm he ra rb
 have HB := Lib.hid (Box.three w #[.bool s, S n, S d] #[.bool t, S m, S e] #[.bool false, S [], S []])
 obtain ⟨B, hB⟩ : ∃ B, w.heap.size = B := ⟨_, rfl⟩
 rw [hB] at HB
 obtain ⟨a0, a1, a2, fa0, fa1, fa2⟩ := HB.out.store0
 obtain ⟨b0, b1, b2, fb0, fb1, fb2⟩ := HB.out.store1
 go_enter Tryz.func16, Tryz.ntmps16
 go_wp2_with fail
 refine (H1.out _).mono ?_
 rintro e w1 ⟨rfl, hC⟩
 have HB2 := Lib.hid (HB.out.on hC)
 clear hC HB a0 a1 a2 fa0 fa1 fa2 b0 b1 b2 fb0 fb1 fb2
 have HB := HB2
 clear HB2
 obtain ⟨a0, a1, a2, fa0, fa1, fa2⟩ := HB.out.store0
 obtain ⟨b0, b1, b2, fb0, fb1, fb2⟩ := HB.out.store1
 go_wp2_with fail
 have HBN : Box w (((w1.setCell ⟨B, 0, none⟩ (.bool s1)).setCell ⟨B, 1, none⟩ (S n1)).setCell ⟨B, 2, none⟩ (S d1)) B [[.bool s1, S n1, S d1], [.bool t, S m, S e], [.bool false, S [], S []]] := HB.out.upd (i := 0) rfl (.bool s1) (S n1) (S d1)
 obtain ⟨W1, hWn⟩ : ∃ W', (((w1.setCell ⟨B, 0, none⟩ (.bool s1)).setCell ⟨B, 1, none⟩ (S n1)).setCell ⟨B, 2, none⟩ (S d1)) = W' := ⟨_, rfl⟩
 rw [hWn] at HBN ⊢
 clear hWn HB a0 a1 a2 fa0 fa1 fa2 b0 b1 b2 fb0 fb1 fb2
 have HB := Lib.hid HBN
 clear HBN
 obtain ⟨a0, a1, a2, fa0, fa1, fa2⟩ := HB.out.store0
 obtain ⟨b0, b1, b2, fb0, fb1, fb2⟩ := HB.out.store1
 refine (H2.out _).mono ?_
 rintro e w2 ⟨rfl, hC⟩
 have HB2 := Lib.hid (HB.out.on hC)
 clear hC HB a0 a1 a2 fa0 fa1 fa2 b0 b1 b2 fb0 fb1 fb2
 have HB := HB2
 clear HB2
 obtain ⟨a0, a1, a2, fa0, fa1, fa2⟩ := HB.out.store0
 obtain ⟨b0, b1, b2, fb0, fb1, fb2⟩ := HB.out.store1
 go_wp2_with fail
 have HBN : Box w (((w2.setCell ⟨B + 1, 0, none⟩ (.bool t1)).setCell ⟨B + 1, 1, none⟩ (S m1)).setCell ⟨B + 1, 2, none⟩ (S e1)) B [[.bool s1, S n1, S d1], [.bool t1, S m1, S e1], [.bool false, S [], S []]] := HB.out.upd (i := 1) rfl (.bool t1) (S m1) (S e1)
 obtain ⟨W2, hWn⟩ : ∃ W', (((w2.setCell ⟨B + 1, 0, none⟩ (.bool t1)).setCell ⟨B + 1, 1, none⟩ (S m1)).setCell ⟨B + 1, 2, none⟩ (S e1)) = W' := ⟨_, rfl⟩
 rw [hWn] at HBN ⊢
 clear hWn HB a0 a1 a2 fa0 fa1 fa2 b0 b1 b2 fb0 fb1 fb2
 have HB := Lib.hid HBN
 clear HBN
 obtain ⟨a0, a1, a2, b0, b1, b2⟩ := HB.out.cells2
 clear a0 a1 a2 b0 b1 b2
 have HBD := Lib.hid HB.out.drew
 clear HB
 have HB := HBD
 clear HBD
 go_region_held3 (fun w' => w'.cell? ⟨B, 0, none⟩ = some (.bool s1) ∧ w'.cell? ⟨B, 1, none⟩ = some (S n1) ∧ w'.cell? ⟨B, 2, none⟩ = some (S d1) ∧ w'.cell? ⟨B + 1, 0, none⟩ = some (.bool t1) ∧ w'.cell? ⟨B + 1, 1, none⟩ = some (S m1) ∧ w'.cell? ⟨B + 1, 2, none⟩ = some (S e1))
  (first
   | (with_reducible exact HB.out.cells2)
   | (exact HB.out.cells2p _ _ _)
   | go_keep)
  (first
   | (go_at_call 42; with_reducible refine (H3.out _).mono ?_; rintro e wq ⟨rfl, hCq⟩; have HB2 := Lib.hid (HB.out.on hCq); clear hCq HB; have HB := HB2; clear HB2)
   | (go_at_call 42; with_reducible refine (H4.out _).mono ?_; rintro e wq ⟨rfl, hCq⟩; have HB2 := Lib.hid (HB.out.on hCq); clear hCq HB; have HB := HB2; clear HB2)
   | (go_at_call 43; with_reducible refine (H5.out _).mono ?_; rintro e wq ⟨rfl, hCq⟩; have HB2 := Lib.hid (HB.out.on hCq); clear hCq HB; have HB := HB2; clear HB2; obtain ⟨e0, e1, e2, f0, f1, f2⟩ := HB.out.store (i := 2) rfl))
 go_wp2_with fail
 have hp := HB.out.put (i := 2) rfl (.bool r) (S k) (S f)
 refine bodyPost_ret (results_cell_row (P := Tryz.prog) rfl _ _ (B + 2) 26 _ (0, 0) _ rfl hp.1 Tryz.underlying26 rfl (by kernel_rfl)) rfl ?_
 exact ⟨rfl, hp.2⟩
set_option maxHeartbeats 3200000 in
theorem C_rQuo {a b : Rat} {s t r : Bool} {n d m e k f : List UInt8} (hn : n.length ≤ 400) (hd : d.length ≤ 400) (hm : m.length ≤ 400) (he : e.length ≤ 400) (ra : ratOf s n d = a) (rb : ratOf t m e = b) (hb : b ≠ 0) (ic : Is (a / b) r k f) : Ans 26 #[Rv s n d, Rv t m e] (.tuple #[Rv r k f, .bool true]) := fun w => by
 obtain ⟨s1, n1, d1, ia⟩ := Is.ex a
 obtain ⟨t1, m1, e1, ib⟩ := Is.ex b
 obtain ⟨ln, ld⟩ := len_of4 ra hn hd ia
 obtain ⟨lm, le⟩ := len_of4 rb hm he ib
 have H1 := Lib.hid (C_value (by omega) (by omega) ra ia)
 have H2 := Lib.hid (C_value (by omega) (by omega) rb ib)
 have bn := bv_b ln
 have bd := bv_b ld
 have bm := bv_b lm
 have be := bv_b le
 obtain ⟨x, ex, vx⟩ := has_nb (bv n1 * bv e1)
 obtain ⟨y, ey, vy⟩ := has_nb (bv d1 * bv m1)
 have lx := nbl' _ ex (mulb bn be)
 have ly := nbl' _ ey (mulb bd bm)
 have hm0 : 0 < bv m1 := rt_pos ib.rtn (fun e => hb (ib.nil.1 e))
 have hme : (m1 == []) = false := beq_no fun e => hb (ib.nil.1 e)
 have hm1 : a / b = mq (!(s1 == t1)) (bv x) (bv y) := by show _ = mq (s1 != t1) _ _; rw [mq_div a b hb, ia.sgn, ib.sgn, vx, vy, ia.vn, ia.vd, ib.vn, ib.vd]
 rw [hm1] at ic
 have H3 := Lib.hid (C_rmul (a := n1) (b := e1) ex (by omega) (by omega) rfl)
 have H4 := Lib.hid (C_rmul (a := d1) (b := m1) ey (by omega) (by omega) rfl)
 have H5 := Lib.hid (C_lowest (s := !(s1 == t1)) (n := x) (d := y) (by omega) (by omega) (ex ▸ rt_nb _) (by rw [vy]; exact Nat.mul_pos ia.pos hm0) ic)
 clear hm0 hb
 clear hm1 ic ex vx ey vy lx ly bn bd bm be ln ld lm le ia ib hn hd hm he ra rb
 have HB := Lib.hid (Box.three w #[.bool s, S n, S d] #[.bool t, S m, S e] #[.bool false, S [], S []])
 obtain ⟨B, hB⟩ : ∃ B, w.heap.size = B := ⟨_, rfl⟩
 rw [hB] at HB
 obtain ⟨a0, a1, a2, fa0, fa1, fa2⟩ := HB.out.store0
 obtain ⟨b0, b1, b2, fb0, fb1, fb2⟩ := HB.out.store1
 go_enter Tryz.func26, Tryz.ntmps26
 go_wp2_with fail
 refine (H1.out _).mono ?_
 rintro e w1 ⟨rfl, hC⟩
 have HB2 := Lib.hid (HB.out.on hC)
 clear hC HB a0 a1 a2 fa0 fa1 fa2 b0 b1 b2 fb0 fb1 fb2
 have HB := HB2
 clear HB2
 obtain ⟨a0, a1, a2, fa0, fa1, fa2⟩ := HB.out.store0
 obtain ⟨b0, b1, b2, fb0, fb1, fb2⟩ := HB.out.store1
 go_wp2_with fail
 have HBN : Box w (((w1.setCell ⟨B, 0, none⟩ (.bool s1)).setCell ⟨B, 1, none⟩ (S n1)).setCell ⟨B, 2, none⟩ (S d1)) B [[.bool s1, S n1, S d1], [.bool t, S m, S e], [.bool false, S [], S []]] := HB.out.upd (i := 0) rfl (.bool s1) (S n1) (S d1)
 obtain ⟨W1, hWn⟩ : ∃ W', (((w1.setCell ⟨B, 0, none⟩ (.bool s1)).setCell ⟨B, 1, none⟩ (S n1)).setCell ⟨B, 2, none⟩ (S d1)) = W' := ⟨_, rfl⟩
 rw [hWn] at HBN ⊢
 clear hWn HB a0 a1 a2 fa0 fa1 fa2 b0 b1 b2 fb0 fb1 fb2
 have HB := Lib.hid HBN
 clear HBN
 obtain ⟨a0, a1, a2, fa0, fa1, fa2⟩ := HB.out.store0
 obtain ⟨b0, b1, b2, fb0, fb1, fb2⟩ := HB.out.store1
 refine (H2.out _).mono ?_
 rintro e w2 ⟨rfl, hC⟩
 have HB2 := Lib.hid (HB.out.on hC)
 clear hC HB a0 a1 a2 fa0 fa1 fa2 b0 b1 b2 fb0 fb1 fb2
 have HB := HB2
 clear HB2
 obtain ⟨a0, a1, a2, fa0, fa1, fa2⟩ := HB.out.store0
 obtain ⟨b0, b1, b2, fb0, fb1, fb2⟩ := HB.out.store1
 go_wp2_with fail
 have HBN : Box w (((w2.setCell ⟨B + 1, 0, none⟩ (.bool t1)).setCell ⟨B + 1, 1, none⟩ (S m1)).setCell ⟨B + 1, 2, none⟩ (S e1)) B [[.bool s1, S n1, S d1], [.bool t1, S m1, S e1], [.bool false, S [], S []]] := HB.out.upd (i := 1) rfl (.bool t1) (S m1) (S e1)
 obtain ⟨W2, hWn⟩ : ∃ W', (((w2.setCell ⟨B + 1, 0, none⟩ (.bool t1)).setCell ⟨B + 1, 1, none⟩ (S m1)).setCell ⟨B + 1, 2, none⟩ (S e1)) = W' := ⟨_, rfl⟩
 rw [hWn] at HBN ⊢
 clear hWn HB a0 a1 a2 fa0 fa1 fa2 b0 b1 b2 fb0 fb1 fb2
 have HB := Lib.hid HBN
 clear HBN
 obtain ⟨a0, a1, a2, b0, b1, b2⟩ := HB.out.cells2
 clear a0 a1 a2 b0 b1 b2
 have HBD := Lib.hid HB.out.drew
 clear HB
 have HB := HBD
 clear HBD
 go_region_held3 (fun w' => w'.cell? ⟨B, 0, none⟩ = some (.bool s1) ∧ w'.cell? ⟨B, 1, none⟩ = some (S n1) ∧ w'.cell? ⟨B, 2, none⟩ = some (S d1) ∧ w'.cell? ⟨B + 1, 0, none⟩ = some (.bool t1) ∧ w'.cell? ⟨B + 1, 1, none⟩ = some (S m1) ∧ w'.cell? ⟨B + 1, 2, none⟩ = some (S e1))
  (first
   | (with_reducible exact HB.out.cells2)
   | (exact HB.out.cells2p _ _ _)
   | go_keep)
  (first
   | (go_at_call 42; with_reducible refine (H3.out _).mono ?_; rintro e wq ⟨rfl, hCq⟩; have HB2 := Lib.hid (HB.out.on hCq); clear hCq HB; have HB := HB2; clear HB2)
   | (go_at_call 42; with_reducible refine (H4.out _).mono ?_; rintro e wq ⟨rfl, hCq⟩; have HB2 := Lib.hid (HB.out.on hCq); clear hCq HB; have HB := HB2; clear HB2)
   | (go_at_call 43; with_reducible refine (H5.out _).mono ?_; rintro e wq ⟨rfl, hCq⟩; have HB2 := Lib.hid (HB.out.on hCq); clear hCq HB; have HB := HB2; clear HB2; obtain ⟨e0, e1, e2, f0, f1, f2⟩ := HB.out.store (i := 2) rfl))
 go_wp2_with fail
 have hp := HB.out.put (i := 2) rfl (.bool r) (S k) (S f)
 refine bodyPost_ret (results_cell_row_tmp (P := Tryz.prog) rfl _ _ (B + 2) 26 _ (0, 0) _ rfl hp.1 Tryz.underlying26 rfl (by kernel_rfl)) rfl ?_
 exact ⟨rfl, hp.2⟩
set_option maxHeartbeats 3200000 in
theorem C_rAdd {a b : Rat} {s t r : Bool} {n d m e k f : List UInt8} (hn : n.length ≤ 400) (hd : d.length ≤ 400) (hm : m.length ≤ 400) (he : e.length ≤ 400) (ra : ratOf s n d = a) (rb : ratOf t m e = b) (ic : Is (a + b) r k f) : Ans 32 #[Rv s n d, Rv t m e] (Rv r k f) := fun w => by
 obtain ⟨s1, n1, d1, ia⟩ := Is.ex a
 obtain ⟨t1, m1, e1, ib⟩ := Is.ex b
 obtain ⟨ln, ld⟩ := len_of4 ra hn hd ia
 obtain ⟨lm, le⟩ := len_of4 rb hm he ib
 have H1 := Lib.hid (C_value (by omega) (by omega) ra ia)
 have H2 := Lib.hid (C_value (by omega) (by omega) rb ib)
 have bn := bv_b ln
 have bd := bv_b ld
 have bm := bv_b lm
 have be := bv_b le
 obtain ⟨x, ex, vx⟩ := has_nb (bv n1 * bv e1)
 obtain ⟨y, ey, vy⟩ := has_nb (bv m1 * bv d1)
 obtain ⟨z, ez, vz⟩ := has_nb (bv d1 * bv e1)
 have bx := mulb bn be
 have by' := mulb bm bd
 have lx := nbl' _ ex bx
 have ly := nbl' _ ey by'
 have lz := nbl' _ ez (mulb bd be)
 obtain ⟨⟨ng, N⟩, hN⟩ : ∃ p, dsum s1 (bv x) t1 (bv y) = p := ⟨_, rfl⟩
 have hNl : N ≤ bv x + bv y := by have := dsum_le s1 (bv x) t1 (bv y); rw [hN] at this; exact this
 have hNv := dsum_val s1 (bv x) t1 (bv y)
 rw [hN] at hNv
 obtain ⟨u, eu, vu⟩ := has_nb N
 have bN := Nat.lt_of_le_of_lt hNl (by rw [vx, vy]; exact add_bound (m := 400 + 400) bx by')
 have lu := nbl' _ eu bN
 have hm1 : a + b = mq ng (bv u) (bv z) := mq_add a b _ _ _ (by rw [vu, hNv, vx, vy, sv_scale, sv_scale, ia.val, ib.val, ia.vd, ib.vd]) (by rw [vz, ia.vd, ib.vd])
 rw [hm1] at ic
 have H3 := Lib.hid (C_rmul (a := n1) (b := e1) ex (by omega) (by omega) rfl)
 have H4 := Lib.hid (C_rmul (a := m1) (b := d1) ey (by omega) (by omega) rfl)
 have H5 := Lib.hid (C_rmul (a := d1) (b := e1) ez (by omega) (by omega) rfl)
 have H6 := Lib.hid (C_lowest (s := ng) (n := u) (d := z) (by omega) (by omega) (eu ▸ rt_nb _) (by rw [vz]; exact Nat.mul_pos ia.pos ib.pos) ic)
 unfold dsum at hN
 have hcase : (s1 = t1 ∧ ng = s1 ∧ bv x + bv y = N) ∨ (¬ s1 = t1 ∧ bv y ≤ bv x ∧ ng = s1 ∧ bv x = N + bv y) ∨ (¬ s1 = t1 ∧ bv x < bv y ∧ ng = t1 ∧ bv y = N + bv x) := by
  by_cases h1 : s1 = t1
  ·rw [if_pos h1] at hN
   simp only [Prod.mk.injEq] at hN
   exact .inl ⟨h1, hN.1.symm, hN.2⟩
  ·rw [if_neg h1] at hN
   by_cases h2 : bv y ≤ bv x
   ·rw [if_pos h2] at hN
    simp only [Prod.mk.injEq] at hN
    exact .inr (.inl ⟨h1, h2, hN.1.symm, by omega⟩)
   ·rw [if_neg h2] at hN
    simp only [Prod.mk.injEq] at hN
    exact .inr (.inr ⟨h1, by omega, hN.1.symm, by omega⟩)
 have HC := Lib.hid hcase
 have LX := Lib.hid lx
 have LY := Lib.hid ly
 have EU := Lib.hid eu
 clear hcase hN hNl hNv hm1 ic ex vx ey vy ez vz bx by' lx ly lz eu vu bN lu bn bd bm be ln ld lm le ia ib hn hd hm he ra rb
 have HB := Lib.hid (Box.three w #[.bool s, S n, S d] #[.bool t, S m, S e] #[.bool false, S [], S []])
 obtain ⟨B, hB⟩ : ∃ B, w.heap.size = B := ⟨_, rfl⟩
 rw [hB] at HB
 obtain ⟨a0, a1, a2, fa0, fa1, fa2⟩ := HB.out.store0
 obtain ⟨b0, b1, b2, fb0, fb1, fb2⟩ := HB.out.store1
 go_enter Tryz.func32, Tryz.ntmps32
 go_wp2_with fail
 refine (H1.out _).mono ?_
 rintro e w1 ⟨rfl, hC⟩
 have HB2 := Lib.hid (HB.out.on hC)
 clear hC HB a0 a1 a2 fa0 fa1 fa2 b0 b1 b2 fb0 fb1 fb2
 have HB := HB2
 clear HB2
 obtain ⟨a0, a1, a2, fa0, fa1, fa2⟩ := HB.out.store0
 obtain ⟨b0, b1, b2, fb0, fb1, fb2⟩ := HB.out.store1
 go_wp2_with fail
 have HBN : Box w (((w1.setCell ⟨B, 0, none⟩ (.bool s1)).setCell ⟨B, 1, none⟩ (S n1)).setCell ⟨B, 2, none⟩ (S d1)) B [[.bool s1, S n1, S d1], [.bool t, S m, S e], [.bool false, S [], S []]] := HB.out.upd (i := 0) rfl (.bool s1) (S n1) (S d1)
 obtain ⟨W1, hWn⟩ : ∃ W', (((w1.setCell ⟨B, 0, none⟩ (.bool s1)).setCell ⟨B, 1, none⟩ (S n1)).setCell ⟨B, 2, none⟩ (S d1)) = W' := ⟨_, rfl⟩
 rw [hWn] at HBN ⊢
 clear hWn HB a0 a1 a2 fa0 fa1 fa2 b0 b1 b2 fb0 fb1 fb2
 have HB := Lib.hid HBN
 clear HBN
 obtain ⟨a0, a1, a2, fa0, fa1, fa2⟩ := HB.out.store0
 obtain ⟨b0, b1, b2, fb0, fb1, fb2⟩ := HB.out.store1
 refine (H2.out _).mono ?_
 rintro e w2 ⟨rfl, hC⟩
 have HB2 := Lib.hid (HB.out.on hC)
 clear hC HB a0 a1 a2 fa0 fa1 fa2 b0 b1 b2 fb0 fb1 fb2
 have HB := HB2
 clear HB2
 obtain ⟨a0, a1, a2, fa0, fa1, fa2⟩ := HB.out.store0
 obtain ⟨b0, b1, b2, fb0, fb1, fb2⟩ := HB.out.store1
 go_wp2_with fail
 have HBN : Box w (((w2.setCell ⟨B + 1, 0, none⟩ (.bool t1)).setCell ⟨B + 1, 1, none⟩ (S m1)).setCell ⟨B + 1, 2, none⟩ (S e1)) B [[.bool s1, S n1, S d1], [.bool t1, S m1, S e1], [.bool false, S [], S []]] := HB.out.upd (i := 1) rfl (.bool t1) (S m1) (S e1)
 obtain ⟨W2, hWn⟩ : ∃ W', (((w2.setCell ⟨B + 1, 0, none⟩ (.bool t1)).setCell ⟨B + 1, 1, none⟩ (S m1)).setCell ⟨B + 1, 2, none⟩ (S e1)) = W' := ⟨_, rfl⟩
 rw [hWn] at HBN ⊢
 clear hWn HB a0 a1 a2 fa0 fa1 fa2 b0 b1 b2 fb0 fb1 fb2
 have HB := Lib.hid HBN
 clear HBN
 obtain ⟨a0, a1, a2, b0, b1, b2⟩ := HB.out.cells2
 refine (H3.out _).mono ?_
 rintro e w3 ⟨rfl, hC⟩
 have HB2 := Lib.hid (HB.out.on hC)
 clear hC HB a0 a1 a2 b0 b1 b2
 have HB := HB2
 clear HB2
 obtain ⟨a0, a1, a2, b0, b1, b2⟩ := HB.out.cells2
 go_wp2_with fail
 refine (H4.out _).mono ?_
 rintro e w4 ⟨rfl, hC⟩
 have HB2 := Lib.hid (HB.out.on hC)
 clear hC HB a0 a1 a2 b0 b1 b2
 have HB := HB2
 clear HB2
 obtain ⟨a0, a1, a2, b0, b1, b2⟩ := HB.out.cells2
 go_wp2_with fail
 refine (H5.out _).mono ?_
 rintro e w5 ⟨rfl, hC⟩
 have HB2 := Lib.hid (HB.out.on hC)
 clear hC HB a0 a1 a2 b0 b1 b2
 have HB := HB2
 clear HB2
 obtain ⟨a0, a1, a2, b0, b1, b2⟩ := HB.out.cells2
 have lx := LX.out
 have ly := LY.out
 rcases HC.out with ⟨h1, h2, h3⟩ | ⟨h1, h2, h3, h4⟩ | ⟨h1, h2, h3, h4⟩
 ·subst h1
  subst h2
  have H7 := Lib.hid (C_radd (a := x) (b := y) EU.out (by omega) (by omega) h3)
  have hss : (ng == ng) = true := by simp
  clear h3 lx ly
  go_wp2_with fail
  clear a0 a1 a2 b0 b1 b2
  have HBD := Lib.hid HB.out.drew
  clear HB
  have HB := HBD
  clear HBD
  go_region_held3 (fun w' => w'.cell? ⟨B, 0, none⟩ = some (.bool ng) ∧ w'.cell? ⟨B, 1, none⟩ = some (S n1) ∧ w'.cell? ⟨B, 2, none⟩ = some (S d1) ∧ w'.cell? ⟨B + 1, 0, none⟩ = some (.bool ng) ∧ w'.cell? ⟨B + 1, 1, none⟩ = some (S m1) ∧ w'.cell? ⟨B + 1, 2, none⟩ = some (S e1))
   (first
    | (with_reducible exact HB.out.cells2)
    | (exact HB.out.cells2p _ _ _)
    | go_keep)
   (first
    | (go_at_call 53; with_reducible refine (H7.out _).mono ?_; rintro e wq ⟨rfl, hCq⟩; have HB2 := Lib.hid (HB.out.on hCq); clear hCq HB; have HB := HB2; clear HB2)
    | (go_at_call 43; with_reducible refine (H6.out _).mono ?_; rintro e wq ⟨rfl, hCq⟩; have HB2 := Lib.hid (HB.out.on hCq); clear hCq HB; have HB := HB2; clear HB2; obtain ⟨e0, e1, e2, f0, f1, f2⟩ := HB.out.store (i := 2) rfl))
  go_wp2_with fail
  have hp := HB.out.put (i := 2) rfl (.bool r) (S k) (S f)
  refine bodyPost_ret (results_cell_row (P := Tryz.prog) rfl _ _ (B + 2) 26 _ (0, 0) _ rfl hp.1 Tryz.underlying26 rfl (by kernel_rfl)) rfl ?_
  exact ⟨rfl, hp.2⟩
 ·have hss : (s1 == t1) = false := by simpa using h1
  subst h3
  have H7 := Lib.hid (C_rcmp (a := x) (b := y) (by omega) (by omega) rfl)
  obtain ⟨cc, hcc, hcc0⟩ := cmpN_ge h2
  rw [hcc] at H7
  have H8 := Lib.hid (C_rsub (a := x) (b := y) EU.out (by omega) (by omega) h4)
  clear h1 h2 h4 hcc lx ly
  go_wp2_with fail
  refine (H7.out _).mono ?_
  rintro e w6 ⟨rfl, hC⟩
  have HB2 := Lib.hid (HB.out.on hC)
  clear hC HB a0 a1 a2 b0 b1 b2
  have HB := HB2
  clear HB2
  obtain ⟨a0, a1, a2, b0, b1, b2⟩ := HB.out.cells2
  go_wp2_with fail
  refine (H8.out _).mono ?_
  rintro e w7 ⟨rfl, hC⟩
  have HB2 := Lib.hid (HB.out.on hC)
  clear hC HB a0 a1 a2 b0 b1 b2
  have HB := HB2
  clear HB2
  obtain ⟨a0, a1, a2, b0, b1, b2⟩ := HB.out.cells2
  go_wp2_with fail
  refine (H6.out _).mono ?_
  rintro e w8 ⟨rfl, hC⟩
  have HB2 := Lib.hid (HB.out.on hC)
  clear hC HB a0 a1 a2 b0 b1 b2
  have HB := HB2
  clear HB2
  obtain ⟨e0, e1, e2, f0, f1, f2⟩ := HB.out.store (i := 2) rfl
  go_wp2_with fail
  have hp := HB.out.put (i := 2) rfl (.bool r) (S k) (S f)
  refine bodyPost_ret (results_cell_row (P := Tryz.prog) rfl _ _ (B + 2) 26 _ (0, 0) _ rfl hp.1 Tryz.underlying26 rfl (by kernel_rfl)) rfl ?_
  exact ⟨rfl, hp.2⟩
 ·have hss : (s1 == t1) = false := by simpa using h1
  subst h3
  have H7 := Lib.hid (C_rcmp (a := x) (b := y) (by omega) (by omega) (cmpN_lt h2))
  have H8 := Lib.hid (C_rsub (a := y) (b := x) EU.out (by omega) (by omega) h4)
  clear h1 h2 h4 lx ly
  go_wp2_with fail
  refine (H7.out _).mono ?_
  rintro e w6 ⟨rfl, hC⟩
  have HB2 := Lib.hid (HB.out.on hC)
  clear hC HB a0 a1 a2 b0 b1 b2
  have HB := HB2
  clear HB2
  obtain ⟨a0, a1, a2, b0, b1, b2⟩ := HB.out.cells2
  go_wp2_with fail
  refine (H8.out _).mono ?_
  rintro e w7 ⟨rfl, hC⟩
  have HB2 := Lib.hid (HB.out.on hC)
  clear hC HB a0 a1 a2 b0 b1 b2
  have HB := HB2
  clear HB2
  obtain ⟨a0, a1, a2, b0, b1, b2⟩ := HB.out.cells2
  go_wp2_with fail
  refine (H6.out _).mono ?_
  rintro e w8 ⟨rfl, hC⟩
  have HB2 := Lib.hid (HB.out.on hC)
  clear hC HB a0 a1 a2 b0 b1 b2
  have HB := HB2
  clear HB2
  obtain ⟨e0, e1, e2, f0, f1, f2⟩ := HB.out.store (i := 2) rfl
  go_wp2_with fail
  have hp := HB.out.put (i := 2) rfl (.bool r) (S k) (S f)
  refine bodyPost_ret (results_cell_row (P := Tryz.prog) rfl _ _ (B + 2) 26 _ (0, 0) _ rfl hp.1 Tryz.underlying26 rfl (by kernel_rfl)) rfl ?_
  exact ⟨rfl, hp.2⟩
end Go.Proofs.YtkeomlpecjjhiaaGreatDoor
