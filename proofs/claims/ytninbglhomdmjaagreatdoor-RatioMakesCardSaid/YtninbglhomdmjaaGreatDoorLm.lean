/- The laws of layer 2: RatioMakes. -/
import Derived.Test.YtninbglhomdmjaaGreatDoorLa
namespace Go.Proofs.YtninbglhomdmjaaGreatDoor
open Go.RowKit
/-- Make of both packages answers alike. -/
theorem C_make_both {s : Bool} {n d : List UInt8} (hn : n.length ≤ 1000) (hd : d.length ≤ 1000) :
    ∃ (r : Bool) (k f : List UInt8) (ok : Bool), Ans 32 #[.bool s, S n, S d] (.tuple #[Rv r k f, .bool ok]) ∧ Ans 33 #[.bool s, S n, S d] (.tuple #[Rv r k f, .bool ok]) := by
  by_cases h : Rt n ∧ Rt d ∧ d ≠ []
  · exact ⟨_, _, _, true, C_Make hn hd h.1 h.2.1 h.2.2 (pt_is _), C_rMake hn hd h.1 h.2.1 h.2.2 (pt_is _)⟩
  · exact ⟨false, [], [], false, C_Make_no hn hd h, C_rMake_no hn hd h⟩
theorem min20 (l : List UInt8) : ∃ n : Nat, (min (l.length : Int) 20 = (n : Int)) ∧ n ≤ 20 ∧ n ≤ l.length ∧ (n : Int) ≤ (l.length : Int) ∧ (ByteArray.mk l.toArray).extract 0 n = ⟨(l.take n).toArray⟩ ∧ (l.take n).length = n := by
  refine ⟨min l.length 20, by omega, by omega, by omega, by omega, ext_take _ _, by rw [List.length_take]; omega⟩
set_option maxRecDepth 100000 in
set_option maxHeartbeats 3200000 in
theorem makes_core (b : Bool) (l0 l1 : List UInt8) (n : Int) (w : World) (h0 : l0.length ≤ 9223372036854775807) (h1 : l1.length ≤ 9223372036854775807) (hn : i64r n) (ht : Tb w) :
    Calls Tryz.prog 5 #[.bool b, .agg #[S l0, S l1], .int .i64 n] w (Yld w (.bool true)) := by
  obtain ⟨n0, a1, a2, a3, a4, a5, a6⟩ := min20 l0
  obtain ⟨n1, b1, b2, b3, b4, b5, b6⟩ := min20 l1
  obtain ⟨nu, hnu⟩ : ∃ x, l0.take n0 = x := ⟨_, rfl⟩
  obtain ⟨de, hde⟩ : ∃ x, l1.take n1 = x := ⟨_, rfl⟩
  rw [hnu] at a5 a6
  rw [hde] at b5 b6
  obtain ⟨k1, hk1⟩ : ∃ k, n % 1099511627776 = k := ⟨_, rfl⟩
  obtain ⟨x1, e1, v1⟩ := has_nb k1.toNat
  obtain ⟨x2, e2, v2⟩ := has_nb (1 + (n0 : Int)).toNat
  obtain ⟨x3, e3, v3⟩ := has_nb n.natAbs
  have p8' := p8
  have y1 := nbl' 8 e1 (by omega)
  have y2 := nbl' 8 e2 (by omega)
  have y3 := nbl' 8 e3 (by omega)
  obtain ⟨r1, k2, f1, ok1, g1, g2⟩ := C_make_both (s := b) (n := nu) (d := de) (by omega) (by omega)
  obtain ⟨r2, k3, f2, ok2, g3, g4⟩ := C_make_both (s := b) (n := x1) (d := x2) (by omega) (by omega)
  have H0 := Lib.hid sanity_true
  have H1 := Lib.hid g1
  have H2 := Lib.hid g2
  have H3 := Lib.hid g3
  have H4 := Lib.hid g4
  have H5 := Lib.hid (C_mod n 1099511627776 k1 (by omega) (by omega) hn.1 hn.2 hk1)
  have H6 := Lib.hid (C_refOf (n := k1) (l := x1) e1 (by omega) (by omega))
  have H7 := Lib.hid (C_refOf (n := 1 + (n0 : Int)) (l := x2) e2 (by omega) (by omega))
  have H8 := Lib.hid (C_Of n hn.1 hn.2 e3)
  have H9 := Lib.hid (C_rOf n hn.1 hn.2 e3)
  have H10 := Lib.hid (C_Right (s := decide (n < 0)) (n := x3) (d := [1]) (by omega) (by decide) (rightR_of (Is.int n e3)))
  have hw : IntKind.i64.wrap (1 + (n0 : Int)) = 1 + (n0 : Int) := IntWalk.i64_in _ (by omega)
  obtain ⟨sg, hsg⟩ : ∃ s, decide (n < 0) = s := ⟨_, rfl⟩
  rw [hsg] at H8 H9 H10
  have HT := Lib.hid ht
  clear g1 g2 g3 g4 hnu hde hk1 e1 v1 e2 v2 e3 v3 p8' y1 y2 y3 hsg ht hn
  have HK := Lib.hid ((Kq.nil w).new #[S l0, S l1] 40)
  obtain ⟨B, hB⟩ : ∃ B, w.heap.size = B := ⟨_, rfl⟩
  rw [hB] at HK
  have HF1 := Lib.hid (show ∀ W, Kq w W [(B, 40, [S l0, S l1])] → W.cell? ⟨B, 0, none⟩ = some (S l0) ∧ W.cell? ⟨B, 1, none⟩ = some (S l1) from fun W h => ⟨(h.row _ (.head _)).cell 0, (h.row _ (.head _)).cell 1⟩)
  obtain ⟨cc0, cc1⟩ := HF1.out _ HK.out
  go_enter Tryz.func5, Tryz.ntmps5
  go_wp2_with fail
  refine (H0.out _ (HT.out.ch HK.out.ch)).mono ?_
  rintro e w1 ⟨rfl, hC⟩
  have HK2 := Lib.hid (HK.out.on hC)
  clear cc0 cc1
  clear hC HK
  have HK := HK2
  clear HK2
  obtain ⟨cc0, cc1⟩ := HF1.out _ HK.out
  go_wp2_with fail
  refine (H1.out _).mono ?_
  rintro e w2 ⟨rfl, hC⟩
  have HK2 := Lib.hid (HK.out.on hC)
  clear cc0 cc1
  clear hC HK
  have HK := HK2
  clear HK2
  obtain ⟨cc0, cc1⟩ := HF1.out _ HK.out
  have hall := fun o : Obj => HF1.out _ (HK.out.other o)
  have dd0 : ∀ o : Obj, (w2.alloc o).cell? ⟨B, 0, none⟩ = some (S l0) := fun o => (hall o).1
  have dd1 : ∀ o : Obj, (w2.alloc o).cell? ⟨B, 1, none⟩ = some (S l1) := fun o => (hall o).2
  clear hall
  go_wp2_with fail
  clear cc0 cc1 dd0 dd1
  have HK2 := Lib.hid (HK.out.new #[.bool r1, S k2, S f1] 26)
  obtain ⟨w3, hW⟩ : ∃ W, w2.alloc (.cells #[.bool r1, S k2, S f1] 26 (0, 0)) = W := ⟨_, rfl⟩
  rw [hW] at HK2 ⊢
  obtain ⟨P, hA⟩ : ∃ A, w2.heap.size = A := ⟨_, rfl⟩
  rw [hA] at HK2 ⊢
  clear hA hW HK
  have HK := HK2
  clear HK2
  have HF2 := Lib.hid (show ∀ W, Kq w W [(P, 26, [.bool r1, S k2, S f1]), (B, 40, [S l0, S l1])] → W.cell? ⟨P, 0, none⟩ = some (.bool r1) ∧ W.cell? ⟨P, 1, none⟩ = some (S k2) ∧ W.cell? ⟨P, 2, none⟩ = some (S f1) ∧ W.cell? ⟨B, 0, none⟩ = some (S l0) ∧ W.cell? ⟨B, 1, none⟩ = some (S l1) from fun W h => ⟨(h.row _ (.head _)).cell 0, (h.row _ (.head _)).cell 1, (h.row _ (.head _)).cell 2, (h.row _ (.tail _ (.head _))).cell 0, (h.row _ (.tail _ (.head _))).cell 1⟩)
  obtain ⟨cc0, cc1, cc2, cc3, cc4⟩ := HF2.out _ HK.out
  refine (H2.out _).mono ?_
  rintro e w4 ⟨rfl, hC⟩
  have HK2 := Lib.hid (HK.out.on hC)
  clear cc0 cc1 cc2 cc3 cc4
  clear hC HK
  have HK := HK2
  clear HK2
  obtain ⟨cc0, cc1, cc2, cc3, cc4⟩ := HF2.out _ HK.out
  have hall := fun o : Obj => HF2.out _ (HK.out.other o)
  have dd0 : ∀ o : Obj, (w4.alloc o).cell? ⟨P, 0, none⟩ = some (.bool r1) := fun o => (hall o).1
  have dd1 : ∀ o : Obj, (w4.alloc o).cell? ⟨P, 1, none⟩ = some (S k2) := fun o => (hall o).2.1
  have dd2 : ∀ o : Obj, (w4.alloc o).cell? ⟨P, 2, none⟩ = some (S f1) := fun o => (hall o).2.2.1
  have dd3 : ∀ o : Obj, (w4.alloc o).cell? ⟨B, 0, none⟩ = some (S l0) := fun o => (hall o).2.2.2.1
  have dd4 : ∀ o : Obj, (w4.alloc o).cell? ⟨B, 1, none⟩ = some (S l1) := fun o => (hall o).2.2.2.2
  clear hall
  go_wp2_with fail
  clear cc0 cc1 cc2 cc3 cc4 dd0 dd1 dd2 dd3 dd4
  have HK2 := Lib.hid (HK.out.new #[.bool r1, S k2, S f1] 26)
  obtain ⟨w5, hW⟩ : ∃ W, w4.alloc (.cells #[.bool r1, S k2, S f1] 26 (0, 0)) = W := ⟨_, rfl⟩
  rw [hW] at HK2 ⊢
  obtain ⟨Q, hA⟩ : ∃ A, w4.heap.size = A := ⟨_, rfl⟩
  rw [hA] at HK2 ⊢
  clear hA hW HK
  have HK := HK2
  clear HK2
  have HF3 := Lib.hid (show ∀ W, Kq w W [(Q, 26, [.bool r1, S k2, S f1]), (P, 26, [.bool r1, S k2, S f1]), (B, 40, [S l0, S l1])] → W.cell? ⟨Q, 0, none⟩ = some (.bool r1) ∧ W.cell? ⟨Q, 1, none⟩ = some (S k2) ∧ W.cell? ⟨Q, 2, none⟩ = some (S f1) ∧ W.cell? ⟨P, 0, none⟩ = some (.bool r1) ∧ W.cell? ⟨P, 1, none⟩ = some (S k2) ∧ W.cell? ⟨P, 2, none⟩ = some (S f1) ∧ W.cell? ⟨B, 0, none⟩ = some (S l0) ∧ W.cell? ⟨B, 1, none⟩ = some (S l1) from fun W h => ⟨(h.row _ (.head _)).cell 0, (h.row _ (.head _)).cell 1, (h.row _ (.head _)).cell 2, (h.row _ (.tail _ (.head _))).cell 0, (h.row _ (.tail _ (.head _))).cell 1, (h.row _ (.tail _ (.head _))).cell 2, (h.row _ (.tail _ (.tail _ (.head _)))).cell 0, (h.row _ (.tail _ (.tail _ (.head _)))).cell 1⟩)
  obtain ⟨cc0, cc1, cc2, cc3, cc4, cc5, cc6, cc7⟩ := HF3.out _ HK.out
  refine (H5.out _).mono ?_
  rintro e w6 ⟨rfl, hC⟩
  have HK2 := Lib.hid (HK.out.on hC)
  clear cc0 cc1 cc2 cc3 cc4 cc5 cc6 cc7
  clear hC HK
  have HK := HK2
  clear HK2
  obtain ⟨cc0, cc1, cc2, cc3, cc4, cc5, cc6, cc7⟩ := HF3.out _ HK.out
  go_wp2_with fail
  refine (H6.out _).mono ?_
  rintro e w7 ⟨rfl, hC⟩
  have HK2 := Lib.hid (HK.out.on hC)
  clear cc0 cc1 cc2 cc3 cc4 cc5 cc6 cc7
  clear hC HK
  have HK := HK2
  clear HK2
  obtain ⟨cc0, cc1, cc2, cc3, cc4, cc5, cc6, cc7⟩ := HF3.out _ HK.out
  go_wp2_with fail
  refine (H7.out _).mono ?_
  rintro e w8 ⟨rfl, hC⟩
  have HK2 := Lib.hid (HK.out.on hC)
  clear cc0 cc1 cc2 cc3 cc4 cc5 cc6 cc7
  clear hC HK
  have HK := HK2
  clear HK2
  obtain ⟨cc0, cc1, cc2, cc3, cc4, cc5, cc6, cc7⟩ := HF3.out _ HK.out
  go_wp2_with fail
  refine (H3.out _).mono ?_
  rintro e w9 ⟨rfl, hC⟩
  have HK2 := Lib.hid (HK.out.on hC)
  clear cc0 cc1 cc2 cc3 cc4 cc5 cc6 cc7
  clear hC HK
  have HK := HK2
  clear HK2
  obtain ⟨cc0, cc1, cc2, cc3, cc4, cc5, cc6, cc7⟩ := HF3.out _ HK.out
  have hall := fun o : Obj => HF3.out _ (HK.out.other o)
  have dd0 : ∀ o : Obj, (w9.alloc o).cell? ⟨Q, 0, none⟩ = some (.bool r1) := fun o => (hall o).1
  have dd1 : ∀ o : Obj, (w9.alloc o).cell? ⟨Q, 1, none⟩ = some (S k2) := fun o => (hall o).2.1
  have dd2 : ∀ o : Obj, (w9.alloc o).cell? ⟨Q, 2, none⟩ = some (S f1) := fun o => (hall o).2.2.1
  have dd3 : ∀ o : Obj, (w9.alloc o).cell? ⟨P, 0, none⟩ = some (.bool r1) := fun o => (hall o).2.2.2.1
  have dd4 : ∀ o : Obj, (w9.alloc o).cell? ⟨P, 1, none⟩ = some (S k2) := fun o => (hall o).2.2.2.2.1
  have dd5 : ∀ o : Obj, (w9.alloc o).cell? ⟨P, 2, none⟩ = some (S f1) := fun o => (hall o).2.2.2.2.2.1
  have dd6 : ∀ o : Obj, (w9.alloc o).cell? ⟨B, 0, none⟩ = some (S l0) := fun o => (hall o).2.2.2.2.2.2.1
  have dd7 : ∀ o : Obj, (w9.alloc o).cell? ⟨B, 1, none⟩ = some (S l1) := fun o => (hall o).2.2.2.2.2.2.2
  clear hall
  go_wp2_with fail
  clear cc0 cc1 cc2 cc3 cc4 cc5 cc6 cc7 dd0 dd1 dd2 dd3 dd4 dd5 dd6 dd7
  have HK2 := Lib.hid (HK.out.new #[.bool r2, S k3, S f2] 26)
  obtain ⟨w10, hW⟩ : ∃ W, w9.alloc (.cells #[.bool r2, S k3, S f2] 26 (0, 0)) = W := ⟨_, rfl⟩
  rw [hW] at HK2 ⊢
  obtain ⟨R, hA⟩ : ∃ A, w9.heap.size = A := ⟨_, rfl⟩
  rw [hA] at HK2 ⊢
  clear hA hW HK
  have HK := HK2
  clear HK2
  have HF4 := Lib.hid (show ∀ W, Kq w W [(R, 26, [.bool r2, S k3, S f2]), (Q, 26, [.bool r1, S k2, S f1]), (P, 26, [.bool r1, S k2, S f1]), (B, 40, [S l0, S l1])] → W.cell? ⟨R, 0, none⟩ = some (.bool r2) ∧ W.cell? ⟨R, 1, none⟩ = some (S k3) ∧ W.cell? ⟨R, 2, none⟩ = some (S f2) ∧ W.cell? ⟨Q, 0, none⟩ = some (.bool r1) ∧ W.cell? ⟨Q, 1, none⟩ = some (S k2) ∧ W.cell? ⟨Q, 2, none⟩ = some (S f1) ∧ W.cell? ⟨P, 0, none⟩ = some (.bool r1) ∧ W.cell? ⟨P, 1, none⟩ = some (S k2) ∧ W.cell? ⟨P, 2, none⟩ = some (S f1) ∧ W.cell? ⟨B, 0, none⟩ = some (S l0) ∧ W.cell? ⟨B, 1, none⟩ = some (S l1) from fun W h => ⟨(h.row _ (.head _)).cell 0, (h.row _ (.head _)).cell 1, (h.row _ (.head _)).cell 2, (h.row _ (.tail _ (.head _))).cell 0, (h.row _ (.tail _ (.head _))).cell 1, (h.row _ (.tail _ (.head _))).cell 2, (h.row _ (.tail _ (.tail _ (.head _)))).cell 0, (h.row _ (.tail _ (.tail _ (.head _)))).cell 1, (h.row _ (.tail _ (.tail _ (.head _)))).cell 2, (h.row _ (.tail _ (.tail _ (.tail _ (.head _))))).cell 0, (h.row _ (.tail _ (.tail _ (.tail _ (.head _))))).cell 1⟩)
  obtain ⟨cc0, cc1, cc2, cc3, cc4, cc5, cc6, cc7, cc8, cc9, cc10⟩ := HF4.out _ HK.out
  refine (H5.out _).mono ?_
  rintro e w11 ⟨rfl, hC⟩
  have HK2 := Lib.hid (HK.out.on hC)
  clear cc0 cc1 cc2 cc3 cc4 cc5 cc6 cc7 cc8 cc9 cc10
  clear hC HK
  have HK := HK2
  clear HK2
  obtain ⟨cc0, cc1, cc2, cc3, cc4, cc5, cc6, cc7, cc8, cc9, cc10⟩ := HF4.out _ HK.out
  go_wp2_with fail
  refine (H6.out _).mono ?_
  rintro e w12 ⟨rfl, hC⟩
  have HK2 := Lib.hid (HK.out.on hC)
  clear cc0 cc1 cc2 cc3 cc4 cc5 cc6 cc7 cc8 cc9 cc10
  clear hC HK
  have HK := HK2
  clear HK2
  obtain ⟨cc0, cc1, cc2, cc3, cc4, cc5, cc6, cc7, cc8, cc9, cc10⟩ := HF4.out _ HK.out
  go_wp2_with fail
  refine (H7.out _).mono ?_
  rintro e w13 ⟨rfl, hC⟩
  have HK2 := Lib.hid (HK.out.on hC)
  clear cc0 cc1 cc2 cc3 cc4 cc5 cc6 cc7 cc8 cc9 cc10
  clear hC HK
  have HK := HK2
  clear HK2
  obtain ⟨cc0, cc1, cc2, cc3, cc4, cc5, cc6, cc7, cc8, cc9, cc10⟩ := HF4.out _ HK.out
  go_wp2_with fail
  refine (H4.out _).mono ?_
  rintro e w14 ⟨rfl, hC⟩
  have HK2 := Lib.hid (HK.out.on hC)
  clear cc0 cc1 cc2 cc3 cc4 cc5 cc6 cc7 cc8 cc9 cc10
  clear hC HK
  have HK := HK2
  clear HK2
  obtain ⟨cc0, cc1, cc2, cc3, cc4, cc5, cc6, cc7, cc8, cc9, cc10⟩ := HF4.out _ HK.out
  have hall := fun o : Obj => HF4.out _ (HK.out.other o)
  have dd0 : ∀ o : Obj, (w14.alloc o).cell? ⟨R, 0, none⟩ = some (.bool r2) := fun o => (hall o).1
  have dd1 : ∀ o : Obj, (w14.alloc o).cell? ⟨R, 1, none⟩ = some (S k3) := fun o => (hall o).2.1
  have dd2 : ∀ o : Obj, (w14.alloc o).cell? ⟨R, 2, none⟩ = some (S f2) := fun o => (hall o).2.2.1
  have dd3 : ∀ o : Obj, (w14.alloc o).cell? ⟨Q, 0, none⟩ = some (.bool r1) := fun o => (hall o).2.2.2.1
  have dd4 : ∀ o : Obj, (w14.alloc o).cell? ⟨Q, 1, none⟩ = some (S k2) := fun o => (hall o).2.2.2.2.1
  have dd5 : ∀ o : Obj, (w14.alloc o).cell? ⟨Q, 2, none⟩ = some (S f1) := fun o => (hall o).2.2.2.2.2.1
  have dd6 : ∀ o : Obj, (w14.alloc o).cell? ⟨P, 0, none⟩ = some (.bool r1) := fun o => (hall o).2.2.2.2.2.2.1
  have dd7 : ∀ o : Obj, (w14.alloc o).cell? ⟨P, 1, none⟩ = some (S k2) := fun o => (hall o).2.2.2.2.2.2.2.1
  have dd8 : ∀ o : Obj, (w14.alloc o).cell? ⟨P, 2, none⟩ = some (S f1) := fun o => (hall o).2.2.2.2.2.2.2.2.1
  have dd9 : ∀ o : Obj, (w14.alloc o).cell? ⟨B, 0, none⟩ = some (S l0) := fun o => (hall o).2.2.2.2.2.2.2.2.2.1
  have dd10 : ∀ o : Obj, (w14.alloc o).cell? ⟨B, 1, none⟩ = some (S l1) := fun o => (hall o).2.2.2.2.2.2.2.2.2.2
  clear hall
  go_wp2_with fail
  clear cc0 cc1 cc2 cc3 cc4 cc5 cc6 cc7 cc8 cc9 cc10 dd0 dd1 dd2 dd3 dd4 dd5 dd6 dd7 dd8 dd9 dd10
  have HK2 := Lib.hid (HK.out.new #[.bool r2, S k3, S f2] 26)
  obtain ⟨w15, hW⟩ : ∃ W, w14.alloc (.cells #[.bool r2, S k3, S f2] 26 (0, 0)) = W := ⟨_, rfl⟩
  rw [hW] at HK2 ⊢
  obtain ⟨V, hA⟩ : ∃ A, w14.heap.size = A := ⟨_, rfl⟩
  rw [hA] at HK2 ⊢
  clear hA hW HK
  have HK := HK2
  clear HK2
  have HF5 := Lib.hid (show ∀ W, Kq w W [(V, 26, [.bool r2, S k3, S f2]), (R, 26, [.bool r2, S k3, S f2]), (Q, 26, [.bool r1, S k2, S f1]), (P, 26, [.bool r1, S k2, S f1]), (B, 40, [S l0, S l1])] → W.cell? ⟨V, 0, none⟩ = some (.bool r2) ∧ W.cell? ⟨V, 1, none⟩ = some (S k3) ∧ W.cell? ⟨V, 2, none⟩ = some (S f2) ∧ W.cell? ⟨R, 0, none⟩ = some (.bool r2) ∧ W.cell? ⟨R, 1, none⟩ = some (S k3) ∧ W.cell? ⟨R, 2, none⟩ = some (S f2) ∧ W.cell? ⟨Q, 0, none⟩ = some (.bool r1) ∧ W.cell? ⟨Q, 1, none⟩ = some (S k2) ∧ W.cell? ⟨Q, 2, none⟩ = some (S f1) ∧ W.cell? ⟨P, 0, none⟩ = some (.bool r1) ∧ W.cell? ⟨P, 1, none⟩ = some (S k2) ∧ W.cell? ⟨P, 2, none⟩ = some (S f1) ∧ W.cell? ⟨B, 0, none⟩ = some (S l0) ∧ W.cell? ⟨B, 1, none⟩ = some (S l1) from fun W h => ⟨(h.row _ (.head _)).cell 0, (h.row _ (.head _)).cell 1, (h.row _ (.head _)).cell 2, (h.row _ (.tail _ (.head _))).cell 0, (h.row _ (.tail _ (.head _))).cell 1, (h.row _ (.tail _ (.head _))).cell 2, (h.row _ (.tail _ (.tail _ (.head _)))).cell 0, (h.row _ (.tail _ (.tail _ (.head _)))).cell 1, (h.row _ (.tail _ (.tail _ (.head _)))).cell 2, (h.row _ (.tail _ (.tail _ (.tail _ (.head _))))).cell 0, (h.row _ (.tail _ (.tail _ (.tail _ (.head _))))).cell 1, (h.row _ (.tail _ (.tail _ (.tail _ (.head _))))).cell 2, (h.row _ (.tail _ (.tail _ (.tail _ (.tail _ (.head _)))))).cell 0, (h.row _ (.tail _ (.tail _ (.tail _ (.tail _ (.head _)))))).cell 1⟩)
  obtain ⟨cc0, cc1, cc2, cc3, cc4, cc5, cc6, cc7, cc8, cc9, cc10, cc11, cc12, cc13⟩ := HF5.out _ HK.out
  refine (H8.out _).mono ?_
  rintro e w16 ⟨rfl, hC⟩
  have HK2 := Lib.hid (HK.out.on hC)
  clear cc0 cc1 cc2 cc3 cc4 cc5 cc6 cc7 cc8 cc9 cc10 cc11 cc12 cc13
  clear hC HK
  have HK := HK2
  clear HK2
  obtain ⟨cc0, cc1, cc2, cc3, cc4, cc5, cc6, cc7, cc8, cc9, cc10, cc11, cc12, cc13⟩ := HF5.out _ HK.out
  go_wp2_with fail
  refine (H9.out _).mono ?_
  rintro e w17 ⟨rfl, hC⟩
  have HK2 := Lib.hid (HK.out.on hC)
  clear cc0 cc1 cc2 cc3 cc4 cc5 cc6 cc7 cc8 cc9 cc10 cc11 cc12 cc13
  clear hC HK
  have HK := HK2
  clear HK2
  obtain ⟨cc0, cc1, cc2, cc3, cc4, cc5, cc6, cc7, cc8, cc9, cc10, cc11, cc12, cc13⟩ := HF5.out _ HK.out
  go_wp2_with fail
  refine (H8.out _).mono ?_
  rintro e w18 ⟨rfl, hC⟩
  have HK2 := Lib.hid (HK.out.on hC)
  clear cc0 cc1 cc2 cc3 cc4 cc5 cc6 cc7 cc8 cc9 cc10 cc11 cc12 cc13
  clear hC HK
  have HK := HK2
  clear HK2
  obtain ⟨cc0, cc1, cc2, cc3, cc4, cc5, cc6, cc7, cc8, cc9, cc10, cc11, cc12, cc13⟩ := HF5.out _ HK.out
  go_wp2_with fail
  refine (H10.out _ (HT.out.ch HK.out.ch)).mono ?_
  rintro e w19 ⟨rfl, hC⟩
  have HK2 := Lib.hid (HK.out.on hC)
  clear cc0 cc1 cc2 cc3 cc4 cc5 cc6 cc7 cc8 cc9 cc10 cc11 cc12 cc13
  clear hC HK
  have HK := HK2
  clear HK2
  obtain ⟨cc0, cc1, cc2, cc3, cc4, cc5, cc6, cc7, cc8, cc9, cc10, cc11, cc12, cc13⟩ := HF5.out _ HK.out
  go_wp2_with fail
  go_ret
  exact ⟨rfl, HK.out.ch⟩
end Go.Proofs.YtninbglhomdmjaaGreatDoor
