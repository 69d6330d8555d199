/- rounds, of layer 4's laws: the walk. -/
import Derived.Test.YtkeomlpecjjhiaaGreatDoorAz
namespace Go.Proofs.YtkeomlpecjjhiaaGreatDoor
open Go.RowKit
set_option maxRecDepth 100000 in
set_option maxHeartbeats 12800000 in
theorem rounds_walk {sa st r0 r1 r2 b0 b1 b2 b3 b4 b5 : Bool} {na da nt dt k0 f0 k1 f1 k2 f2 x : List UInt8} {c : Int}
  (hM0 : AnsM 23 #[Rv sa na da, Rv st nt dt] (.tuple #[Rv r0 k0 f0, .bool b0])) (hM1 : AnsM 24 #[Rv sa na da, Rv st nt dt] (.tuple #[Rv r1 k1 f1, .bool b1])) (hM2 : AnsM 25 #[Rv sa na da, Rv st nt dt] (.tuple #[Rv r2 k2 f2, .bool b2])) (hM3 : AnsM 29 #[Rv sa na da] (.tuple #[.int .i64 c, .bool b3])) (hM4 : AnsM 30 #[Rv sa na da] (.tuple #[S x, .bool b4])) (hM5 : AnsM 39 #[Rv sa na da] (.bool b5)) (hR0 : AnsM 46 #[Rv sa na da, Rv st nt dt] (.tuple #[Rv r0 k0 f0, .bool b0])) (hR1 : AnsM 47 #[Rv sa na da, Rv st nt dt] (.tuple #[Rv r1 k1 f1, .bool b1])) (hR2 : AnsM 48 #[Rv sa na da, Rv st nt dt] (.tuple #[Rv r2 k2 f2, .bool b2])) (hR3 : AnsM 49 #[Rv sa na da] (.tuple #[.int .i64 c, .bool b3])) (hR4 : AnsM 50 #[Rv sa na da] (.tuple #[S x, .bool b4])) (hR5 : AnsM 51 #[Rv sa na da] (.bool b5)) :
  AnsM 15 #[Rv sa na da, Rv st nt dt] (.bool true) := fun w ht => by
 have M0 := Lib.hid hM0
 have M1 := Lib.hid hM1
 have M2 := Lib.hid hM2
 have M3 := Lib.hid hM3
 have M4 := Lib.hid hM4
 have M5 := Lib.hid hM5
 have R0 := Lib.hid hR0
 have R1 := Lib.hid hR1
 have R2 := Lib.hid hR2
 have R3 := Lib.hid hR3
 have R4 := Lib.hid hR4
 have R5 := Lib.hid hR5
 have HT := Lib.hid ht
 clear ht hM0 hM1 hM2 hM3 hM4 hM5 hR0 hR1 hR2 hR3 hR4 hR5
 have HK := Lib.hid (((Kq.nil w).new #[.bool sa, S na, S da] 26).new #[.bool st, S nt, S dt] 26)
 rw [World.size_alloc] at HK
 obtain ⟨B, hB⟩ : ∃ B, w.heap.size = B := ⟨_, rfl⟩
 rw [hB] at HK
 have HF1 := Lib.hid (show ∀ W, Kq w W [(B + 1, 26, [.bool st, S nt, S dt]), (B, 26, [.bool sa, S na, S da])] → W.cell? ⟨B + 1, 0, none⟩ = some (.bool st) ∧ W.cell? ⟨B + 1, 1, none⟩ = some (S nt) ∧ W.cell? ⟨B + 1, 2, none⟩ = some (S dt) ∧ W.cell? ⟨B, 0, none⟩ = some (.bool sa) ∧ W.cell? ⟨B, 1, none⟩ = some (S na) ∧ W.cell? ⟨B, 2, none⟩ = some (S da) from fun W h => ⟨(h.row _ mm0).cell 0, (h.row _ mm0).cell 1, (h.row _ mm0).cell 2, (h.row _ mm1).cell 0, (h.row _ mm1).cell 1, (h.row _ mm1).cell 2⟩)
 obtain ⟨cc0, cc1, cc2, cc3, cc4, cc5⟩ := HF1.out _ HK.out
 go_enter Tryz.func15, Tryz.ntmps15
 go_wp2_with fail
 clear hB
 refine (M0.out _ (HT.out.ch HK.out.ch)).mono ?_
 rintro e w1 ⟨rfl, hC⟩
 replace HK := Lib.hid (HK.out.on hC)
 clear hC cc0 cc1 cc2 cc3 cc4 cc5
 obtain ⟨cc0, cc1, cc2, cc3, cc4, cc5⟩ := HF1.out _ HK.out
 obtain ⟨dd0, dd1, dd2, dd3, dd4, dd5⟩ : (∀ o : Obj, (w1.alloc o).cell? ⟨B + 1, 0, none⟩ = some (.bool st)) ∧ (∀ o : Obj, (w1.alloc o).cell? ⟨B + 1, 1, none⟩ = some (S nt)) ∧ (∀ o : Obj, (w1.alloc o).cell? ⟨B + 1, 2, none⟩ = some (S dt)) ∧ (∀ o : Obj, (w1.alloc o).cell? ⟨B, 0, none⟩ = some (.bool sa)) ∧ (∀ o : Obj, (w1.alloc o).cell? ⟨B, 1, none⟩ = some (S na)) ∧ (∀ o : Obj, (w1.alloc o).cell? ⟨B, 2, none⟩ = some (S da)) := by
  have hall := fun o : Obj => HF1.out _ (HK.out.other o)
  exact ⟨fun o => (hall o).1, fun o => (hall o).2.1, fun o => (hall o).2.2.1, fun o => (hall o).2.2.2.1, fun o => (hall o).2.2.2.2.1, fun o => (hall o).2.2.2.2.2⟩
 go_wp2_with fail
 clear cc0 cc1 cc2 cc3 cc4 cc5 dd0 dd1 dd2 dd3 dd4 dd5
 have HK2 := Lib.hid (HK.out.new #[.bool r0, S k0, S f0] 26)
 obtain ⟨w2, hW⟩ : ∃ W, w1.alloc (.cells #[.bool r0, S k0, S f0] 26 (0, 0)) = W := ⟨_, rfl⟩
 rw [hW] at HK2 ⊢
 obtain ⟨Mb0, hA⟩ : ∃ A, w1.heap.size = A := ⟨_, rfl⟩
 rw [hA] at HK2 ⊢
 clear hA hW HK
 have HK := HK2
 clear HK2
 have HF2 := Lib.hid (show ∀ W, Kq w W [(Mb0, 26, [.bool r0, S k0, S f0]), (B + 1, 26, [.bool st, S nt, S dt]), (B, 26, [.bool sa, S na, S da])] → W.cell? ⟨Mb0, 0, none⟩ = some (.bool r0) ∧ W.cell? ⟨Mb0, 1, none⟩ = some (S k0) ∧ W.cell? ⟨Mb0, 2, none⟩ = some (S f0) ∧ W.cell? ⟨B + 1, 0, none⟩ = some (.bool st) ∧ W.cell? ⟨B + 1, 1, none⟩ = some (S nt) ∧ W.cell? ⟨B + 1, 2, none⟩ = some (S dt) ∧ W.cell? ⟨B, 0, none⟩ = some (.bool sa) ∧ W.cell? ⟨B, 1, none⟩ = some (S na) ∧ W.cell? ⟨B, 2, none⟩ = some (S da) from fun W h => ⟨(h.row _ mm0).cell 0, (h.row _ mm0).cell 1, (h.row _ mm0).cell 2, (h.row _ mm1).cell 0, (h.row _ mm1).cell 1, (h.row _ mm1).cell 2, (h.row _ mm2).cell 0, (h.row _ mm2).cell 1, (h.row _ mm2).cell 2⟩)
 obtain ⟨cc0, cc1, cc2, cc3, cc4, cc5, cc6, cc7, cc8⟩ := HF2.out _ HK.out
 refine (M1.out _ (HT.out.ch HK.out.ch)).mono ?_
 rintro e w3 ⟨rfl, hC⟩
 replace HK := Lib.hid (HK.out.on hC)
 clear hC cc0 cc1 cc2 cc3 cc4 cc5 cc6 cc7 cc8
 obtain ⟨cc0, cc1, cc2, cc3, cc4, cc5, cc6, cc7, cc8⟩ := HF2.out _ HK.out
 obtain ⟨dd0, dd1, dd2, dd3, dd4, dd5, dd6, dd7, dd8⟩ : (∀ o : Obj, (w3.alloc o).cell? ⟨Mb0, 0, none⟩ = some (.bool r0)) ∧ (∀ o : Obj, (w3.alloc o).cell? ⟨Mb0, 1, none⟩ = some (S k0)) ∧ (∀ o : Obj, (w3.alloc o).cell? ⟨Mb0, 2, none⟩ = some (S f0)) ∧ (∀ o : Obj, (w3.alloc o).cell? ⟨B + 1, 0, none⟩ = some (.bool st)) ∧ (∀ o : Obj, (w3.alloc o).cell? ⟨B + 1, 1, none⟩ = some (S nt)) ∧ (∀ o : Obj, (w3.alloc o).cell? ⟨B + 1, 2, none⟩ = some (S dt)) ∧ (∀ o : Obj, (w3.alloc o).cell? ⟨B, 0, none⟩ = some (.bool sa)) ∧ (∀ o : Obj, (w3.alloc o).cell? ⟨B, 1, none⟩ = some (S na)) ∧ (∀ o : Obj, (w3.alloc o).cell? ⟨B, 2, none⟩ = some (S da)) := by
  have hall := fun o : Obj => HF2.out _ (HK.out.other o)
  exact ⟨fun o => (hall o).1, fun o => (hall o).2.1, fun o => (hall o).2.2.1, fun o => (hall o).2.2.2.1, fun o => (hall o).2.2.2.2.1, fun o => (hall o).2.2.2.2.2.1, fun o => (hall o).2.2.2.2.2.2.1, fun o => (hall o).2.2.2.2.2.2.2.1, fun o => (hall o).2.2.2.2.2.2.2.2⟩
 go_wp2_with fail
 clear cc0 cc1 cc2 cc3 cc4 cc5 cc6 cc7 cc8 dd0 dd1 dd2 dd3 dd4 dd5 dd6 dd7 dd8
 have HK2 := Lib.hid (HK.out.new #[.bool r1, S k1, S f1] 26)
 obtain ⟨w4, hW⟩ : ∃ W, w3.alloc (.cells #[.bool r1, S k1, S f1] 26 (0, 0)) = W := ⟨_, rfl⟩
 rw [hW] at HK2 ⊢
 obtain ⟨Mb1, hA⟩ : ∃ A, w3.heap.size = A := ⟨_, rfl⟩
 rw [hA] at HK2 ⊢
 clear hA hW HK
 have HK := HK2
 clear HK2
 have HF3 := Lib.hid (show ∀ W, Kq w W [(Mb1, 26, [.bool r1, S k1, S f1]), (Mb0, 26, [.bool r0, S k0, S f0]), (B + 1, 26, [.bool st, S nt, S dt]), (B, 26, [.bool sa, S na, S da])] → W.cell? ⟨Mb1, 0, none⟩ = some (.bool r1) ∧ W.cell? ⟨Mb1, 1, none⟩ = some (S k1) ∧ W.cell? ⟨Mb1, 2, none⟩ = some (S f1) ∧ W.cell? ⟨Mb0, 0, none⟩ = some (.bool r0) ∧ W.cell? ⟨Mb0, 1, none⟩ = some (S k0) ∧ W.cell? ⟨Mb0, 2, none⟩ = some (S f0) ∧ W.cell? ⟨B + 1, 0, none⟩ = some (.bool st) ∧ W.cell? ⟨B + 1, 1, none⟩ = some (S nt) ∧ W.cell? ⟨B + 1, 2, none⟩ = some (S dt) ∧ W.cell? ⟨B, 0, none⟩ = some (.bool sa) ∧ W.cell? ⟨B, 1, none⟩ = some (S na) ∧ W.cell? ⟨B, 2, none⟩ = some (S da) from fun W h => ⟨(h.row _ mm0).cell 0, (h.row _ mm0).cell 1, (h.row _ mm0).cell 2, (h.row _ mm1).cell 0, (h.row _ mm1).cell 1, (h.row _ mm1).cell 2, (h.row _ mm2).cell 0, (h.row _ mm2).cell 1, (h.row _ mm2).cell 2, (h.row _ mm3).cell 0, (h.row _ mm3).cell 1, (h.row _ mm3).cell 2⟩)
 obtain ⟨cc0, cc1, cc2, cc3, cc4, cc5, cc6, cc7, cc8, cc9, cc10, cc11⟩ := HF3.out _ HK.out
 refine (M2.out _ (HT.out.ch HK.out.ch)).mono ?_
 rintro e w5 ⟨rfl, hC⟩
 replace HK := Lib.hid (HK.out.on hC)
 clear hC cc0 cc1 cc2 cc3 cc4 cc5 cc6 cc7 cc8 cc9 cc10 cc11
 obtain ⟨cc0, cc1, cc2, cc3, cc4, cc5, cc6, cc7, cc8, cc9, cc10, cc11⟩ := HF3.out _ HK.out
 obtain ⟨dd0, dd1, dd2, dd3, dd4, dd5, dd6, dd7, dd8, dd9, dd10, dd11⟩ : (∀ o : Obj, (w5.alloc o).cell? ⟨Mb1, 0, none⟩ = some (.bool r1)) ∧ (∀ o : Obj, (w5.alloc o).cell? ⟨Mb1, 1, none⟩ = some (S k1)) ∧ (∀ o : Obj, (w5.alloc o).cell? ⟨Mb1, 2, none⟩ = some (S f1)) ∧ (∀ o : Obj, (w5.alloc o).cell? ⟨Mb0, 0, none⟩ = some (.bool r0)) ∧ (∀ o : Obj, (w5.alloc o).cell? ⟨Mb0, 1, none⟩ = some (S k0)) ∧ (∀ o : Obj, (w5.alloc o).cell? ⟨Mb0, 2, none⟩ = some (S f0)) ∧ (∀ o : Obj, (w5.alloc o).cell? ⟨B + 1, 0, none⟩ = some (.bool st)) ∧ (∀ o : Obj, (w5.alloc o).cell? ⟨B + 1, 1, none⟩ = some (S nt)) ∧ (∀ o : Obj, (w5.alloc o).cell? ⟨B + 1, 2, none⟩ = some (S dt)) ∧ (∀ o : Obj, (w5.alloc o).cell? ⟨B, 0, none⟩ = some (.bool sa)) ∧ (∀ o : Obj, (w5.alloc o).cell? ⟨B, 1, none⟩ = some (S na)) ∧ (∀ o : Obj, (w5.alloc o).cell? ⟨B, 2, none⟩ = some (S da)) := by
  have hall := fun o : Obj => HF3.out _ (HK.out.other o)
  exact ⟨fun o => (hall o).1, fun o => (hall o).2.1, fun o => (hall o).2.2.1, fun o => (hall o).2.2.2.1, fun o => (hall o).2.2.2.2.1, fun o => (hall o).2.2.2.2.2.1, fun o => (hall o).2.2.2.2.2.2.1, fun o => (hall o).2.2.2.2.2.2.2.1, fun o => (hall o).2.2.2.2.2.2.2.2.1, fun o => (hall o).2.2.2.2.2.2.2.2.2.1, fun o => (hall o).2.2.2.2.2.2.2.2.2.2.1, fun o => (hall o).2.2.2.2.2.2.2.2.2.2.2⟩
 go_wp2_with fail
 clear cc0 cc1 cc2 cc3 cc4 cc5 cc6 cc7 cc8 cc9 cc10 cc11 dd0 dd1 dd2 dd3 dd4 dd5 dd6 dd7 dd8 dd9 dd10 dd11
 have HK2 := Lib.hid (HK.out.new #[.bool r2, S k2, S f2] 26)
 obtain ⟨w6, hW⟩ : ∃ W, w5.alloc (.cells #[.bool r2, S k2, S f2] 26 (0, 0)) = W := ⟨_, rfl⟩
 rw [hW] at HK2 ⊢
 obtain ⟨Mb2, hA⟩ : ∃ A, w5.heap.size = A := ⟨_, rfl⟩
 rw [hA] at HK2 ⊢
 clear hA hW HK
 have HK := HK2
 clear HK2
 have HF4 := Lib.hid (show ∀ W, Kq w W [(Mb2, 26, [.bool r2, S k2, S f2]), (Mb1, 26, [.bool r1, S k1, S f1]), (Mb0, 26, [.bool r0, S k0, S f0]), (B + 1, 26, [.bool st, S nt, S dt]), (B, 26, [.bool sa, S na, S da])] → W.cell? ⟨Mb2, 0, none⟩ = some (.bool r2) ∧ W.cell? ⟨Mb2, 1, none⟩ = some (S k2) ∧ W.cell? ⟨Mb2, 2, none⟩ = some (S f2) ∧ W.cell? ⟨Mb1, 0, none⟩ = some (.bool r1) ∧ W.cell? ⟨Mb1, 1, none⟩ = some (S k1) ∧ W.cell? ⟨Mb1, 2, none⟩ = some (S f1) ∧ W.cell? ⟨Mb0, 0, none⟩ = some (.bool r0) ∧ W.cell? ⟨Mb0, 1, none⟩ = some (S k0) ∧ W.cell? ⟨Mb0, 2, none⟩ = some (S f0) ∧ W.cell? ⟨B + 1, 0, none⟩ = some (.bool st) ∧ W.cell? ⟨B + 1, 1, none⟩ = some (S nt) ∧ W.cell? ⟨B + 1, 2, none⟩ = some (S dt) ∧ W.cell? ⟨B, 0, none⟩ = some (.bool sa) ∧ W.cell? ⟨B, 1, none⟩ = some (S na) ∧ W.cell? ⟨B, 2, none⟩ = some (S da) from fun W h => ⟨(h.row _ mm0).cell 0, (h.row _ mm0).cell 1, (h.row _ mm0).cell 2, (h.row _ mm1).cell 0, (h.row _ mm1).cell 1, (h.row _ mm1).cell 2, (h.row _ mm2).cell 0, (h.row _ mm2).cell 1, (h.row _ mm2).cell 2, (h.row _ mm3).cell 0, (h.row _ mm3).cell 1, (h.row _ mm3).cell 2, (h.row _ mm4).cell 0, (h.row _ mm4).cell 1, (h.row _ mm4).cell 2⟩)
 obtain ⟨cc0, cc1, cc2, cc3, cc4, cc5, cc6, cc7, cc8, cc9, cc10, cc11, cc12, cc13, cc14⟩ := HF4.out _ HK.out
 refine (M3.out _ (HT.out.ch HK.out.ch)).mono ?_
 rintro e w7 ⟨rfl, hC⟩
 replace HK := Lib.hid (HK.out.on hC)
 clear hC cc0 cc1 cc2 cc3 cc4 cc5 cc6 cc7 cc8 cc9 cc10 cc11 cc12 cc13 cc14
 obtain ⟨cc0, cc1, cc2, cc3, cc4, cc5, cc6, cc7, cc8, cc9, cc10, cc11, cc12, cc13, cc14⟩ := HF4.out _ HK.out
 go_wp2_with fail
 refine (M4.out _ (HT.out.ch HK.out.ch)).mono ?_
 rintro e w8 ⟨rfl, hC⟩
 replace HK := Lib.hid (HK.out.on hC)
 clear hC cc0 cc1 cc2 cc3 cc4 cc5 cc6 cc7 cc8 cc9 cc10 cc11 cc12 cc13 cc14
 obtain ⟨cc0, cc1, cc2, cc3, cc4, cc5, cc6, cc7, cc8, cc9, cc10, cc11, cc12, cc13, cc14⟩ := HF4.out _ HK.out
 go_wp2_with fail
 refine (R0.out _ (HT.out.ch HK.out.ch)).mono ?_
 rintro e w9 ⟨rfl, hC⟩
 replace HK := Lib.hid (HK.out.on hC)
 clear hC cc0 cc1 cc2 cc3 cc4 cc5 cc6 cc7 cc8 cc9 cc10 cc11 cc12 cc13 cc14
 obtain ⟨cc0, cc1, cc2, cc3, cc4, cc5, cc6, cc7, cc8, cc9, cc10, cc11, cc12, cc13, cc14⟩ := HF4.out _ HK.out
 obtain ⟨dd0, dd1, dd2, dd3, dd4, dd5, dd6, dd7, dd8, dd9, dd10, dd11, dd12, dd13, dd14⟩ : (∀ o : Obj, (w9.alloc o).cell? ⟨Mb2, 0, none⟩ = some (.bool r2)) ∧ (∀ o : Obj, (w9.alloc o).cell? ⟨Mb2, 1, none⟩ = some (S k2)) ∧ (∀ o : Obj, (w9.alloc o).cell? ⟨Mb2, 2, none⟩ = some (S f2)) ∧ (∀ o : Obj, (w9.alloc o).cell? ⟨Mb1, 0, none⟩ = some (.bool r1)) ∧ (∀ o : Obj, (w9.alloc o).cell? ⟨Mb1, 1, none⟩ = some (S k1)) ∧ (∀ o : Obj, (w9.alloc o).cell? ⟨Mb1, 2, none⟩ = some (S f1)) ∧ (∀ o : Obj, (w9.alloc o).cell? ⟨Mb0, 0, none⟩ = some (.bool r0)) ∧ (∀ o : Obj, (w9.alloc o).cell? ⟨Mb0, 1, none⟩ = some (S k0)) ∧ (∀ o : Obj, (w9.alloc o).cell? ⟨Mb0, 2, none⟩ = some (S f0)) ∧ (∀ o : Obj, (w9.alloc o).cell? ⟨B + 1, 0, none⟩ = some (.bool st)) ∧ (∀ o : Obj, (w9.alloc o).cell? ⟨B + 1, 1, none⟩ = some (S nt)) ∧ (∀ o : Obj, (w9.alloc o).cell? ⟨B + 1, 2, none⟩ = some (S dt)) ∧ (∀ o : Obj, (w9.alloc o).cell? ⟨B, 0, none⟩ = some (.bool sa)) ∧ (∀ o : Obj, (w9.alloc o).cell? ⟨B, 1, none⟩ = some (S na)) ∧ (∀ o : Obj, (w9.alloc o).cell? ⟨B, 2, none⟩ = some (S da)) := by
  have hall := fun o : Obj => HF4.out _ (HK.out.other o)
  exact ⟨fun o => (hall o).1, fun o => (hall o).2.1, fun o => (hall o).2.2.1, fun o => (hall o).2.2.2.1, fun o => (hall o).2.2.2.2.1, fun o => (hall o).2.2.2.2.2.1, fun o => (hall o).2.2.2.2.2.2.1, fun o => (hall o).2.2.2.2.2.2.2.1, fun o => (hall o).2.2.2.2.2.2.2.2.1, fun o => (hall o).2.2.2.2.2.2.2.2.2.1, fun o => (hall o).2.2.2.2.2.2.2.2.2.2.1, fun o => (hall o).2.2.2.2.2.2.2.2.2.2.2.1, fun o => (hall o).2.2.2.2.2.2.2.2.2.2.2.2.1, fun o => (hall o).2.2.2.2.2.2.2.2.2.2.2.2.2.1, fun o => (hall o).2.2.2.2.2.2.2.2.2.2.2.2.2.2⟩
 go_wp2_with fail
 clear cc0 cc1 cc2 cc3 cc4 cc5 cc6 cc7 cc8 cc9 cc10 cc11 cc12 cc13 cc14 dd0 dd1 dd2 dd3 dd4 dd5 dd6 dd7 dd8 dd9 dd10 dd11 dd12 dd13 dd14
 have HK2 := Lib.hid (HK.out.new #[.bool r0, S k0, S f0] 26)
 obtain ⟨w10, hW⟩ : ∃ W, w9.alloc (.cells #[.bool r0, S k0, S f0] 26 (0, 0)) = W := ⟨_, rfl⟩
 rw [hW] at HK2 ⊢
 obtain ⟨Rb0, hA⟩ : ∃ A, w9.heap.size = A := ⟨_, rfl⟩
 rw [hA] at HK2 ⊢
 clear hA hW HK
 have HK := HK2
 clear HK2
 have HF5 := Lib.hid (show ∀ W, Kq w W [(Rb0, 26, [.bool r0, S k0, S f0]), (Mb2, 26, [.bool r2, S k2, S f2]), (Mb1, 26, [.bool r1, S k1, S f1]), (Mb0, 26, [.bool r0, S k0, S f0]), (B + 1, 26, [.bool st, S nt, S dt]), (B, 26, [.bool sa, S na, S da])] → W.cell? ⟨Rb0, 0, none⟩ = some (.bool r0) ∧ W.cell? ⟨Rb0, 1, none⟩ = some (S k0) ∧ W.cell? ⟨Rb0, 2, none⟩ = some (S f0) ∧ W.cell? ⟨Mb2, 0, none⟩ = some (.bool r2) ∧ W.cell? ⟨Mb2, 1, none⟩ = some (S k2) ∧ W.cell? ⟨Mb2, 2, none⟩ = some (S f2) ∧ W.cell? ⟨Mb1, 0, none⟩ = some (.bool r1) ∧ W.cell? ⟨Mb1, 1, none⟩ = some (S k1) ∧ W.cell? ⟨Mb1, 2, none⟩ = some (S f1) ∧ W.cell? ⟨Mb0, 0, none⟩ = some (.bool r0) ∧ W.cell? ⟨Mb0, 1, none⟩ = some (S k0) ∧ W.cell? ⟨Mb0, 2, none⟩ = some (S f0) ∧ W.cell? ⟨B + 1, 0, none⟩ = some (.bool st) ∧ W.cell? ⟨B + 1, 1, none⟩ = some (S nt) ∧ W.cell? ⟨B + 1, 2, none⟩ = some (S dt) ∧ W.cell? ⟨B, 0, none⟩ = some (.bool sa) ∧ W.cell? ⟨B, 1, none⟩ = some (S na) ∧ W.cell? ⟨B, 2, none⟩ = some (S da) from fun W h => ⟨(h.row _ mm0).cell 0, (h.row _ mm0).cell 1, (h.row _ mm0).cell 2, (h.row _ mm1).cell 0, (h.row _ mm1).cell 1, (h.row _ mm1).cell 2, (h.row _ mm2).cell 0, (h.row _ mm2).cell 1, (h.row _ mm2).cell 2, (h.row _ mm3).cell 0, (h.row _ mm3).cell 1, (h.row _ mm3).cell 2, (h.row _ mm4).cell 0, (h.row _ mm4).cell 1, (h.row _ mm4).cell 2, (h.row _ mm5).cell 0, (h.row _ mm5).cell 1, (h.row _ mm5).cell 2⟩)
 obtain ⟨cc0, cc1, cc2, cc3, cc4, cc5, cc6, cc7, cc8, cc9, cc10, cc11, cc12, cc13, cc14, cc15, cc16, cc17⟩ := HF5.out _ HK.out
 refine (R1.out _ (HT.out.ch HK.out.ch)).mono ?_
 rintro e w11 ⟨rfl, hC⟩
 replace HK := Lib.hid (HK.out.on hC)
 clear hC cc0 cc1 cc2 cc3 cc4 cc5 cc6 cc7 cc8 cc9 cc10 cc11 cc12 cc13 cc14 cc15 cc16 cc17
 obtain ⟨cc0, cc1, cc2, cc3, cc4, cc5, cc6, cc7, cc8, cc9, cc10, cc11, cc12, cc13, cc14, cc15, cc16, cc17⟩ := HF5.out _ HK.out
 obtain ⟨dd0, dd1, dd2, dd3, dd4, dd5, dd6, dd7, dd8, dd9, dd10, dd11, dd12, dd13, dd14, dd15, dd16, dd17⟩ : (∀ o : Obj, (w11.alloc o).cell? ⟨Rb0, 0, none⟩ = some (.bool r0)) ∧ (∀ o : Obj, (w11.alloc o).cell? ⟨Rb0, 1, none⟩ = some (S k0)) ∧ (∀ o : Obj, (w11.alloc o).cell? ⟨Rb0, 2, none⟩ = some (S f0)) ∧ (∀ o : Obj, (w11.alloc o).cell? ⟨Mb2, 0, none⟩ = some (.bool r2)) ∧ (∀ o : Obj, (w11.alloc o).cell? ⟨Mb2, 1, none⟩ = some (S k2)) ∧ (∀ o : Obj, (w11.alloc o).cell? ⟨Mb2, 2, none⟩ = some (S f2)) ∧ (∀ o : Obj, (w11.alloc o).cell? ⟨Mb1, 0, none⟩ = some (.bool r1)) ∧ (∀ o : Obj, (w11.alloc o).cell? ⟨Mb1, 1, none⟩ = some (S k1)) ∧ (∀ o : Obj, (w11.alloc o).cell? ⟨Mb1, 2, none⟩ = some (S f1)) ∧ (∀ o : Obj, (w11.alloc o).cell? ⟨Mb0, 0, none⟩ = some (.bool r0)) ∧ (∀ o : Obj, (w11.alloc o).cell? ⟨Mb0, 1, none⟩ = some (S k0)) ∧ (∀ o : Obj, (w11.alloc o).cell? ⟨Mb0, 2, none⟩ = some (S f0)) ∧ (∀ o : Obj, (w11.alloc o).cell? ⟨B + 1, 0, none⟩ = some (.bool st)) ∧ (∀ o : Obj, (w11.alloc o).cell? ⟨B + 1, 1, none⟩ = some (S nt)) ∧ (∀ o : Obj, (w11.alloc o).cell? ⟨B + 1, 2, none⟩ = some (S dt)) ∧ (∀ o : Obj, (w11.alloc o).cell? ⟨B, 0, none⟩ = some (.bool sa)) ∧ (∀ o : Obj, (w11.alloc o).cell? ⟨B, 1, none⟩ = some (S na)) ∧ (∀ o : Obj, (w11.alloc o).cell? ⟨B, 2, none⟩ = some (S da)) := by
  have hall := fun o : Obj => HF5.out _ (HK.out.other o)
  exact ⟨fun o => (hall o).1, fun o => (hall o).2.1, fun o => (hall o).2.2.1, fun o => (hall o).2.2.2.1, fun o => (hall o).2.2.2.2.1, fun o => (hall o).2.2.2.2.2.1, fun o => (hall o).2.2.2.2.2.2.1, fun o => (hall o).2.2.2.2.2.2.2.1, fun o => (hall o).2.2.2.2.2.2.2.2.1, fun o => (hall o).2.2.2.2.2.2.2.2.2.1, fun o => (hall o).2.2.2.2.2.2.2.2.2.2.1, fun o => (hall o).2.2.2.2.2.2.2.2.2.2.2.1, fun o => (hall o).2.2.2.2.2.2.2.2.2.2.2.2.1, fun o => (hall o).2.2.2.2.2.2.2.2.2.2.2.2.2.1, fun o => (hall o).2.2.2.2.2.2.2.2.2.2.2.2.2.2.1, fun o => (hall o).2.2.2.2.2.2.2.2.2.2.2.2.2.2.2.1, fun o => (hall o).2.2.2.2.2.2.2.2.2.2.2.2.2.2.2.2.1, fun o => (hall o).2.2.2.2.2.2.2.2.2.2.2.2.2.2.2.2.2⟩
 go_wp2_with fail
 clear cc0 cc1 cc2 cc3 cc4 cc5 cc6 cc7 cc8 cc9 cc10 cc11 cc12 cc13 cc14 cc15 cc16 cc17 dd0 dd1 dd2 dd3 dd4 dd5 dd6 dd7 dd8 dd9 dd10 dd11 dd12 dd13 dd14 dd15 dd16 dd17
 have HK2 := Lib.hid (HK.out.new #[.bool r1, S k1, S f1] 26)
 obtain ⟨w12, hW⟩ : ∃ W, w11.alloc (.cells #[.bool r1, S k1, S f1] 26 (0, 0)) = W := ⟨_, rfl⟩
 rw [hW] at HK2 ⊢
 obtain ⟨Rb1, hA⟩ : ∃ A, w11.heap.size = A := ⟨_, rfl⟩
 rw [hA] at HK2 ⊢
 clear hA hW HK
 have HK := HK2
 clear HK2
 have HF6 := Lib.hid (show ∀ W, Kq w W [(Rb1, 26, [.bool r1, S k1, S f1]), (Rb0, 26, [.bool r0, S k0, S f0]), (Mb2, 26, [.bool r2, S k2, S f2]), (Mb1, 26, [.bool r1, S k1, S f1]), (Mb0, 26, [.bool r0, S k0, S f0]), (B + 1, 26, [.bool st, S nt, S dt]), (B, 26, [.bool sa, S na, S da])] → W.cell? ⟨Rb1, 0, none⟩ = some (.bool r1) ∧ W.cell? ⟨Rb1, 1, none⟩ = some (S k1) ∧ W.cell? ⟨Rb1, 2, none⟩ = some (S f1) ∧ W.cell? ⟨Rb0, 0, none⟩ = some (.bool r0) ∧ W.cell? ⟨Rb0, 1, none⟩ = some (S k0) ∧ W.cell? ⟨Rb0, 2, none⟩ = some (S f0) ∧ W.cell? ⟨Mb2, 0, none⟩ = some (.bool r2) ∧ W.cell? ⟨Mb2, 1, none⟩ = some (S k2) ∧ W.cell? ⟨Mb2, 2, none⟩ = some (S f2) ∧ W.cell? ⟨Mb1, 0, none⟩ = some (.bool r1) ∧ W.cell? ⟨Mb1, 1, none⟩ = some (S k1) ∧ W.cell? ⟨Mb1, 2, none⟩ = some (S f1) ∧ W.cell? ⟨Mb0, 0, none⟩ = some (.bool r0) ∧ W.cell? ⟨Mb0, 1, none⟩ = some (S k0) ∧ W.cell? ⟨Mb0, 2, none⟩ = some (S f0) ∧ W.cell? ⟨B + 1, 0, none⟩ = some (.bool st) ∧ W.cell? ⟨B + 1, 1, none⟩ = some (S nt) ∧ W.cell? ⟨B + 1, 2, none⟩ = some (S dt) ∧ W.cell? ⟨B, 0, none⟩ = some (.bool sa) ∧ W.cell? ⟨B, 1, none⟩ = some (S na) ∧ W.cell? ⟨B, 2, none⟩ = some (S da) from fun W h => ⟨(h.row _ mm0).cell 0, (h.row _ mm0).cell 1, (h.row _ mm0).cell 2, (h.row _ mm1).cell 0, (h.row _ mm1).cell 1, (h.row _ mm1).cell 2, (h.row _ mm2).cell 0, (h.row _ mm2).cell 1, (h.row _ mm2).cell 2, (h.row _ mm3).cell 0, (h.row _ mm3).cell 1, (h.row _ mm3).cell 2, (h.row _ mm4).cell 0, (h.row _ mm4).cell 1, (h.row _ mm4).cell 2, (h.row _ mm5).cell 0, (h.row _ mm5).cell 1, (h.row _ mm5).cell 2, (h.row _ mm6).cell 0, (h.row _ mm6).cell 1, (h.row _ mm6).cell 2⟩)
 obtain ⟨cc0, cc1, cc2, cc3, cc4, cc5, cc6, cc7, cc8, cc9, cc10, cc11, cc12, cc13, cc14, cc15, cc16, cc17, cc18, cc19, cc20⟩ := HF6.out _ HK.out
 refine (R2.out _ (HT.out.ch HK.out.ch)).mono ?_
 rintro e w13 ⟨rfl, hC⟩
 replace HK := Lib.hid (HK.out.on hC)
 clear hC cc0 cc1 cc2 cc3 cc4 cc5 cc6 cc7 cc8 cc9 cc10 cc11 cc12 cc13 cc14 cc15 cc16 cc17 cc18 cc19 cc20
 obtain ⟨cc0, cc1, cc2, cc3, cc4, cc5, cc6, cc7, cc8, cc9, cc10, cc11, cc12, cc13, cc14, cc15, cc16, cc17, cc18, cc19, cc20⟩ := HF6.out _ HK.out
 obtain ⟨dd0, dd1, dd2, dd3, dd4, dd5, dd6, dd7, dd8, dd9, dd10, dd11, dd12, dd13, dd14, dd15, dd16, dd17, dd18, dd19, dd20⟩ : (∀ o : Obj, (w13.alloc o).cell? ⟨Rb1, 0, none⟩ = some (.bool r1)) ∧ (∀ o : Obj, (w13.alloc o).cell? ⟨Rb1, 1, none⟩ = some (S k1)) ∧ (∀ o : Obj, (w13.alloc o).cell? ⟨Rb1, 2, none⟩ = some (S f1)) ∧ (∀ o : Obj, (w13.alloc o).cell? ⟨Rb0, 0, none⟩ = some (.bool r0)) ∧ (∀ o : Obj, (w13.alloc o).cell? ⟨Rb0, 1, none⟩ = some (S k0)) ∧ (∀ o : Obj, (w13.alloc o).cell? ⟨Rb0, 2, none⟩ = some (S f0)) ∧ (∀ o : Obj, (w13.alloc o).cell? ⟨Mb2, 0, none⟩ = some (.bool r2)) ∧ (∀ o : Obj, (w13.alloc o).cell? ⟨Mb2, 1, none⟩ = some (S k2)) ∧ (∀ o : Obj, (w13.alloc o).cell? ⟨Mb2, 2, none⟩ = some (S f2)) ∧ (∀ o : Obj, (w13.alloc o).cell? ⟨Mb1, 0, none⟩ = some (.bool r1)) ∧ (∀ o : Obj, (w13.alloc o).cell? ⟨Mb1, 1, none⟩ = some (S k1)) ∧ (∀ o : Obj, (w13.alloc o).cell? ⟨Mb1, 2, none⟩ = some (S f1)) ∧ (∀ o : Obj, (w13.alloc o).cell? ⟨Mb0, 0, none⟩ = some (.bool r0)) ∧ (∀ o : Obj, (w13.alloc o).cell? ⟨Mb0, 1, none⟩ = some (S k0)) ∧ (∀ o : Obj, (w13.alloc o).cell? ⟨Mb0, 2, none⟩ = some (S f0)) ∧ (∀ o : Obj, (w13.alloc o).cell? ⟨B + 1, 0, none⟩ = some (.bool st)) ∧ (∀ o : Obj, (w13.alloc o).cell? ⟨B + 1, 1, none⟩ = some (S nt)) ∧ (∀ o : Obj, (w13.alloc o).cell? ⟨B + 1, 2, none⟩ = some (S dt)) ∧ (∀ o : Obj, (w13.alloc o).cell? ⟨B, 0, none⟩ = some (.bool sa)) ∧ (∀ o : Obj, (w13.alloc o).cell? ⟨B, 1, none⟩ = some (S na)) ∧ (∀ o : Obj, (w13.alloc o).cell? ⟨B, 2, none⟩ = some (S da)) := by
  have hall := fun o : Obj => HF6.out _ (HK.out.other o)
  exact ⟨fun o => (hall o).1, fun o => (hall o).2.1, fun o => (hall o).2.2.1, fun o => (hall o).2.2.2.1, fun o => (hall o).2.2.2.2.1, fun o => (hall o).2.2.2.2.2.1, fun o => (hall o).2.2.2.2.2.2.1, fun o => (hall o).2.2.2.2.2.2.2.1, fun o => (hall o).2.2.2.2.2.2.2.2.1, fun o => (hall o).2.2.2.2.2.2.2.2.2.1, fun o => (hall o).2.2.2.2.2.2.2.2.2.2.1, fun o => (hall o).2.2.2.2.2.2.2.2.2.2.2.1, fun o => (hall o).2.2.2.2.2.2.2.2.2.2.2.2.1, fun o => (hall o).2.2.2.2.2.2.2.2.2.2.2.2.2.1, fun o => (hall o).2.2.2.2.2.2.2.2.2.2.2.2.2.2.1, fun o => (hall o).2.2.2.2.2.2.2.2.2.2.2.2.2.2.2.1, fun o => (hall o).2.2.2.2.2.2.2.2.2.2.2.2.2.2.2.2.1, fun o => (hall o).2.2.2.2.2.2.2.2.2.2.2.2.2.2.2.2.2.1, fun o => (hall o).2.2.2.2.2.2.2.2.2.2.2.2.2.2.2.2.2.2.1, fun o => (hall o).2.2.2.2.2.2.2.2.2.2.2.2.2.2.2.2.2.2.2.1, fun o => (hall o).2.2.2.2.2.2.2.2.2.2.2.2.2.2.2.2.2.2.2.2⟩
 go_wp2_with fail
 clear cc0 cc1 cc2 cc3 cc4 cc5 cc6 cc7 cc8 cc9 cc10 cc11 cc12 cc13 cc14 cc15 cc16 cc17 cc18 cc19 cc20 dd0 dd1 dd2 dd3 dd4 dd5 dd6 dd7 dd8 dd9 dd10 dd11 dd12 dd13 dd14 dd15 dd16 dd17 dd18 dd19 dd20
 have HK2 := Lib.hid (HK.out.new #[.bool r2, S k2, S f2] 26)
 obtain ⟨w14, hW⟩ : ∃ W, w13.alloc (.cells #[.bool r2, S k2, S f2] 26 (0, 0)) = W := ⟨_, rfl⟩
 rw [hW] at HK2 ⊢
 obtain ⟨Rb2, hA⟩ : ∃ A, w13.heap.size = A := ⟨_, rfl⟩
 rw [hA] at HK2 ⊢
 clear hA hW HK
 have HK := HK2
 clear HK2
 have HF7 := Lib.hid (show ∀ W, Kq w W [(Rb2, 26, [.bool r2, S k2, S f2]), (Rb1, 26, [.bool r1, S k1, S f1]), (Rb0, 26, [.bool r0, S k0, S f0]), (Mb2, 26, [.bool r2, S k2, S f2]), (Mb1, 26, [.bool r1, S k1, S f1]), (Mb0, 26, [.bool r0, S k0, S f0]), (B + 1, 26, [.bool st, S nt, S dt]), (B, 26, [.bool sa, S na, S da])] → W.cell? ⟨Rb2, 0, none⟩ = some (.bool r2) ∧ W.cell? ⟨Rb2, 1, none⟩ = some (S k2) ∧ W.cell? ⟨Rb2, 2, none⟩ = some (S f2) ∧ W.cell? ⟨Rb1, 0, none⟩ = some (.bool r1) ∧ W.cell? ⟨Rb1, 1, none⟩ = some (S k1) ∧ W.cell? ⟨Rb1, 2, none⟩ = some (S f1) ∧ W.cell? ⟨Rb0, 0, none⟩ = some (.bool r0) ∧ W.cell? ⟨Rb0, 1, none⟩ = some (S k0) ∧ W.cell? ⟨Rb0, 2, none⟩ = some (S f0) ∧ W.cell? ⟨Mb2, 0, none⟩ = some (.bool r2) ∧ W.cell? ⟨Mb2, 1, none⟩ = some (S k2) ∧ W.cell? ⟨Mb2, 2, none⟩ = some (S f2) ∧ W.cell? ⟨Mb1, 0, none⟩ = some (.bool r1) ∧ W.cell? ⟨Mb1, 1, none⟩ = some (S k1) ∧ W.cell? ⟨Mb1, 2, none⟩ = some (S f1) ∧ W.cell? ⟨Mb0, 0, none⟩ = some (.bool r0) ∧ W.cell? ⟨Mb0, 1, none⟩ = some (S k0) ∧ W.cell? ⟨Mb0, 2, none⟩ = some (S f0) ∧ W.cell? ⟨B + 1, 0, none⟩ = some (.bool st) ∧ W.cell? ⟨B + 1, 1, none⟩ = some (S nt) ∧ W.cell? ⟨B + 1, 2, none⟩ = some (S dt) ∧ W.cell? ⟨B, 0, none⟩ = some (.bool sa) ∧ W.cell? ⟨B, 1, none⟩ = some (S na) ∧ W.cell? ⟨B, 2, none⟩ = some (S da) from fun W h => ⟨(h.row _ mm0).cell 0, (h.row _ mm0).cell 1, (h.row _ mm0).cell 2, (h.row _ mm1).cell 0, (h.row _ mm1).cell 1, (h.row _ mm1).cell 2, (h.row _ mm2).cell 0, (h.row _ mm2).cell 1, (h.row _ mm2).cell 2, (h.row _ mm3).cell 0, (h.row _ mm3).cell 1, (h.row _ mm3).cell 2, (h.row _ mm4).cell 0, (h.row _ mm4).cell 1, (h.row _ mm4).cell 2, (h.row _ mm5).cell 0, (h.row _ mm5).cell 1, (h.row _ mm5).cell 2, (h.row _ mm6).cell 0, (h.row _ mm6).cell 1, (h.row _ mm6).cell 2, (h.row _ mm7).cell 0, (h.row _ mm7).cell 1, (h.row _ mm7).cell 2⟩)
 obtain ⟨cc0, cc1, cc2, cc3, cc4, cc5, cc6, cc7, cc8, cc9, cc10, cc11, cc12, cc13, cc14, cc15, cc16, cc17, cc18, cc19, cc20, cc21, cc22, cc23⟩ := HF7.out _ HK.out
 refine (R3.out _ (HT.out.ch HK.out.ch)).mono ?_
 rintro e w15 ⟨rfl, hC⟩
 replace HK := Lib.hid (HK.out.on hC)
 clear hC cc0 cc1 cc2 cc3 cc4 cc5 cc6 cc7 cc8 cc9 cc10 cc11 cc12 cc13 cc14 cc15 cc16 cc17 cc18 cc19 cc20 cc21 cc22 cc23
 obtain ⟨cc0, cc1, cc2, cc3, cc4, cc5, cc6, cc7, cc8, cc9, cc10, cc11, cc12, cc13, cc14, cc15, cc16, cc17, cc18, cc19, cc20, cc21, cc22, cc23⟩ := HF7.out _ HK.out
 go_wp2_with fail
 refine (R4.out _ (HT.out.ch HK.out.ch)).mono ?_
 rintro e w16 ⟨rfl, hC⟩
 replace HK := Lib.hid (HK.out.on hC)
 clear hC cc0 cc1 cc2 cc3 cc4 cc5 cc6 cc7 cc8 cc9 cc10 cc11 cc12 cc13 cc14 cc15 cc16 cc17 cc18 cc19 cc20 cc21 cc22 cc23
 obtain ⟨cc0, cc1, cc2, cc3, cc4, cc5, cc6, cc7, cc8, cc9, cc10, cc11, cc12, cc13, cc14, cc15, cc16, cc17, cc18, cc19, cc20, cc21, cc22, cc23⟩ := HF7.out _ HK.out
 go_wp2_with fail
 clear cc0 cc1 cc2 cc3 cc4 cc5 cc6 cc7 cc8 cc9 cc10 cc11 cc12 cc13 cc14 cc15 cc16 cc17 cc18 cc19 cc20 cc21 cc22 cc23
 replace HK := Lib.hid HK.out.drew
 refine wp_region_held_drew (S := fun w' => w'.cell? ⟨Rb2, 0, none⟩ = some (.bool r2) ∧ w'.cell? ⟨Rb2, 1, none⟩ = some (S k2) ∧ w'.cell? ⟨Rb2, 2, none⟩ = some (S f2) ∧ w'.cell? ⟨Rb1, 0, none⟩ = some (.bool r1) ∧ w'.cell? ⟨Rb1, 1, none⟩ = some (S k1) ∧ w'.cell? ⟨Rb1, 2, none⟩ = some (S f1) ∧ w'.cell? ⟨Rb0, 0, none⟩ = some (.bool r0) ∧ w'.cell? ⟨Rb0, 1, none⟩ = some (S k0) ∧ w'.cell? ⟨Rb0, 2, none⟩ = some (S f0) ∧ w'.cell? ⟨Mb2, 0, none⟩ = some (.bool r2) ∧ w'.cell? ⟨Mb2, 1, none⟩ = some (S k2) ∧ w'.cell? ⟨Mb2, 2, none⟩ = some (S f2) ∧ w'.cell? ⟨Mb1, 0, none⟩ = some (.bool r1) ∧ w'.cell? ⟨Mb1, 1, none⟩ = some (S k1) ∧ w'.cell? ⟨Mb1, 2, none⟩ = some (S f1) ∧ w'.cell? ⟨Mb0, 0, none⟩ = some (.bool r0) ∧ w'.cell? ⟨Mb0, 1, none⟩ = some (S k0) ∧ w'.cell? ⟨Mb0, 2, none⟩ = some (S f0) ∧ w'.cell? ⟨B + 1, 0, none⟩ = some (.bool st) ∧ w'.cell? ⟨B + 1, 1, none⟩ = some (S nt) ∧ w'.cell? ⟨B + 1, 2, none⟩ = some (S dt) ∧ w'.cell? ⟨B, 0, none⟩ = some (.bool sa) ∧ w'.cell? ⟨B, 1, none⟩ = some (S na) ∧ w'.cell? ⟨B, 2, none⟩ = some (S da)) (by kernel_rfl) ?_ (fun hHeld => ?_)
 ·(try dsimp only); exact HF7.out _ HK.out
 refine tk 0 (v := ?_) hHeld ?_ ?_
 rotate_left 1
 ·intro _ hw; (try dsimp only at hw); go_simp; try with_reducible rfl
 (try simp only [Act.put, List.setIfInBounds_toArray, List.set_cons_zero, List.set_cons_succ])
 refine tk 1 (v := ?_) hHeld ?_ ?_
 rotate_left 1
 ·intro _ hw; (try dsimp only at hw); go_simp; try with_reducible rfl
 (try simp only [Act.put, List.setIfInBounds_toArray, List.set_cons_zero, List.set_cons_succ])
 refine tk 2 (v := ?_) hHeld ?_ ?_
 rotate_left 1
 ·intro _ hw; (try dsimp only at hw); go_simp; try with_reducible rfl
 (try simp only [Act.put, List.setIfInBounds_toArray, List.set_cons_zero, List.set_cons_succ])
 refine tk 3 (v := ?_) hHeld ?_ ?_
 rotate_left 1
 ·intro _ hw; (try dsimp only at hw); go_simp; try with_reducible rfl
 (try simp only [Act.put, List.setIfInBounds_toArray, List.set_cons_zero, List.set_cons_succ])
 refine tk 4 (v := ?_) hHeld ?_ ?_
 rotate_left 1
 ·intro _ hw; (try dsimp only at hw); go_simp; try with_reducible rfl
 (try simp only [Act.put, List.setIfInBounds_toArray, List.set_cons_zero, List.set_cons_succ])
 refine tk 5 (v := ?_) hHeld ?_ ?_
 rotate_left 1
 ·intro _ hw; (try dsimp only at hw); go_simp; try with_reducible rfl
 (try simp only [Act.put, List.setIfInBounds_toArray, List.set_cons_zero, List.set_cons_succ])
 refine tk 6 (v := ?_) hHeld ?_ ?_
 rotate_left 1
 ·intro _ hw; (try dsimp only at hw); go_simp; try with_reducible rfl
 (try simp only [Act.put, List.setIfInBounds_toArray, List.set_cons_zero, List.set_cons_succ])
 refine tk 7 (v := ?_) hHeld ?_ ?_
 rotate_left 1
 ·intro _ hw; (try dsimp only at hw); go_simp; try with_reducible rfl
 (try simp only [Act.put, List.setIfInBounds_toArray, List.set_cons_zero, List.set_cons_succ])
 refine tk 8 (v := ?_) hHeld ?_ ?_
 rotate_left 1
 ·intro _ hw; (try dsimp only at hw); go_simp; try with_reducible rfl
 (try simp only [Act.put, List.setIfInBounds_toArray, List.set_cons_zero, List.set_cons_succ])
 refine tk 9 (v := ?_) hHeld ?_ ?_
 rotate_left 1
 ·intro _ hw; (try dsimp only at hw); go_simp; try with_reducible rfl
 (try simp only [Act.put, List.setIfInBounds_toArray, List.set_cons_zero, List.set_cons_succ])
 refine tk 10 (v := ?_) hHeld ?_ ?_
 rotate_left 1
 ·intro _ hw; (try dsimp only at hw); go_simp; try with_reducible rfl
 (try simp only [Act.put, List.setIfInBounds_toArray, List.set_cons_zero, List.set_cons_succ])
 refine tk 11 (v := ?_) hHeld ?_ ?_
 rotate_left 1
 ·intro _ hw; (try dsimp only at hw); go_simp; try with_reducible rfl
 (try simp only [Act.put, List.setIfInBounds_toArray, List.set_cons_zero, List.set_cons_succ])
 refine tk 12 (v := ?_) hHeld ?_ ?_
 rotate_left 1
 ·intro _ hw; (try dsimp only at hw); go_simp; try with_reducible rfl
 (try simp only [Act.put, List.setIfInBounds_toArray, List.set_cons_zero, List.set_cons_succ])
 refine tk 13 (v := ?_) hHeld ?_ ?_
 rotate_left 1
 ·intro _ hw; (try dsimp only at hw); go_simp; try with_reducible rfl
 (try simp only [Act.put, List.setIfInBounds_toArray, List.set_cons_zero, List.set_cons_succ])
 refine tk 14 (v := ?_) hHeld ?_ ?_
 rotate_left 1
 ·intro _ hw; (try dsimp only at hw); go_simp; try with_reducible rfl
 (try simp only [Act.put, List.setIfInBounds_toArray, List.set_cons_zero, List.set_cons_succ])
 refine tk 15 (v := ?_) hHeld ?_ ?_
 rotate_left 1
 ·intro _ hw; (try dsimp only at hw); go_simp; try with_reducible rfl
 (try simp only [Act.put, List.setIfInBounds_toArray, List.set_cons_zero, List.set_cons_succ])
 refine tk 16 (v := ?_) hHeld ?_ ?_
 rotate_left 1
 ·intro _ hw; (try dsimp only at hw); go_simp; try with_reducible rfl
 (try simp only [Act.put, List.setIfInBounds_toArray, List.set_cons_zero, List.set_cons_succ])
 refine tk 17 (v := ?_) hHeld ?_ ?_
 rotate_left 1
 ·intro _ hw; (try dsimp only at hw); go_simp; try with_reducible rfl
 (try simp only [Act.put, List.setIfInBounds_toArray, List.set_cons_zero, List.set_cons_succ])
 refine tk 18 (v := ?_) hHeld ?_ ?_
 rotate_left 1
 ·intro _ hw; (try dsimp only at hw); go_simp; try with_reducible rfl
 (try simp only [Act.put, List.setIfInBounds_toArray, List.set_cons_zero, List.set_cons_succ])
 refine tk 19 (v := ?_) hHeld ?_ ?_
 rotate_left 1
 ·intro _ hw; (try dsimp only at hw); go_simp; try with_reducible rfl
 (try simp only [Act.put, List.setIfInBounds_toArray, List.set_cons_zero, List.set_cons_succ])
 refine tk 20 (v := ?_) hHeld ?_ ?_
 rotate_left 1
 ·intro _ hw; (try dsimp only at hw); go_simp; try with_reducible rfl
 (try simp only [Act.put, List.setIfInBounds_toArray, List.set_cons_zero, List.set_cons_succ])
 refine tk 21 (v := ?_) hHeld ?_ ?_
 rotate_left 1
 ·intro _ hw; (try dsimp only at hw); go_simp; try with_reducible rfl
 (try simp only [Act.put, List.setIfInBounds_toArray, List.set_cons_zero, List.set_cons_succ])
 refine tk 22 (v := ?_) hHeld ?_ ?_
 rotate_left 1
 ·intro _ hw; (try dsimp only at hw); go_simp; try with_reducible rfl
 (try simp only [Act.put, List.setIfInBounds_toArray, List.set_cons_zero, List.set_cons_succ])
 refine tk 23 (v := ?_) hHeld ?_ ?_
 rotate_left 1
 ·intro _ hw; (try dsimp only at hw); go_simp; try with_reducible rfl
 (try simp only [Act.put, List.setIfInBounds_toArray, List.set_cons_zero, List.set_cons_succ])
 refine tk 24 (v := ?_) hHeld ?_ ?_
 rotate_left 1
 ·intro _ hw; (try dsimp only at hw); go_simp; try with_reducible rfl
 (try simp only [Act.put, List.setIfInBounds_toArray, List.set_cons_zero, List.set_cons_succ])
 refine tk 25 (v := ?_) hHeld ?_ ?_
 rotate_left 1
 ·intro _ hw; (try dsimp only at hw); go_simp; try with_reducible rfl
 (try simp only [Act.put, List.setIfInBounds_toArray, List.set_cons_zero, List.set_cons_succ])
 refine tk 26 (v := ?_) hHeld ?_ ?_
 rotate_left 1
 ·intro _ hw; (try dsimp only at hw); go_simp; try with_reducible rfl
 (try simp only [Act.put, List.setIfInBounds_toArray, List.set_cons_zero, List.set_cons_succ])
 refine tk 27 (v := ?_) hHeld ?_ ?_
 rotate_left 1
 ·intro _ hw; (try dsimp only at hw); go_simp; try with_reducible rfl
 (try simp only [Act.put, List.setIfInBounds_toArray, List.set_cons_zero, List.set_cons_succ])
 refine tk 28 (v := ?_) hHeld ?_ ?_
 rotate_left 1
 ·intro _ hw; (try dsimp only at hw); go_simp; try with_reducible rfl
 (try simp only [Act.put, List.setIfInBounds_toArray, List.set_cons_zero, List.set_cons_succ])
 refine tk 29 (v := ?_) hHeld ?_ ?_
 rotate_left 1
 ·intro _ hw; (try dsimp only at hw); go_simp; try with_reducible rfl
 (try simp only [Act.put, List.setIfInBounds_toArray, List.set_cons_zero, List.set_cons_succ])
 refine tk 30 (v := ?_) hHeld ?_ ?_
 rotate_left 1
 ·intro _ hw; (try dsimp only at hw); go_simp; try with_reducible rfl
 (try simp only [Act.put, List.setIfInBounds_toArray, List.set_cons_zero, List.set_cons_succ])
 refine tk 31 (v := ?_) hHeld ?_ ?_
 rotate_left 1
 ·intro _ hw; (try dsimp only at hw); go_simp; try with_reducible rfl
 (try simp only [Act.put, List.setIfInBounds_toArray, List.set_cons_zero, List.set_cons_succ])
 refine tk 32 (v := ?_) hHeld ?_ ?_
 rotate_left 1
 ·intro _ hw; (try dsimp only at hw); go_simp; try with_reducible rfl
 (try simp only [Act.put, List.setIfInBounds_toArray, List.set_cons_zero, List.set_cons_succ])
 refine tk 33 (v := ?_) hHeld ?_ ?_
 rotate_left 1
 ·intro _ hw; (try dsimp only at hw); go_simp; try with_reducible rfl
 (try simp only [Act.put, List.setIfInBounds_toArray, List.set_cons_zero, List.set_cons_succ])
 refine tk 34 (v := ?_) hHeld ?_ ?_
 rotate_left 1
 ·intro _ hw; (try dsimp only at hw); go_simp; try with_reducible rfl
 (try simp only [Act.put, List.setIfInBounds_toArray, List.set_cons_zero, List.set_cons_succ])
 refine tk 35 (v := ?_) hHeld ?_ ?_
 rotate_left 1
 ·intro _ hw; (try dsimp only at hw); go_simp; try with_reducible rfl
 (try simp only [Act.put, List.setIfInBounds_toArray, List.set_cons_zero, List.set_cons_succ])
 refine tk 36 (v := ?_) hHeld ?_ ?_
 rotate_left 1
 ·intro _ hw; (try dsimp only at hw); go_simp; try with_reducible rfl
 (try simp only [Act.put, List.setIfInBounds_toArray, List.set_cons_zero, List.set_cons_succ])
 refine tk 37 (v := ?_) hHeld ?_ ?_
 rotate_left 1
 ·intro _ hw; (try dsimp only at hw); go_simp; try with_reducible rfl
 (try simp only [Act.put, List.setIfInBounds_toArray, List.set_cons_zero, List.set_cons_succ])
 refine tk 38 (v := ?_) hHeld ?_ ?_
 rotate_left 1
 ·intro _ hw; (try dsimp only at hw); go_simp; try with_reducible rfl
 (try simp only [Act.put, List.setIfInBounds_toArray, List.set_cons_zero, List.set_cons_succ])
 refine tk 39 (v := ?_) hHeld ?_ ?_
 rotate_left 1
 ·intro _ hw; (try dsimp only at hw); go_simp; try with_reducible rfl
 (try simp only [Act.put, List.setIfInBounds_toArray, List.set_cons_zero, List.set_cons_succ])
 refine tk 40 (v := ?_) hHeld ?_ ?_
 rotate_left 1
 ·intro _ hw; (try dsimp only at hw); go_simp; try with_reducible rfl
 (try simp only [Act.put, List.setIfInBounds_toArray, List.set_cons_zero, List.set_cons_succ])
 refine tk 41 (v := ?_) hHeld ?_ ?_
 rotate_left 1
 ·intro _ hw; (try dsimp only at hw); go_simp; try with_reducible rfl
 (try simp only [Act.put, List.setIfInBounds_toArray, List.set_cons_zero, List.set_cons_succ])
 refine tk 42 (v := ?_) hHeld ?_ ?_
 rotate_left 1
 ·intro _ hw; (try dsimp only at hw); go_simp; try with_reducible rfl
 (try simp only [Act.put, List.setIfInBounds_toArray, List.set_cons_zero, List.set_cons_succ])
 refine tk 43 (v := ?_) hHeld ?_ ?_
 rotate_left 1
 ·intro _ hw; (try dsimp only at hw); go_simp; try with_reducible rfl
 (try simp only [Act.put, List.setIfInBounds_toArray, List.set_cons_zero, List.set_cons_succ])
 refine tk 44 (v := ?_) hHeld ?_ ?_
 rotate_left 1
 ·intro _ hw; (try dsimp only at hw); go_simp; try with_reducible rfl
 (try simp only [Act.put, List.setIfInBounds_toArray, List.set_cons_zero, List.set_cons_succ])
 refine tk 45 (v := ?_) hHeld ?_ ?_
 rotate_left 1
 ·intro _ hw; (try dsimp only at hw); go_simp; try with_reducible rfl
 (try simp only [Act.put, List.setIfInBounds_toArray, List.set_cons_zero, List.set_cons_succ])
 refine tk 46 (v := ?_) hHeld ?_ ?_
 rotate_left 1
 ·intro _ hw; (try dsimp only at hw); go_simp; try with_reducible rfl
 (try simp only [Act.put, List.setIfInBounds_toArray, List.set_cons_zero, List.set_cons_succ])
 refine tk 47 (v := ?_) hHeld ?_ ?_
 rotate_left 1
 ·intro _ hw; (try dsimp only at hw); go_simp; try with_reducible rfl
 (try simp only [Act.put, List.setIfInBounds_toArray, List.set_cons_zero, List.set_cons_succ])
 refine tk 48 (v := ?_) hHeld ?_ ?_
 rotate_left 1
 ·intro _ hw; (try dsimp only at hw); go_simp; try with_reducible rfl
 (try simp only [Act.put, List.setIfInBounds_toArray, List.set_cons_zero, List.set_cons_succ])
 refine tk 49 (v := ?_) hHeld ?_ ?_
 rotate_left 1
 ·intro _ hw; (try dsimp only at hw); go_simp; try with_reducible rfl
 (try simp only [Act.put, List.setIfInBounds_toArray, List.set_cons_zero, List.set_cons_succ])
 refine tk 51 (v := ?_) hHeld ?_ ?_
 rotate_left 1
 ·intro _ hw; (try dsimp only at hw); go_simp; try with_reducible rfl
 (try simp only [Act.put, List.setIfInBounds_toArray, List.set_cons_zero, List.set_cons_succ])
 refine wpAnyH_ready (rs := [50]) (by kernel_rfl) (by simp) ?_
 refine AllReadyH.cons (at_list rfl) (fun K hK => ?_) AllReadyH.nil
 go_simp
 go_at_call 39; with_reducible refine (M5.out _ (HT.out.ch HK.out.ch)).mono ?_; rintro e wq ⟨rfl, hCq⟩; replace HK := Lib.hid (HK.out.on hCq); clear hCq
 clear hHeld
 first | (refine hK.out _ _ ?_ (fun hHeld => ?_)) | (go_wp2_with fail; refine hK.out _ _ ?_ (fun hHeld => ?_))
 ·(try dsimp only); exact HF7.out _ HK.out
 clear hK K
 (try simp only [Act.put, List.setIfInBounds_toArray, List.set_cons_zero, List.set_cons_succ])
 refine wpAnyH_ready (rs := [52]) (by kernel_rfl) (by simp) ?_
 refine AllReadyH.cons (at_list rfl) (fun K hK => ?_) AllReadyH.nil
 go_simp
 go_at_call 51; with_reducible refine (R5.out _ (HT.out.ch HK.out.ch)).mono ?_; rintro e wq ⟨rfl, hCq⟩; replace HK := Lib.hid (HK.out.on hCq); clear hCq
 clear hHeld
 first | (refine hK.out _ _ ?_ (fun hHeld => ?_)) | (go_wp2_with fail; refine hK.out _ _ ?_ (fun hHeld => ?_))
 ·(try dsimp only); exact HF7.out _ HK.out
 clear hK K
 (try simp only [Act.put, List.setIfInBounds_toArray, List.set_cons_zero, List.set_cons_succ])
 refine tk 53 (v := ?_) hHeld ?_ ?_
 rotate_left 1
 ·intro _ hw; (try dsimp only at hw); go_simp; try with_reducible rfl
 (try simp only [Act.put, List.setIfInBounds_toArray, List.set_cons_zero, List.set_cons_succ])
 refine tk 54 (v := ?_) hHeld ?_ ?_
 rotate_left 1
 ·intro _ hw; (try dsimp only at hw); go_simp; try with_reducible rfl
 (try simp only [Act.put, List.setIfInBounds_toArray, List.set_cons_zero, List.set_cons_succ])
 refine tk 55 (v := ?_) hHeld ?_ ?_
 rotate_left 1
 ·intro _ hw; (try dsimp only at hw); go_simp; try with_reducible rfl
 (try simp only [Act.put, List.setIfInBounds_toArray, List.set_cons_zero, List.set_cons_succ])
 refine wpAnyH_done (by kernel_rfl) ?_ _
 clear hHeld
 obtain ⟨cc0, cc1, cc2, cc3, cc4, cc5, cc6, cc7, cc8, cc9, cc10, cc11, cc12, cc13, cc14, cc15, cc16, cc17, cc18, cc19, cc20, cc21, cc22, cc23⟩ := HF7.out _ HK.out
 go_wp2_with fail
 go_ret
 exact ⟨rfl, HK.out.ch⟩
end Go.Proofs.YtkeomlpecjjhiaaGreatDoor
