/- The laws of layer 2: RatioOrder: the walk, ow_less. -/
import Derived.Test.YtninbglhomdmjaaGreatDoorLh
namespace Go.Proofs.YtninbglhomdmjaaGreatDoor
open Go.RowKit
set_option maxRecDepth 100000 in
set_option maxHeartbeats 3200000 in
theorem ow_less_s {x0 x1 x2 y0 y1 y2 z0 z1 z2 : Int} {sa sb sc sp su sm sv soo : Bool} {na da nb db nc dc np dp nu du nm dm nv dv noo doo : List UInt8} {k2 k3 k4 k5 : Int} (w : World) (ht : Tb w) (t1 : (sa == sb) = false) (wk1 : IntKind.i64.wrap (-1) = -1) (wk2 : IntKind.i64.wrap 1 = 1) (wk3 : IntKind.i64.wrap 0 = 0) (wr7 : IntKind.i64.wrap (-k4) = -k4) (k40 : -1 ≤ k4) (k41 : k4 ≤ 1)
    (hH0 : AnsT 10 #[] (.bool true)) (hH1 : Ans 11 #[.agg #[.int .i64 x0, .int .i64 x1, .int .i64 x2]] (Tv (sa, na, da))) (hH2 : Ans 11 #[.agg #[.int .i64 y0, .int .i64 y1, .int .i64 y2]] (Tv (sb, nb, db))) (hH3 : Ans 11 #[.agg #[.int .i64 z0, .int .i64 z1, .int .i64 z2]] (Tv (sc, nc, dc))) (hHZ : Ans 36 #[.int .i64 0] (Rv false [] [1])) (hG1 : AnsT 20 #[Rv sa na da, Rv sb nb db] (.int .i64 (-1))) (hG2 : AnsT 20 #[Rv sb nb db, Rv sa na da] (.int .i64 1)) (hG3 : AnsT 20 #[Rv sb nb db, Rv sc nc dc] (.int .i64 k2)) (hG4 : AnsT 20 #[Rv sa na da, Rv sc nc dc] (.int .i64 k3)) (hG5 : AnsT 14 #[Rv sa na da, Rv sc nc dc] (Rv sp np dp)) (hG6 : AnsT 14 #[Rv sb nb db, Rv sc nc dc] (Rv su nu du)) (hG7 : AnsT 20 #[Rv sp np dp, Rv su nu du] (.int .i64 (-1))) (hG8 : AnsT 18 #[Rv sa na da, Rv sc nc dc] (Rv sm nm dm)) (hG9 : AnsT 18 #[Rv sb nb db, Rv sc nc dc] (Rv sv nv dv)) (hG10 : AnsT 20 #[Rv sm nm dm, Rv sv nv dv] (.int .i64 (-k4))) (hG11 : AnsT 22 #[Rv sc nc dc] (.int .i64 k4)) (hG12 : AnsT 16 #[Rv sa na da, Rv sb nb db] (Rv soo noo doo)) (hG13 : AnsT 22 #[Rv soo noo doo] (.int .i64 (-1))) (hG14 : AnsT 22 #[Rv sa na da] (.int .i64 k5)) (hG15 : AnsT 20 #[Rv sa na da, Rv false [] [1]] (.int .i64 k5)) :
    Calls Tryz.prog 7 #[.agg #[.int .i64 x0, .int .i64 x1, .int .i64 x2], .agg #[.int .i64 y0, .int .i64 y1, .int .i64 y2], .agg #[.int .i64 z0, .int .i64 z1, .int .i64 z2]] w (Yld w (.bool true)) := by
  have H0 := Lib.hid hH0
  have H1 := Lib.hid hH1
  have H2 := Lib.hid hH2
  have H3 := Lib.hid hH3
  have HZ := Lib.hid hHZ
  have G1 := Lib.hid hG1
  have G2 := Lib.hid hG2
  have G3 := Lib.hid hG3
  have G4 := Lib.hid hG4
  have G5 := Lib.hid hG5
  have G6 := Lib.hid hG6
  have G7 := Lib.hid hG7
  have G8 := Lib.hid hG8
  have G9 := Lib.hid hG9
  have G10 := Lib.hid hG10
  have G11 := Lib.hid hG11
  have G12 := Lib.hid hG12
  have G13 := Lib.hid hG13
  have G14 := Lib.hid hG14
  have G15 := Lib.hid hG15
  have HT := Lib.hid ht
  have WK := And.intro wk1 (And.intro wk2 wk3)
  clear WK
  have WK := t1
  clear WK
  have WK := wr7
  clear WK
  have K40 := Lib.hid k40
  have K41 := Lib.hid k41
  clear ht k40 k41 hH0 hH1 hH2 hH3 hHZ hG1 hG2 hG3 hG4 hG5 hG6 hG7 hG8 hG9 hG10 hG11 hG12 hG13 hG14 hG15
  have HK := Lib.hid ((((Kq.nil w).new #[.int .i64 x0, .int .i64 x1, .int .i64 x2] 22).new #[.int .i64 y0, .int .i64 y1, .int .i64 y2] 22).new #[.int .i64 z0, .int .i64 z1, .int .i64 z2] 22)
  rw [World.size_alloc, World.size_alloc] at HK
  obtain ⟨B, hB⟩ : ∃ B, w.heap.size = B := ⟨_, rfl⟩
  rw [hB] at HK
  have HF1 := Lib.hid (show ∀ W, Kq w W [(B + 1 + 1, 22, [.int .i64 z0, .int .i64 z1, .int .i64 z2]), (B + 1, 22, [.int .i64 y0, .int .i64 y1, .int .i64 y2]), (B, 22, [.int .i64 x0, .int .i64 x1, .int .i64 x2])] → W.cell? ⟨B + 1 + 1, 0, none⟩ = some (.int .i64 z0) ∧ W.cell? ⟨B + 1 + 1, 1, none⟩ = some (.int .i64 z1) ∧ W.cell? ⟨B + 1 + 1, 2, none⟩ = some (.int .i64 z2) ∧ W.cell? ⟨B + 1, 0, none⟩ = some (.int .i64 y0) ∧ W.cell? ⟨B + 1, 1, none⟩ = some (.int .i64 y1) ∧ W.cell? ⟨B + 1, 2, none⟩ = some (.int .i64 y2) ∧ W.cell? ⟨B, 0, none⟩ = some (.int .i64 x0) ∧ W.cell? ⟨B, 1, none⟩ = some (.int .i64 x1) ∧ W.cell? ⟨B, 2, none⟩ = some (.int .i64 x2) from fun W h => ⟨(h.row _ (.head _)).cell 0, (h.row _ (.head _)).cell 1, (h.row _ (.head _)).cell 2, (h.row _ (.tail _ (.head _))).cell 0, (h.row _ (.tail _ (.head _))).cell 1, (h.row _ (.tail _ (.head _))).cell 2, (h.row _ (.tail _ (.tail _ (.head _)))).cell 0, (h.row _ (.tail _ (.tail _ (.head _)))).cell 1, (h.row _ (.tail _ (.tail _ (.head _)))).cell 2⟩)
  obtain ⟨cc0, cc1, cc2, cc3, cc4, cc5, cc6, cc7, cc8⟩ := HF1.out _ HK.out
  go_enter Tryz.func7, Tryz.ntmps7
  go_wp2_with fail
  refine (H0.out _ (HT.out.ch HK.out.ch)).mono ?_
  rintro e w1 ⟨rfl, hC⟩
  have HK2 := Lib.hid (HK.out.on hC)
  clear cc0 cc1 cc2 cc3 cc4 cc5 cc6 cc7 cc8
  clear hC HK
  have HK := HK2
  clear HK2
  obtain ⟨cc0, cc1, cc2, cc3, cc4, cc5, cc6, cc7, cc8⟩ := HF1.out _ HK.out
  go_wp2_with fail
  refine (H1.out _).mono ?_
  rintro e w2 ⟨rfl, hC⟩
  have HK2 := Lib.hid (HK.out.on hC)
  clear cc0 cc1 cc2 cc3 cc4 cc5 cc6 cc7 cc8
  clear hC HK
  have HK := HK2
  clear HK2
  obtain ⟨cc0, cc1, cc2, cc3, cc4, cc5, cc6, cc7, cc8⟩ := HF1.out _ HK.out
  have hall := fun o : Obj => HF1.out _ (HK.out.other o)
  have dd0 : ∀ o : Obj, (w2.alloc o).cell? ⟨B + 1 + 1, 0, none⟩ = some (.int .i64 z0) := fun o => (hall o).1
  have dd1 : ∀ o : Obj, (w2.alloc o).cell? ⟨B + 1 + 1, 1, none⟩ = some (.int .i64 z1) := fun o => (hall o).2.1
  have dd2 : ∀ o : Obj, (w2.alloc o).cell? ⟨B + 1 + 1, 2, none⟩ = some (.int .i64 z2) := fun o => (hall o).2.2.1
  have dd3 : ∀ o : Obj, (w2.alloc o).cell? ⟨B + 1, 0, none⟩ = some (.int .i64 y0) := fun o => (hall o).2.2.2.1
  have dd4 : ∀ o : Obj, (w2.alloc o).cell? ⟨B + 1, 1, none⟩ = some (.int .i64 y1) := fun o => (hall o).2.2.2.2.1
  have dd5 : ∀ o : Obj, (w2.alloc o).cell? ⟨B + 1, 2, none⟩ = some (.int .i64 y2) := fun o => (hall o).2.2.2.2.2.1
  have dd6 : ∀ o : Obj, (w2.alloc o).cell? ⟨B, 0, none⟩ = some (.int .i64 x0) := fun o => (hall o).2.2.2.2.2.2.1
  have dd7 : ∀ o : Obj, (w2.alloc o).cell? ⟨B, 1, none⟩ = some (.int .i64 x1) := fun o => (hall o).2.2.2.2.2.2.2.1
  have dd8 : ∀ o : Obj, (w2.alloc o).cell? ⟨B, 2, none⟩ = some (.int .i64 x2) := fun o => (hall o).2.2.2.2.2.2.2.2
  clear hall
  go_wp2_with fail
  clear cc0 cc1 cc2 cc3 cc4 cc5 cc6 cc7 cc8 dd0 dd1 dd2 dd3 dd4 dd5 dd6 dd7 dd8
  have HK2 := Lib.hid (HK.out.new #[.bool sa, S na, S da] 26)
  obtain ⟨w3, hW⟩ : ∃ W, w2.alloc (.cells #[.bool sa, S na, S da] 26 (0, 0)) = W := ⟨_, rfl⟩
  rw [hW] at HK2 ⊢
  obtain ⟨A, hA⟩ : ∃ A, w2.heap.size = A := ⟨_, rfl⟩
  rw [hA] at HK2 ⊢
  clear hA hW HK
  have HK := HK2
  clear HK2
  have HF2 := Lib.hid (show ∀ W, Kq w W [(A, 26, [.bool sa, S na, S da]), (B + 1 + 1, 22, [.int .i64 z0, .int .i64 z1, .int .i64 z2]), (B + 1, 22, [.int .i64 y0, .int .i64 y1, .int .i64 y2]), (B, 22, [.int .i64 x0, .int .i64 x1, .int .i64 x2])] → W.cell? ⟨A, 0, none⟩ = some (.bool sa) ∧ W.cell? ⟨A, 1, none⟩ = some (S na) ∧ W.cell? ⟨A, 2, none⟩ = some (S da) ∧ W.cell? ⟨B + 1 + 1, 0, none⟩ = some (.int .i64 z0) ∧ W.cell? ⟨B + 1 + 1, 1, none⟩ = some (.int .i64 z1) ∧ W.cell? ⟨B + 1 + 1, 2, none⟩ = some (.int .i64 z2) ∧ W.cell? ⟨B + 1, 0, none⟩ = some (.int .i64 y0) ∧ W.cell? ⟨B + 1, 1, none⟩ = some (.int .i64 y1) ∧ W.cell? ⟨B + 1, 2, none⟩ = some (.int .i64 y2) ∧ W.cell? ⟨B, 0, none⟩ = some (.int .i64 x0) ∧ W.cell? ⟨B, 1, none⟩ = some (.int .i64 x1) ∧ W.cell? ⟨B, 2, none⟩ = some (.int .i64 x2) from fun W h => ⟨(h.row _ (.head _)).cell 0, (h.row _ (.head _)).cell 1, (h.row _ (.head _)).cell 2, (h.row _ (.tail _ (.head _))).cell 0, (h.row _ (.tail _ (.head _))).cell 1, (h.row _ (.tail _ (.head _))).cell 2, (h.row _ (.tail _ (.tail _ (.head _)))).cell 0, (h.row _ (.tail _ (.tail _ (.head _)))).cell 1, (h.row _ (.tail _ (.tail _ (.head _)))).cell 2, (h.row _ (.tail _ (.tail _ (.tail _ (.head _))))).cell 0, (h.row _ (.tail _ (.tail _ (.tail _ (.head _))))).cell 1, (h.row _ (.tail _ (.tail _ (.tail _ (.head _))))).cell 2⟩)
  obtain ⟨cc0, cc1, cc2, cc3, cc4, cc5, cc6, cc7, cc8, cc9, cc10, cc11⟩ := HF2.out _ HK.out
  refine (H2.out _).mono ?_
  rintro e w4 ⟨rfl, hC⟩
  have HK2 := Lib.hid (HK.out.on hC)
  clear cc0 cc1 cc2 cc3 cc4 cc5 cc6 cc7 cc8 cc9 cc10 cc11
  clear hC HK
  have HK := HK2
  clear HK2
  obtain ⟨cc0, cc1, cc2, cc3, cc4, cc5, cc6, cc7, cc8, cc9, cc10, cc11⟩ := HF2.out _ HK.out
  have hall := fun o : Obj => HF2.out _ (HK.out.other o)
  have dd0 : ∀ o : Obj, (w4.alloc o).cell? ⟨A, 0, none⟩ = some (.bool sa) := fun o => (hall o).1
  have dd1 : ∀ o : Obj, (w4.alloc o).cell? ⟨A, 1, none⟩ = some (S na) := fun o => (hall o).2.1
  have dd2 : ∀ o : Obj, (w4.alloc o).cell? ⟨A, 2, none⟩ = some (S da) := fun o => (hall o).2.2.1
  have dd3 : ∀ o : Obj, (w4.alloc o).cell? ⟨B + 1 + 1, 0, none⟩ = some (.int .i64 z0) := fun o => (hall o).2.2.2.1
  have dd4 : ∀ o : Obj, (w4.alloc o).cell? ⟨B + 1 + 1, 1, none⟩ = some (.int .i64 z1) := fun o => (hall o).2.2.2.2.1
  have dd5 : ∀ o : Obj, (w4.alloc o).cell? ⟨B + 1 + 1, 2, none⟩ = some (.int .i64 z2) := fun o => (hall o).2.2.2.2.2.1
  have dd6 : ∀ o : Obj, (w4.alloc o).cell? ⟨B + 1, 0, none⟩ = some (.int .i64 y0) := fun o => (hall o).2.2.2.2.2.2.1
  have dd7 : ∀ o : Obj, (w4.alloc o).cell? ⟨B + 1, 1, none⟩ = some (.int .i64 y1) := fun o => (hall o).2.2.2.2.2.2.2.1
  have dd8 : ∀ o : Obj, (w4.alloc o).cell? ⟨B + 1, 2, none⟩ = some (.int .i64 y2) := fun o => (hall o).2.2.2.2.2.2.2.2.1
  have dd9 : ∀ o : Obj, (w4.alloc o).cell? ⟨B, 0, none⟩ = some (.int .i64 x0) := fun o => (hall o).2.2.2.2.2.2.2.2.2.1
  have dd10 : ∀ o : Obj, (w4.alloc o).cell? ⟨B, 1, none⟩ = some (.int .i64 x1) := fun o => (hall o).2.2.2.2.2.2.2.2.2.2.1
  have dd11 : ∀ o : Obj, (w4.alloc o).cell? ⟨B, 2, none⟩ = some (.int .i64 x2) := fun o => (hall o).2.2.2.2.2.2.2.2.2.2.2
  clear hall
  go_wp2_with fail
  clear cc0 cc1 cc2 cc3 cc4 cc5 cc6 cc7 cc8 cc9 cc10 cc11 dd0 dd1 dd2 dd3 dd4 dd5 dd6 dd7 dd8 dd9 dd10 dd11
  have HK2 := Lib.hid (HK.out.new #[.bool sb, S nb, S db] 26)
  obtain ⟨w5, hW⟩ : ∃ W, w4.alloc (.cells #[.bool sb, S nb, S db] 26 (0, 0)) = W := ⟨_, rfl⟩
  rw [hW] at HK2 ⊢
  obtain ⟨Bb, hA⟩ : ∃ A, w4.heap.size = A := ⟨_, rfl⟩
  rw [hA] at HK2 ⊢
  clear hA hW HK
  have HK := HK2
  clear HK2
  have HF3 := Lib.hid (show ∀ W, Kq w W [(Bb, 26, [.bool sb, S nb, S db]), (A, 26, [.bool sa, S na, S da]), (B + 1 + 1, 22, [.int .i64 z0, .int .i64 z1, .int .i64 z2]), (B + 1, 22, [.int .i64 y0, .int .i64 y1, .int .i64 y2]), (B, 22, [.int .i64 x0, .int .i64 x1, .int .i64 x2])] → W.cell? ⟨Bb, 0, none⟩ = some (.bool sb) ∧ W.cell? ⟨Bb, 1, none⟩ = some (S nb) ∧ W.cell? ⟨Bb, 2, none⟩ = some (S db) ∧ W.cell? ⟨A, 0, none⟩ = some (.bool sa) ∧ W.cell? ⟨A, 1, none⟩ = some (S na) ∧ W.cell? ⟨A, 2, none⟩ = some (S da) ∧ W.cell? ⟨B + 1 + 1, 0, none⟩ = some (.int .i64 z0) ∧ W.cell? ⟨B + 1 + 1, 1, none⟩ = some (.int .i64 z1) ∧ W.cell? ⟨B + 1 + 1, 2, none⟩ = some (.int .i64 z2) ∧ W.cell? ⟨B + 1, 0, none⟩ = some (.int .i64 y0) ∧ W.cell? ⟨B + 1, 1, none⟩ = some (.int .i64 y1) ∧ W.cell? ⟨B + 1, 2, none⟩ = some (.int .i64 y2) ∧ W.cell? ⟨B, 0, none⟩ = some (.int .i64 x0) ∧ W.cell? ⟨B, 1, none⟩ = some (.int .i64 x1) ∧ W.cell? ⟨B, 2, none⟩ = some (.int .i64 x2) from fun W h => ⟨(h.row _ (.head _)).cell 0, (h.row _ (.head _)).cell 1, (h.row _ (.head _)).cell 2, (h.row _ (.tail _ (.head _))).cell 0, (h.row _ (.tail _ (.head _))).cell 1, (h.row _ (.tail _ (.head _))).cell 2, (h.row _ (.tail _ (.tail _ (.head _)))).cell 0, (h.row _ (.tail _ (.tail _ (.head _)))).cell 1, (h.row _ (.tail _ (.tail _ (.head _)))).cell 2, (h.row _ (.tail _ (.tail _ (.tail _ (.head _))))).cell 0, (h.row _ (.tail _ (.tail _ (.tail _ (.head _))))).cell 1, (h.row _ (.tail _ (.tail _ (.tail _ (.head _))))).cell 2, (h.row _ (.tail _ (.tail _ (.tail _ (.tail _ (.head _)))))).cell 0, (h.row _ (.tail _ (.tail _ (.tail _ (.tail _ (.head _)))))).cell 1, (h.row _ (.tail _ (.tail _ (.tail _ (.tail _ (.head _)))))).cell 2⟩)
  obtain ⟨cc0, cc1, cc2, cc3, cc4, cc5, cc6, cc7, cc8, cc9, cc10, cc11, cc12, cc13, cc14⟩ := HF3.out _ HK.out
  refine (H3.out _).mono ?_
  rintro e w6 ⟨rfl, hC⟩
  have HK2 := Lib.hid (HK.out.on hC)
  clear cc0 cc1 cc2 cc3 cc4 cc5 cc6 cc7 cc8 cc9 cc10 cc11 cc12 cc13 cc14
  clear hC HK
  have HK := HK2
  clear HK2
  obtain ⟨cc0, cc1, cc2, cc3, cc4, cc5, cc6, cc7, cc8, cc9, cc10, cc11, cc12, cc13, cc14⟩ := HF3.out _ HK.out
  have hall := fun o : Obj => HF3.out _ (HK.out.other o)
  have dd0 : ∀ o : Obj, (w6.alloc o).cell? ⟨Bb, 0, none⟩ = some (.bool sb) := fun o => (hall o).1
  have dd1 : ∀ o : Obj, (w6.alloc o).cell? ⟨Bb, 1, none⟩ = some (S nb) := fun o => (hall o).2.1
  have dd2 : ∀ o : Obj, (w6.alloc o).cell? ⟨Bb, 2, none⟩ = some (S db) := fun o => (hall o).2.2.1
  have dd3 : ∀ o : Obj, (w6.alloc o).cell? ⟨A, 0, none⟩ = some (.bool sa) := fun o => (hall o).2.2.2.1
  have dd4 : ∀ o : Obj, (w6.alloc o).cell? ⟨A, 1, none⟩ = some (S na) := fun o => (hall o).2.2.2.2.1
  have dd5 : ∀ o : Obj, (w6.alloc o).cell? ⟨A, 2, none⟩ = some (S da) := fun o => (hall o).2.2.2.2.2.1
  have dd6 : ∀ o : Obj, (w6.alloc o).cell? ⟨B + 1 + 1, 0, none⟩ = some (.int .i64 z0) := fun o => (hall o).2.2.2.2.2.2.1
  have dd7 : ∀ o : Obj, (w6.alloc o).cell? ⟨B + 1 + 1, 1, none⟩ = some (.int .i64 z1) := fun o => (hall o).2.2.2.2.2.2.2.1
  have dd8 : ∀ o : Obj, (w6.alloc o).cell? ⟨B + 1 + 1, 2, none⟩ = some (.int .i64 z2) := fun o => (hall o).2.2.2.2.2.2.2.2.1
  have dd9 : ∀ o : Obj, (w6.alloc o).cell? ⟨B + 1, 0, none⟩ = some (.int .i64 y0) := fun o => (hall o).2.2.2.2.2.2.2.2.2.1
  have dd10 : ∀ o : Obj, (w6.alloc o).cell? ⟨B + 1, 1, none⟩ = some (.int .i64 y1) := fun o => (hall o).2.2.2.2.2.2.2.2.2.2.1
  have dd11 : ∀ o : Obj, (w6.alloc o).cell? ⟨B + 1, 2, none⟩ = some (.int .i64 y2) := fun o => (hall o).2.2.2.2.2.2.2.2.2.2.2.1
  have dd12 : ∀ o : Obj, (w6.alloc o).cell? ⟨B, 0, none⟩ = some (.int .i64 x0) := fun o => (hall o).2.2.2.2.2.2.2.2.2.2.2.2.1
  have dd13 : ∀ o : Obj, (w6.alloc o).cell? ⟨B, 1, none⟩ = some (.int .i64 x1) := fun o => (hall o).2.2.2.2.2.2.2.2.2.2.2.2.2.1
  have dd14 : ∀ o : Obj, (w6.alloc o).cell? ⟨B, 2, none⟩ = some (.int .i64 x2) := fun o => (hall o).2.2.2.2.2.2.2.2.2.2.2.2.2.2
  clear hall
  go_wp2_with fail
  clear cc0 cc1 cc2 cc3 cc4 cc5 cc6 cc7 cc8 cc9 cc10 cc11 cc12 cc13 cc14 dd0 dd1 dd2 dd3 dd4 dd5 dd6 dd7 dd8 dd9 dd10 dd11 dd12 dd13 dd14
  have HK2 := Lib.hid (HK.out.new #[.bool sc, S nc, S dc] 26)
  obtain ⟨w7, hW⟩ : ∃ W, w6.alloc (.cells #[.bool sc, S nc, S dc] 26 (0, 0)) = W := ⟨_, rfl⟩
  rw [hW] at HK2 ⊢
  obtain ⟨Cc, hA⟩ : ∃ A, w6.heap.size = A := ⟨_, rfl⟩
  rw [hA] at HK2 ⊢
  clear hA hW HK
  have HK := HK2
  clear HK2
  have HF4 := Lib.hid (show ∀ W, Kq w W [(Cc, 26, [.bool sc, S nc, S dc]), (Bb, 26, [.bool sb, S nb, S db]), (A, 26, [.bool sa, S na, S da]), (B + 1 + 1, 22, [.int .i64 z0, .int .i64 z1, .int .i64 z2]), (B + 1, 22, [.int .i64 y0, .int .i64 y1, .int .i64 y2]), (B, 22, [.int .i64 x0, .int .i64 x1, .int .i64 x2])] → W.cell? ⟨Cc, 0, none⟩ = some (.bool sc) ∧ W.cell? ⟨Cc, 1, none⟩ = some (S nc) ∧ W.cell? ⟨Cc, 2, none⟩ = some (S dc) ∧ W.cell? ⟨Bb, 0, none⟩ = some (.bool sb) ∧ W.cell? ⟨Bb, 1, none⟩ = some (S nb) ∧ W.cell? ⟨Bb, 2, none⟩ = some (S db) ∧ W.cell? ⟨A, 0, none⟩ = some (.bool sa) ∧ W.cell? ⟨A, 1, none⟩ = some (S na) ∧ W.cell? ⟨A, 2, none⟩ = some (S da) ∧ W.cell? ⟨B + 1 + 1, 0, none⟩ = some (.int .i64 z0) ∧ W.cell? ⟨B + 1 + 1, 1, none⟩ = some (.int .i64 z1) ∧ W.cell? ⟨B + 1 + 1, 2, none⟩ = some (.int .i64 z2) ∧ W.cell? ⟨B + 1, 0, none⟩ = some (.int .i64 y0) ∧ W.cell? ⟨B + 1, 1, none⟩ = some (.int .i64 y1) ∧ W.cell? ⟨B + 1, 2, none⟩ = some (.int .i64 y2) ∧ W.cell? ⟨B, 0, none⟩ = some (.int .i64 x0) ∧ W.cell? ⟨B, 1, none⟩ = some (.int .i64 x1) ∧ W.cell? ⟨B, 2, none⟩ = some (.int .i64 x2) from fun W h => ⟨(h.row _ (.head _)).cell 0, (h.row _ (.head _)).cell 1, (h.row _ (.head _)).cell 2, (h.row _ (.tail _ (.head _))).cell 0, (h.row _ (.tail _ (.head _))).cell 1, (h.row _ (.tail _ (.head _))).cell 2, (h.row _ (.tail _ (.tail _ (.head _)))).cell 0, (h.row _ (.tail _ (.tail _ (.head _)))).cell 1, (h.row _ (.tail _ (.tail _ (.head _)))).cell 2, (h.row _ (.tail _ (.tail _ (.tail _ (.head _))))).cell 0, (h.row _ (.tail _ (.tail _ (.tail _ (.head _))))).cell 1, (h.row _ (.tail _ (.tail _ (.tail _ (.head _))))).cell 2, (h.row _ (.tail _ (.tail _ (.tail _ (.tail _ (.head _)))))).cell 0, (h.row _ (.tail _ (.tail _ (.tail _ (.tail _ (.head _)))))).cell 1, (h.row _ (.tail _ (.tail _ (.tail _ (.tail _ (.head _)))))).cell 2, (h.row _ (.tail _ (.tail _ (.tail _ (.tail _ (.tail _ (.head _))))))).cell 0, (h.row _ (.tail _ (.tail _ (.tail _ (.tail _ (.tail _ (.head _))))))).cell 1, (h.row _ (.tail _ (.tail _ (.tail _ (.tail _ (.tail _ (.head _))))))).cell 2⟩)
  obtain ⟨cc0, cc1, cc2, cc3, cc4, cc5, cc6, cc7, cc8, cc9, cc10, cc11, cc12, cc13, cc14, cc15, cc16, cc17⟩ := HF4.out _ HK.out
  refine (G1.out _ (HT.out.ch HK.out.ch)).mono ?_
  rintro e w8 ⟨rfl, hC⟩
  have HK2 := Lib.hid (HK.out.on hC)
  clear cc0 cc1 cc2 cc3 cc4 cc5 cc6 cc7 cc8 cc9 cc10 cc11 cc12 cc13 cc14 cc15 cc16 cc17
  clear hC HK
  have HK := HK2
  clear HK2
  obtain ⟨cc0, cc1, cc2, cc3, cc4, cc5, cc6, cc7, cc8, cc9, cc10, cc11, cc12, cc13, cc14, cc15, cc16, cc17⟩ := HF4.out _ HK.out
  go_wp2_with fail
  clear cc0 cc1 cc2 cc3 cc4 cc5 cc6 cc7 cc8 cc9 cc10 cc11 cc12 cc13 cc14 cc15 cc16 cc17
  have HKD := Lib.hid HK.out.drew
  clear HK
  have HK := HKD
  clear HKD
  refine wp_region_held_drew (S := fun w' => w'.cell? ⟨Cc, 0, none⟩ = some (.bool sc) ∧ w'.cell? ⟨Cc, 1, none⟩ = some (S nc) ∧ w'.cell? ⟨Cc, 2, none⟩ = some (S dc) ∧ w'.cell? ⟨Bb, 0, none⟩ = some (.bool sb) ∧ w'.cell? ⟨Bb, 1, none⟩ = some (S nb) ∧ w'.cell? ⟨Bb, 2, none⟩ = some (S db) ∧ w'.cell? ⟨A, 0, none⟩ = some (.bool sa) ∧ w'.cell? ⟨A, 1, none⟩ = some (S na) ∧ w'.cell? ⟨A, 2, none⟩ = some (S da) ∧ w'.cell? ⟨B + 1 + 1, 0, none⟩ = some (.int .i64 z0) ∧ w'.cell? ⟨B + 1 + 1, 1, none⟩ = some (.int .i64 z1) ∧ w'.cell? ⟨B + 1 + 1, 2, none⟩ = some (.int .i64 z2) ∧ w'.cell? ⟨B + 1, 0, none⟩ = some (.int .i64 y0) ∧ w'.cell? ⟨B + 1, 1, none⟩ = some (.int .i64 y1) ∧ w'.cell? ⟨B + 1, 2, none⟩ = some (.int .i64 y2) ∧ w'.cell? ⟨B, 0, none⟩ = some (.int .i64 x0) ∧ w'.cell? ⟨B, 1, none⟩ = some (.int .i64 x1) ∧ w'.cell? ⟨B, 2, none⟩ = some (.int .i64 x2)) (by kernel_rfl) ?_ (fun hHeld => ?_)
  · (try dsimp only); exact HF4.out _ HK.out
  refine tk 0 (v := ?_) hHeld ?_ ?_
  rotate_left 1
  · intro _ hw; (try dsimp only at hw); go_simp; try with_reducible rfl
  (try simp only [Act.put, List.setIfInBounds_toArray, List.set_cons_zero, List.set_cons_succ])
  refine tk 1 (v := ?_) hHeld ?_ ?_
  rotate_left 1
  · intro _ hw; (try dsimp only at hw); go_simp; try with_reducible rfl
  (try simp only [Act.put, List.setIfInBounds_toArray, List.set_cons_zero, List.set_cons_succ])
  refine tk 2 (v := ?_) hHeld ?_ ?_
  rotate_left 1
  · intro _ hw; (try dsimp only at hw); go_simp; try with_reducible rfl
  (try simp only [Act.put, List.setIfInBounds_toArray, List.set_cons_zero, List.set_cons_succ])
  refine wpAnyH_ready (rs := [3]) (by kernel_rfl) (by simp) ?_
  refine AllReadyH.cons (at_list rfl) (fun K hK => ?_) AllReadyH.nil
  go_simp
  go_at_call 20; with_reducible refine (G2.out _ (HT.out.ch HK.out.ch)).mono ?_; rintro e wq ⟨rfl, hCq⟩; have HK2 := Lib.hid (HK.out.on hCq); clear hCq HK; have HK := HK2; clear HK2
  clear hHeld
  first | (refine hK.out _ _ ?_ (fun hHeld => ?_)) | (go_wp2_with fail; refine hK.out _ _ ?_ (fun hHeld => ?_))
  · (try dsimp only); exact HF4.out _ HK.out
  clear hK K
  (try simp only [Act.put, List.setIfInBounds_toArray, List.set_cons_zero, List.set_cons_succ])
  refine tk 4 (v := ?_) hHeld ?_ ?_
  rotate_left 1
  · intro _ hw; (try dsimp only at hw); go_simp; try with_reducible rfl
  (try simp only [Act.put, List.setIfInBounds_toArray, List.set_cons_zero, List.set_cons_succ])
  refine tk 5 (v := ?_) hHeld ?_ ?_
  rotate_left 1
  · intro _ hw; (try dsimp only at hw); go_simp; try with_reducible rfl
  (try simp only [Act.put, List.setIfInBounds_toArray, List.set_cons_zero, List.set_cons_succ])
  refine tk 6 (v := ?_) hHeld ?_ ?_
  rotate_left 1
  · intro _ hw; (try dsimp only at hw); go_simp; try with_reducible rfl
  (try simp only [Act.put, List.setIfInBounds_toArray, List.set_cons_zero, List.set_cons_succ])
  refine tk 7 (v := ?_) hHeld ?_ ?_
  rotate_left 1
  · intro _ hw; (try dsimp only at hw); go_simp; try with_reducible rfl
  (try simp only [Act.put, List.setIfInBounds_toArray, List.set_cons_zero, List.set_cons_succ])
  refine tk 8 (v := ?_) hHeld ?_ ?_
  rotate_left 1
  · intro _ hw; (try dsimp only at hw); go_simp; try with_reducible rfl
  (try simp only [Act.put, List.setIfInBounds_toArray, List.set_cons_zero, List.set_cons_succ])
  refine tk 9 (v := ?_) hHeld ?_ ?_
  rotate_left 1
  · intro _ hw; (try dsimp only at hw); go_simp; try with_reducible rfl
  (try simp only [Act.put, List.setIfInBounds_toArray, List.set_cons_zero, List.set_cons_succ])
  refine tk 10 (v := ?_) hHeld ?_ ?_
  rotate_left 1
  · intro _ hw; (try dsimp only at hw); go_simp; try with_reducible rfl
  (try simp only [Act.put, List.setIfInBounds_toArray, List.set_cons_zero, List.set_cons_succ])
  refine tk 11 (v := ?_) hHeld ?_ ?_
  rotate_left 1
  · intro _ hw; (try dsimp only at hw); go_simp; try with_reducible rfl
  (try simp only [Act.put, List.setIfInBounds_toArray, List.set_cons_zero, List.set_cons_succ])
  refine tk 12 (v := ?_) hHeld ?_ ?_
  rotate_left 1
  · intro _ hw; (try dsimp only at hw); go_simp; try with_reducible rfl
  (try simp only [Act.put, List.setIfInBounds_toArray, List.set_cons_zero, List.set_cons_succ])
  refine tk 13 (v := ?_) hHeld ?_ ?_
  rotate_left 1
  · intro _ hw; (try dsimp only at hw); go_simp; try with_reducible rfl
  (try simp only [Act.put, List.setIfInBounds_toArray, List.set_cons_zero, List.set_cons_succ])
  refine tk 14 (v := ?_) hHeld ?_ ?_
  rotate_left 1
  · intro _ hw; (try dsimp only at hw); go_simp; try with_reducible rfl
  (try simp only [Act.put, List.setIfInBounds_toArray, List.set_cons_zero, List.set_cons_succ])
  refine tk 15 (v := ?_) hHeld ?_ ?_
  rotate_left 1
  · intro _ hw; (try dsimp only at hw); go_simp; try with_reducible rfl
  (try simp only [Act.put, List.setIfInBounds_toArray, List.set_cons_zero, List.set_cons_succ])
  refine tk 16 (v := ?_) hHeld ?_ ?_
  rotate_left 1
  · intro _ hw; (try dsimp only at hw); go_simp; try with_reducible rfl
  (try simp only [Act.put, List.setIfInBounds_toArray, List.set_cons_zero, List.set_cons_succ])
  refine tk 17 (v := ?_) hHeld ?_ ?_
  rotate_left 1
  · intro _ hw; (try dsimp only at hw); go_simp; try with_reducible rfl
  (try simp only [Act.put, List.setIfInBounds_toArray, List.set_cons_zero, List.set_cons_succ])
  refine sk 18 hHeld ?_
  (try simp only [Act.put, List.setIfInBounds_toArray, List.set_cons_zero, List.set_cons_succ])
  refine sk 19 hHeld ?_
  (try simp only [Act.put, List.setIfInBounds_toArray, List.set_cons_zero, List.set_cons_succ])
  refine sk 20 hHeld ?_
  (try simp only [Act.put, List.setIfInBounds_toArray, List.set_cons_zero, List.set_cons_succ])
  refine sk 21 hHeld ?_
  (try simp only [Act.put, List.setIfInBounds_toArray, List.set_cons_zero, List.set_cons_succ])
  refine tk 22 (v := ?_) hHeld ?_ ?_
  rotate_left 1
  · intro _ hw; (try dsimp only at hw); go_simp; try with_reducible rfl
  (try simp only [Act.put, List.setIfInBounds_toArray, List.set_cons_zero, List.set_cons_succ])
  refine tk 23 (v := ?_) hHeld ?_ ?_
  rotate_left 1
  · intro _ hw; (try dsimp only at hw); go_simp; try with_reducible rfl
  (try simp only [Act.put, List.setIfInBounds_toArray, List.set_cons_zero, List.set_cons_succ])
  refine sk 24 hHeld ?_
  (try simp only [Act.put, List.setIfInBounds_toArray, List.set_cons_zero, List.set_cons_succ])
  refine sk 25 hHeld ?_
  (try simp only [Act.put, List.setIfInBounds_toArray, List.set_cons_zero, List.set_cons_succ])
  refine sk 26 hHeld ?_
  (try simp only [Act.put, List.setIfInBounds_toArray, List.set_cons_zero, List.set_cons_succ])
  refine sk 27 hHeld ?_
  (try simp only [Act.put, List.setIfInBounds_toArray, List.set_cons_zero, List.set_cons_succ])
  refine tk 28 (v := ?_) hHeld ?_ ?_
  rotate_left 1
  · intro _ hw; (try dsimp only at hw); go_simp; try with_reducible rfl
  (try simp only [Act.put, List.setIfInBounds_toArray, List.set_cons_zero, List.set_cons_succ])
  refine tk 29 (v := ?_) hHeld ?_ ?_
  rotate_left 1
  · intro _ hw; (try dsimp only at hw); go_simp; try with_reducible rfl
  (try simp only [Act.put, List.setIfInBounds_toArray, List.set_cons_zero, List.set_cons_succ])
  refine tk 30 (v := ?_) hHeld ?_ ?_
  rotate_left 1
  · intro _ hw; (try dsimp only at hw); go_simp; try with_reducible rfl
  (try simp only [Act.put, List.setIfInBounds_toArray, List.set_cons_zero, List.set_cons_succ])
  refine tk 31 (v := ?_) hHeld ?_ ?_
  rotate_left 1
  · intro _ hw; (try dsimp only at hw); go_simp; try with_reducible rfl
  (try simp only [Act.put, List.setIfInBounds_toArray, List.set_cons_zero, List.set_cons_succ])
  refine tk 32 (v := ?_) hHeld ?_ ?_
  rotate_left 1
  · intro _ hw; (try dsimp only at hw); go_simp; try with_reducible rfl
  (try simp only [Act.put, List.setIfInBounds_toArray, List.set_cons_zero, List.set_cons_succ])
  refine tk 34 (v := ?_) hHeld ?_ ?_
  rotate_left 1
  · intro _ hw; (try dsimp only at hw); go_simp; try with_reducible rfl
  (try simp only [Act.put, List.setIfInBounds_toArray, List.set_cons_zero, List.set_cons_succ])
  refine tk 35 (v := ?_) hHeld ?_ ?_
  rotate_left 1
  · intro _ hw; (try dsimp only at hw); go_simp; try with_reducible rfl
  (try simp only [Act.put, List.setIfInBounds_toArray, List.set_cons_zero, List.set_cons_succ])
  refine tk 38 (v := ?_) hHeld ?_ ?_
  rotate_left 1
  · intro _ hw; (try dsimp only at hw); go_simp; try with_reducible rfl
  (try simp only [Act.put, List.setIfInBounds_toArray, List.set_cons_zero, List.set_cons_succ])
  refine wpAnyH_ready (rs := [33]) (by kernel_rfl) (by simp) ?_
  refine AllReadyH.cons (at_list rfl) (fun K hK => ?_) AllReadyH.nil
  go_simp
  go_at_call 14; with_reducible refine (G5.out _ (HT.out.ch HK.out.ch)).mono ?_; rintro e wq ⟨rfl, hCq⟩; have HK2 := Lib.hid (HK.out.on hCq); clear hCq HK; have HK := HK2; clear HK2
  clear hHeld
  first | (refine hK.out _ _ ?_ (fun hHeld => ?_)) | (go_wp2_with fail; refine hK.out _ _ ?_ (fun hHeld => ?_))
  · (try dsimp only); exact HF4.out _ HK.out
  clear hK K
  (try simp only [Act.put, List.setIfInBounds_toArray, List.set_cons_zero, List.set_cons_succ])
  refine wpAnyH_ready (rs := [36]) (by kernel_rfl) (by simp) ?_
  refine AllReadyH.cons (at_list rfl) (fun K hK => ?_) AllReadyH.nil
  go_simp
  go_at_call 14; with_reducible refine (G6.out _ (HT.out.ch HK.out.ch)).mono ?_; rintro e wq ⟨rfl, hCq⟩; have HK2 := Lib.hid (HK.out.on hCq); clear hCq HK; have HK := HK2; clear HK2
  clear hHeld
  first | (refine hK.out _ _ ?_ (fun hHeld => ?_)) | (go_wp2_with fail; refine hK.out _ _ ?_ (fun hHeld => ?_))
  · (try dsimp only); exact HF4.out _ HK.out
  clear hK K
  (try simp only [Act.put, List.setIfInBounds_toArray, List.set_cons_zero, List.set_cons_succ])
  refine wpAnyH_ready (rs := [37]) (by kernel_rfl) (by simp) ?_
  refine AllReadyH.cons (at_list rfl) (fun K hK => ?_) AllReadyH.nil
  go_simp
  go_at_call 20; with_reducible refine (G7.out _ (HT.out.ch HK.out.ch)).mono ?_; rintro e wq ⟨rfl, hCq⟩; have HK2 := Lib.hid (HK.out.on hCq); clear hCq HK; have HK := HK2; clear HK2
  clear hHeld
  first | (refine hK.out _ _ ?_ (fun hHeld => ?_)) | (go_wp2_with fail; refine hK.out _ _ ?_ (fun hHeld => ?_))
  · (try dsimp only); exact HF4.out _ HK.out
  clear hK K
  (try simp only [Act.put, List.setIfInBounds_toArray, List.set_cons_zero, List.set_cons_succ])
  refine tk 39 (v := ?_) hHeld ?_ ?_
  rotate_left 1
  · intro _ hw; (try dsimp only at hw); go_simp; try with_reducible rfl
  (try simp only [Act.put, List.setIfInBounds_toArray, List.set_cons_zero, List.set_cons_succ])
  refine tk 40 (v := ?_) hHeld ?_ ?_
  rotate_left 1
  · intro _ hw; (try dsimp only at hw); go_simp; try with_reducible rfl
  (try simp only [Act.put, List.setIfInBounds_toArray, List.set_cons_zero, List.set_cons_succ])
  refine wpAnyH_ready (rs := [41]) (by kernel_rfl) (by simp) ?_
  refine AllReadyH.cons (at_list rfl) (fun K hK => ?_) AllReadyH.nil
  go_simp
  clear hHeld
  refine hK.out _ _ ?_ (fun hHeld => ?_)
  · (try dsimp only); exact HF4.out _ HK.out
  clear hK K
  (try simp only [Act.put, List.setIfInBounds_toArray, List.set_cons_zero, List.set_cons_succ])
  refine wpAnyH_done (by kernel_rfl) ?_ _
  clear hHeld
  obtain ⟨cc0, cc1, cc2, cc3, cc4, cc5, cc6, cc7, cc8, cc9, cc10, cc11, cc12, cc13, cc14, cc15, cc16, cc17⟩ := HF4.out _ HK.out
  go_wp2_with fail
  have k40 := K40.out
  have k41 := K41.out
  clear cc0 cc1 cc2 cc3 cc4 cc5 cc6 cc7 cc8 cc9 cc10 cc11 cc12 cc13 cc14 cc15 cc16 cc17
  have HKD := Lib.hid HK.out.drew
  clear HK
  have HK := HKD
  clear HKD
  go_region_held3 (fun w' => w'.cell? ⟨Cc, 0, none⟩ = some (.bool sc) ∧ w'.cell? ⟨Cc, 1, none⟩ = some (S nc) ∧ w'.cell? ⟨Cc, 2, none⟩ = some (S dc) ∧ w'.cell? ⟨Bb, 0, none⟩ = some (.bool sb) ∧ w'.cell? ⟨Bb, 1, none⟩ = some (S nb) ∧ w'.cell? ⟨Bb, 2, none⟩ = some (S db) ∧ w'.cell? ⟨A, 0, none⟩ = some (.bool sa) ∧ w'.cell? ⟨A, 1, none⟩ = some (S na) ∧ w'.cell? ⟨A, 2, none⟩ = some (S da) ∧ w'.cell? ⟨B + 1 + 1, 0, none⟩ = some (.int .i64 z0) ∧ w'.cell? ⟨B + 1 + 1, 1, none⟩ = some (.int .i64 z1) ∧ w'.cell? ⟨B + 1 + 1, 2, none⟩ = some (.int .i64 z2) ∧ w'.cell? ⟨B + 1, 0, none⟩ = some (.int .i64 y0) ∧ w'.cell? ⟨B + 1, 1, none⟩ = some (.int .i64 y1) ∧ w'.cell? ⟨B + 1, 2, none⟩ = some (.int .i64 y2) ∧ w'.cell? ⟨B, 0, none⟩ = some (.int .i64 x0) ∧ w'.cell? ⟨B, 1, none⟩ = some (.int .i64 x1) ∧ w'.cell? ⟨B, 2, none⟩ = some (.int .i64 x2))
    (first
      | (with_reducible exact HF4.out _ HK.out)
      | go_keep)
    (first
      | (go_at_call 20; with_reducible refine (G10.out _ (HT.out.ch HK.out.ch)).mono ?_; rintro e wq ⟨rfl, hCq⟩; have HK2 := Lib.hid (HK.out.on hCq); clear hCq HK; have HK := HK2; clear HK2)
      | (go_at_call 20; with_reducible refine (G15.out _ (HT.out.ch HK.out.ch)).mono ?_; rintro e wq ⟨rfl, hCq⟩; have HK2 := Lib.hid (HK.out.on hCq); clear hCq HK; have HK := HK2; clear HK2)
      | (go_at_call 18; with_reducible refine (G8.out _ (HT.out.ch HK.out.ch)).mono ?_; rintro e wq ⟨rfl, hCq⟩; have HK2 := Lib.hid (HK.out.on hCq); clear hCq HK; have HK := HK2; clear HK2)
      | (go_at_call 18; with_reducible refine (G9.out _ (HT.out.ch HK.out.ch)).mono ?_; rintro e wq ⟨rfl, hCq⟩; have HK2 := Lib.hid (HK.out.on hCq); clear hCq HK; have HK := HK2; clear HK2)
      | (go_at_call 22; with_reducible refine (G11.out _ (HT.out.ch HK.out.ch)).mono ?_; rintro e wq ⟨rfl, hCq⟩; have HK2 := Lib.hid (HK.out.on hCq); clear hCq HK; have HK := HK2; clear HK2)
      | (go_at_call 22; with_reducible refine (G13.out _ (HT.out.ch HK.out.ch)).mono ?_; rintro e wq ⟨rfl, hCq⟩; have HK2 := Lib.hid (HK.out.on hCq); clear hCq HK; have HK := HK2; clear HK2)
      | (go_at_call 22; with_reducible refine (G14.out _ (HT.out.ch HK.out.ch)).mono ?_; rintro e wq ⟨rfl, hCq⟩; have HK2 := Lib.hid (HK.out.on hCq); clear hCq HK; have HK := HK2; clear HK2)
      | (go_at_call 16; with_reducible refine (G12.out _ (HT.out.ch HK.out.ch)).mono ?_; rintro e wq ⟨rfl, hCq⟩; have HK2 := Lib.hid (HK.out.on hCq); clear hCq HK; have HK := HK2; clear HK2)
      | (go_at_call 36; with_reducible refine (HZ.out _).mono ?_; rintro e wq ⟨rfl, hCq⟩; have HK2 := Lib.hid (HK.out.on hCq); clear hCq HK; have HK := HK2; clear HK2))
  obtain ⟨cc0, cc1, cc2, cc3, cc4, cc5, cc6, cc7, cc8, cc9, cc10, cc11, cc12, cc13, cc14, cc15, cc16, cc17⟩ := HF4.out _ HK.out
  go_wp2_with fail
  go_ret
  exact ⟨rfl, HK.out.ch⟩
set_option maxRecDepth 100000 in
set_option maxHeartbeats 3200000 in
theorem ow_less_n {x0 x1 x2 y0 y1 y2 z0 z1 z2 : Int} {sa sc sp su sm sv soo : Bool} {na da nb db nc dc np dp nu du nm dm nv dv noo doo : List UInt8} {k2 k3 k4 k5 : Int} (w : World) (ht : Tb w) (t1 : (na == nb) = false) (wk1 : IntKind.i64.wrap (-1) = -1) (wk2 : IntKind.i64.wrap 1 = 1) (wk3 : IntKind.i64.wrap 0 = 0) (wr7 : IntKind.i64.wrap (-k4) = -k4) (k40 : -1 ≤ k4) (k41 : k4 ≤ 1)
    (hH0 : AnsT 10 #[] (.bool true)) (hH1 : Ans 11 #[.agg #[.int .i64 x0, .int .i64 x1, .int .i64 x2]] (Tv (sa, na, da))) (hH2 : Ans 11 #[.agg #[.int .i64 y0, .int .i64 y1, .int .i64 y2]] (Tv (sa, nb, db))) (hH3 : Ans 11 #[.agg #[.int .i64 z0, .int .i64 z1, .int .i64 z2]] (Tv (sc, nc, dc))) (hHZ : Ans 36 #[.int .i64 0] (Rv false [] [1])) (hG1 : AnsT 20 #[Rv sa na da, Rv sa nb db] (.int .i64 (-1))) (hG2 : AnsT 20 #[Rv sa nb db, Rv sa na da] (.int .i64 1)) (hG3 : AnsT 20 #[Rv sa nb db, Rv sc nc dc] (.int .i64 k2)) (hG4 : AnsT 20 #[Rv sa na da, Rv sc nc dc] (.int .i64 k3)) (hG5 : AnsT 14 #[Rv sa na da, Rv sc nc dc] (Rv sp np dp)) (hG6 : AnsT 14 #[Rv sa nb db, Rv sc nc dc] (Rv su nu du)) (hG7 : AnsT 20 #[Rv sp np dp, Rv su nu du] (.int .i64 (-1))) (hG8 : AnsT 18 #[Rv sa na da, Rv sc nc dc] (Rv sm nm dm)) (hG9 : AnsT 18 #[Rv sa nb db, Rv sc nc dc] (Rv sv nv dv)) (hG10 : AnsT 20 #[Rv sm nm dm, Rv sv nv dv] (.int .i64 (-k4))) (hG11 : AnsT 22 #[Rv sc nc dc] (.int .i64 k4)) (hG12 : AnsT 16 #[Rv sa na da, Rv sa nb db] (Rv soo noo doo)) (hG13 : AnsT 22 #[Rv soo noo doo] (.int .i64 (-1))) (hG14 : AnsT 22 #[Rv sa na da] (.int .i64 k5)) (hG15 : AnsT 20 #[Rv sa na da, Rv false [] [1]] (.int .i64 k5)) :
    Calls Tryz.prog 7 #[.agg #[.int .i64 x0, .int .i64 x1, .int .i64 x2], .agg #[.int .i64 y0, .int .i64 y1, .int .i64 y2], .agg #[.int .i64 z0, .int .i64 z1, .int .i64 z2]] w (Yld w (.bool true)) := by
  have H0 := Lib.hid hH0
  have H1 := Lib.hid hH1
  have H2 := Lib.hid hH2
  have H3 := Lib.hid hH3
  have HZ := Lib.hid hHZ
  have G1 := Lib.hid hG1
  have G2 := Lib.hid hG2
  have G3 := Lib.hid hG3
  have G4 := Lib.hid hG4
  have G5 := Lib.hid hG5
  have G6 := Lib.hid hG6
  have G7 := Lib.hid hG7
  have G8 := Lib.hid hG8
  have G9 := Lib.hid hG9
  have G10 := Lib.hid hG10
  have G11 := Lib.hid hG11
  have G12 := Lib.hid hG12
  have G13 := Lib.hid hG13
  have G14 := Lib.hid hG14
  have G15 := Lib.hid hG15
  have HT := Lib.hid ht
  have WK := And.intro wk1 (And.intro wk2 wk3)
  clear WK
  have WK := t1
  clear WK
  have WK := wr7
  clear WK
  have K40 := Lib.hid k40
  have K41 := Lib.hid k41
  clear ht k40 k41 hH0 hH1 hH2 hH3 hHZ hG1 hG2 hG3 hG4 hG5 hG6 hG7 hG8 hG9 hG10 hG11 hG12 hG13 hG14 hG15
  have HK := Lib.hid ((((Kq.nil w).new #[.int .i64 x0, .int .i64 x1, .int .i64 x2] 22).new #[.int .i64 y0, .int .i64 y1, .int .i64 y2] 22).new #[.int .i64 z0, .int .i64 z1, .int .i64 z2] 22)
  rw [World.size_alloc, World.size_alloc] at HK
  obtain ⟨B, hB⟩ : ∃ B, w.heap.size = B := ⟨_, rfl⟩
  rw [hB] at HK
  have HF1 := Lib.hid (show ∀ W, Kq w W [(B + 1 + 1, 22, [.int .i64 z0, .int .i64 z1, .int .i64 z2]), (B + 1, 22, [.int .i64 y0, .int .i64 y1, .int .i64 y2]), (B, 22, [.int .i64 x0, .int .i64 x1, .int .i64 x2])] → W.cell? ⟨B + 1 + 1, 0, none⟩ = some (.int .i64 z0) ∧ W.cell? ⟨B + 1 + 1, 1, none⟩ = some (.int .i64 z1) ∧ W.cell? ⟨B + 1 + 1, 2, none⟩ = some (.int .i64 z2) ∧ W.cell? ⟨B + 1, 0, none⟩ = some (.int .i64 y0) ∧ W.cell? ⟨B + 1, 1, none⟩ = some (.int .i64 y1) ∧ W.cell? ⟨B + 1, 2, none⟩ = some (.int .i64 y2) ∧ W.cell? ⟨B, 0, none⟩ = some (.int .i64 x0) ∧ W.cell? ⟨B, 1, none⟩ = some (.int .i64 x1) ∧ W.cell? ⟨B, 2, none⟩ = some (.int .i64 x2) from fun W h => ⟨(h.row _ (.head _)).cell 0, (h.row _ (.head _)).cell 1, (h.row _ (.head _)).cell 2, (h.row _ (.tail _ (.head _))).cell 0, (h.row _ (.tail _ (.head _))).cell 1, (h.row _ (.tail _ (.head _))).cell 2, (h.row _ (.tail _ (.tail _ (.head _)))).cell 0, (h.row _ (.tail _ (.tail _ (.head _)))).cell 1, (h.row _ (.tail _ (.tail _ (.head _)))).cell 2⟩)
  obtain ⟨cc0, cc1, cc2, cc3, cc4, cc5, cc6, cc7, cc8⟩ := HF1.out _ HK.out
  go_enter Tryz.func7, Tryz.ntmps7
  go_wp2_with fail
  refine (H0.out _ (HT.out.ch HK.out.ch)).mono ?_
  rintro e w1 ⟨rfl, hC⟩
  have HK2 := Lib.hid (HK.out.on hC)
  clear cc0 cc1 cc2 cc3 cc4 cc5 cc6 cc7 cc8
  clear hC HK
  have HK := HK2
  clear HK2
  obtain ⟨cc0, cc1, cc2, cc3, cc4, cc5, cc6, cc7, cc8⟩ := HF1.out _ HK.out
  go_wp2_with fail
  refine (H1.out _).mono ?_
  rintro e w2 ⟨rfl, hC⟩
  have HK2 := Lib.hid (HK.out.on hC)
  clear cc0 cc1 cc2 cc3 cc4 cc5 cc6 cc7 cc8
  clear hC HK
  have HK := HK2
  clear HK2
  obtain ⟨cc0, cc1, cc2, cc3, cc4, cc5, cc6, cc7, cc8⟩ := HF1.out _ HK.out
  have hall := fun o : Obj => HF1.out _ (HK.out.other o)
  have dd0 : ∀ o : Obj, (w2.alloc o).cell? ⟨B + 1 + 1, 0, none⟩ = some (.int .i64 z0) := fun o => (hall o).1
  have dd1 : ∀ o : Obj, (w2.alloc o).cell? ⟨B + 1 + 1, 1, none⟩ = some (.int .i64 z1) := fun o => (hall o).2.1
  have dd2 : ∀ o : Obj, (w2.alloc o).cell? ⟨B + 1 + 1, 2, none⟩ = some (.int .i64 z2) := fun o => (hall o).2.2.1
  have dd3 : ∀ o : Obj, (w2.alloc o).cell? ⟨B + 1, 0, none⟩ = some (.int .i64 y0) := fun o => (hall o).2.2.2.1
  have dd4 : ∀ o : Obj, (w2.alloc o).cell? ⟨B + 1, 1, none⟩ = some (.int .i64 y1) := fun o => (hall o).2.2.2.2.1
  have dd5 : ∀ o : Obj, (w2.alloc o).cell? ⟨B + 1, 2, none⟩ = some (.int .i64 y2) := fun o => (hall o).2.2.2.2.2.1
  have dd6 : ∀ o : Obj, (w2.alloc o).cell? ⟨B, 0, none⟩ = some (.int .i64 x0) := fun o => (hall o).2.2.2.2.2.2.1
  have dd7 : ∀ o : Obj, (w2.alloc o).cell? ⟨B, 1, none⟩ = some (.int .i64 x1) := fun o => (hall o).2.2.2.2.2.2.2.1
  have dd8 : ∀ o : Obj, (w2.alloc o).cell? ⟨B, 2, none⟩ = some (.int .i64 x2) := fun o => (hall o).2.2.2.2.2.2.2.2
  clear hall
  go_wp2_with fail
  clear cc0 cc1 cc2 cc3 cc4 cc5 cc6 cc7 cc8 dd0 dd1 dd2 dd3 dd4 dd5 dd6 dd7 dd8
  have HK2 := Lib.hid (HK.out.new #[.bool sa, S na, S da] 26)
  obtain ⟨w3, hW⟩ : ∃ W, w2.alloc (.cells #[.bool sa, S na, S da] 26 (0, 0)) = W := ⟨_, rfl⟩
  rw [hW] at HK2 ⊢
  obtain ⟨A, hA⟩ : ∃ A, w2.heap.size = A := ⟨_, rfl⟩
  rw [hA] at HK2 ⊢
  clear hA hW HK
  have HK := HK2
  clear HK2
  have HF2 := Lib.hid (show ∀ W, Kq w W [(A, 26, [.bool sa, S na, S da]), (B + 1 + 1, 22, [.int .i64 z0, .int .i64 z1, .int .i64 z2]), (B + 1, 22, [.int .i64 y0, .int .i64 y1, .int .i64 y2]), (B, 22, [.int .i64 x0, .int .i64 x1, .int .i64 x2])] → W.cell? ⟨A, 0, none⟩ = some (.bool sa) ∧ W.cell? ⟨A, 1, none⟩ = some (S na) ∧ W.cell? ⟨A, 2, none⟩ = some (S da) ∧ W.cell? ⟨B + 1 + 1, 0, none⟩ = some (.int .i64 z0) ∧ W.cell? ⟨B + 1 + 1, 1, none⟩ = some (.int .i64 z1) ∧ W.cell? ⟨B + 1 + 1, 2, none⟩ = some (.int .i64 z2) ∧ W.cell? ⟨B + 1, 0, none⟩ = some (.int .i64 y0) ∧ W.cell? ⟨B + 1, 1, none⟩ = some (.int .i64 y1) ∧ W.cell? ⟨B + 1, 2, none⟩ = some (.int .i64 y2) ∧ W.cell? ⟨B, 0, none⟩ = some (.int .i64 x0) ∧ W.cell? ⟨B, 1, none⟩ = some (.int .i64 x1) ∧ W.cell? ⟨B, 2, none⟩ = some (.int .i64 x2) from fun W h => ⟨(h.row _ (.head _)).cell 0, (h.row _ (.head _)).cell 1, (h.row _ (.head _)).cell 2, (h.row _ (.tail _ (.head _))).cell 0, (h.row _ (.tail _ (.head _))).cell 1, (h.row _ (.tail _ (.head _))).cell 2, (h.row _ (.tail _ (.tail _ (.head _)))).cell 0, (h.row _ (.tail _ (.tail _ (.head _)))).cell 1, (h.row _ (.tail _ (.tail _ (.head _)))).cell 2, (h.row _ (.tail _ (.tail _ (.tail _ (.head _))))).cell 0, (h.row _ (.tail _ (.tail _ (.tail _ (.head _))))).cell 1, (h.row _ (.tail _ (.tail _ (.tail _ (.head _))))).cell 2⟩)
  obtain ⟨cc0, cc1, cc2, cc3, cc4, cc5, cc6, cc7, cc8, cc9, cc10, cc11⟩ := HF2.out _ HK.out
  refine (H2.out _).mono ?_
  rintro e w4 ⟨rfl, hC⟩
  have HK2 := Lib.hid (HK.out.on hC)
  clear cc0 cc1 cc2 cc3 cc4 cc5 cc6 cc7 cc8 cc9 cc10 cc11
  clear hC HK
  have HK := HK2
  clear HK2
  obtain ⟨cc0, cc1, cc2, cc3, cc4, cc5, cc6, cc7, cc8, cc9, cc10, cc11⟩ := HF2.out _ HK.out
  have hall := fun o : Obj => HF2.out _ (HK.out.other o)
  have dd0 : ∀ o : Obj, (w4.alloc o).cell? ⟨A, 0, none⟩ = some (.bool sa) := fun o => (hall o).1
  have dd1 : ∀ o : Obj, (w4.alloc o).cell? ⟨A, 1, none⟩ = some (S na) := fun o => (hall o).2.1
  have dd2 : ∀ o : Obj, (w4.alloc o).cell? ⟨A, 2, none⟩ = some (S da) := fun o => (hall o).2.2.1
  have dd3 : ∀ o : Obj, (w4.alloc o).cell? ⟨B + 1 + 1, 0, none⟩ = some (.int .i64 z0) := fun o => (hall o).2.2.2.1
  have dd4 : ∀ o : Obj, (w4.alloc o).cell? ⟨B + 1 + 1, 1, none⟩ = some (.int .i64 z1) := fun o => (hall o).2.2.2.2.1
  have dd5 : ∀ o : Obj, (w4.alloc o).cell? ⟨B + 1 + 1, 2, none⟩ = some (.int .i64 z2) := fun o => (hall o).2.2.2.2.2.1
  have dd6 : ∀ o : Obj, (w4.alloc o).cell? ⟨B + 1, 0, none⟩ = some (.int .i64 y0) := fun o => (hall o).2.2.2.2.2.2.1
  have dd7 : ∀ o : Obj, (w4.alloc o).cell? ⟨B + 1, 1, none⟩ = some (.int .i64 y1) := fun o => (hall o).2.2.2.2.2.2.2.1
  have dd8 : ∀ o : Obj, (w4.alloc o).cell? ⟨B + 1, 2, none⟩ = some (.int .i64 y2) := fun o => (hall o).2.2.2.2.2.2.2.2.1
  have dd9 : ∀ o : Obj, (w4.alloc o).cell? ⟨B, 0, none⟩ = some (.int .i64 x0) := fun o => (hall o).2.2.2.2.2.2.2.2.2.1
  have dd10 : ∀ o : Obj, (w4.alloc o).cell? ⟨B, 1, none⟩ = some (.int .i64 x1) := fun o => (hall o).2.2.2.2.2.2.2.2.2.2.1
  have dd11 : ∀ o : Obj, (w4.alloc o).cell? ⟨B, 2, none⟩ = some (.int .i64 x2) := fun o => (hall o).2.2.2.2.2.2.2.2.2.2.2
  clear hall
  go_wp2_with fail
  clear cc0 cc1 cc2 cc3 cc4 cc5 cc6 cc7 cc8 cc9 cc10 cc11 dd0 dd1 dd2 dd3 dd4 dd5 dd6 dd7 dd8 dd9 dd10 dd11
  have HK2 := Lib.hid (HK.out.new #[.bool sa, S nb, S db] 26)
  obtain ⟨w5, hW⟩ : ∃ W, w4.alloc (.cells #[.bool sa, S nb, S db] 26 (0, 0)) = W := ⟨_, rfl⟩
  rw [hW] at HK2 ⊢
  obtain ⟨Bb, hA⟩ : ∃ A, w4.heap.size = A := ⟨_, rfl⟩
  rw [hA] at HK2 ⊢
  clear hA hW HK
  have HK := HK2
  clear HK2
  have HF3 := Lib.hid (show ∀ W, Kq w W [(Bb, 26, [.bool sa, S nb, S db]), (A, 26, [.bool sa, S na, S da]), (B + 1 + 1, 22, [.int .i64 z0, .int .i64 z1, .int .i64 z2]), (B + 1, 22, [.int .i64 y0, .int .i64 y1, .int .i64 y2]), (B, 22, [.int .i64 x0, .int .i64 x1, .int .i64 x2])] → W.cell? ⟨Bb, 0, none⟩ = some (.bool sa) ∧ W.cell? ⟨Bb, 1, none⟩ = some (S nb) ∧ W.cell? ⟨Bb, 2, none⟩ = some (S db) ∧ W.cell? ⟨A, 0, none⟩ = some (.bool sa) ∧ W.cell? ⟨A, 1, none⟩ = some (S na) ∧ W.cell? ⟨A, 2, none⟩ = some (S da) ∧ W.cell? ⟨B + 1 + 1, 0, none⟩ = some (.int .i64 z0) ∧ W.cell? ⟨B + 1 + 1, 1, none⟩ = some (.int .i64 z1) ∧ W.cell? ⟨B + 1 + 1, 2, none⟩ = some (.int .i64 z2) ∧ W.cell? ⟨B + 1, 0, none⟩ = some (.int .i64 y0) ∧ W.cell? ⟨B + 1, 1, none⟩ = some (.int .i64 y1) ∧ W.cell? ⟨B + 1, 2, none⟩ = some (.int .i64 y2) ∧ W.cell? ⟨B, 0, none⟩ = some (.int .i64 x0) ∧ W.cell? ⟨B, 1, none⟩ = some (.int .i64 x1) ∧ W.cell? ⟨B, 2, none⟩ = some (.int .i64 x2) from fun W h => ⟨(h.row _ (.head _)).cell 0, (h.row _ (.head _)).cell 1, (h.row _ (.head _)).cell 2, (h.row _ (.tail _ (.head _))).cell 0, (h.row _ (.tail _ (.head _))).cell 1, (h.row _ (.tail _ (.head _))).cell 2, (h.row _ (.tail _ (.tail _ (.head _)))).cell 0, (h.row _ (.tail _ (.tail _ (.head _)))).cell 1, (h.row _ (.tail _ (.tail _ (.head _)))).cell 2, (h.row _ (.tail _ (.tail _ (.tail _ (.head _))))).cell 0, (h.row _ (.tail _ (.tail _ (.tail _ (.head _))))).cell 1, (h.row _ (.tail _ (.tail _ (.tail _ (.head _))))).cell 2, (h.row _ (.tail _ (.tail _ (.tail _ (.tail _ (.head _)))))).cell 0, (h.row _ (.tail _ (.tail _ (.tail _ (.tail _ (.head _)))))).cell 1, (h.row _ (.tail _ (.tail _ (.tail _ (.tail _ (.head _)))))).cell 2⟩)
  obtain ⟨cc0, cc1, cc2, cc3, cc4, cc5, cc6, cc7, cc8, cc9, cc10, cc11, cc12, cc13, cc14⟩ := HF3.out _ HK.out
  refine (H3.out _).mono ?_
  rintro e w6 ⟨rfl, hC⟩
  have HK2 := Lib.hid (HK.out.on hC)
  clear cc0 cc1 cc2 cc3 cc4 cc5 cc6 cc7 cc8 cc9 cc10 cc11 cc12 cc13 cc14
  clear hC HK
  have HK := HK2
  clear HK2
  obtain ⟨cc0, cc1, cc2, cc3, cc4, cc5, cc6, cc7, cc8, cc9, cc10, cc11, cc12, cc13, cc14⟩ := HF3.out _ HK.out
  have hall := fun o : Obj => HF3.out _ (HK.out.other o)
  have dd0 : ∀ o : Obj, (w6.alloc o).cell? ⟨Bb, 0, none⟩ = some (.bool sa) := fun o => (hall o).1
  have dd1 : ∀ o : Obj, (w6.alloc o).cell? ⟨Bb, 1, none⟩ = some (S nb) := fun o => (hall o).2.1
  have dd2 : ∀ o : Obj, (w6.alloc o).cell? ⟨Bb, 2, none⟩ = some (S db) := fun o => (hall o).2.2.1
  have dd3 : ∀ o : Obj, (w6.alloc o).cell? ⟨A, 0, none⟩ = some (.bool sa) := fun o => (hall o).2.2.2.1
  have dd4 : ∀ o : Obj, (w6.alloc o).cell? ⟨A, 1, none⟩ = some (S na) := fun o => (hall o).2.2.2.2.1
  have dd5 : ∀ o : Obj, (w6.alloc o).cell? ⟨A, 2, none⟩ = some (S da) := fun o => (hall o).2.2.2.2.2.1
  have dd6 : ∀ o : Obj, (w6.alloc o).cell? ⟨B + 1 + 1, 0, none⟩ = some (.int .i64 z0) := fun o => (hall o).2.2.2.2.2.2.1
  have dd7 : ∀ o : Obj, (w6.alloc o).cell? ⟨B + 1 + 1, 1, none⟩ = some (.int .i64 z1) := fun o => (hall o).2.2.2.2.2.2.2.1
  have dd8 : ∀ o : Obj, (w6.alloc o).cell? ⟨B + 1 + 1, 2, none⟩ = some (.int .i64 z2) := fun o => (hall o).2.2.2.2.2.2.2.2.1
  have dd9 : ∀ o : Obj, (w6.alloc o).cell? ⟨B + 1, 0, none⟩ = some (.int .i64 y0) := fun o => (hall o).2.2.2.2.2.2.2.2.2.1
  have dd10 : ∀ o : Obj, (w6.alloc o).cell? ⟨B + 1, 1, none⟩ = some (.int .i64 y1) := fun o => (hall o).2.2.2.2.2.2.2.2.2.2.1
  have dd11 : ∀ o : Obj, (w6.alloc o).cell? ⟨B + 1, 2, none⟩ = some (.int .i64 y2) := fun o => (hall o).2.2.2.2.2.2.2.2.2.2.2.1
  have dd12 : ∀ o : Obj, (w6.alloc o).cell? ⟨B, 0, none⟩ = some (.int .i64 x0) := fun o => (hall o).2.2.2.2.2.2.2.2.2.2.2.2.1
  have dd13 : ∀ o : Obj, (w6.alloc o).cell? ⟨B, 1, none⟩ = some (.int .i64 x1) := fun o => (hall o).2.2.2.2.2.2.2.2.2.2.2.2.2.1
  have dd14 : ∀ o : Obj, (w6.alloc o).cell? ⟨B, 2, none⟩ = some (.int .i64 x2) := fun o => (hall o).2.2.2.2.2.2.2.2.2.2.2.2.2.2
  clear hall
  go_wp2_with fail
  clear cc0 cc1 cc2 cc3 cc4 cc5 cc6 cc7 cc8 cc9 cc10 cc11 cc12 cc13 cc14 dd0 dd1 dd2 dd3 dd4 dd5 dd6 dd7 dd8 dd9 dd10 dd11 dd12 dd13 dd14
  have HK2 := Lib.hid (HK.out.new #[.bool sc, S nc, S dc] 26)
  obtain ⟨w7, hW⟩ : ∃ W, w6.alloc (.cells #[.bool sc, S nc, S dc] 26 (0, 0)) = W := ⟨_, rfl⟩
  rw [hW] at HK2 ⊢
  obtain ⟨Cc, hA⟩ : ∃ A, w6.heap.size = A := ⟨_, rfl⟩
  rw [hA] at HK2 ⊢
  clear hA hW HK
  have HK := HK2
  clear HK2
  have HF4 := Lib.hid (show ∀ W, Kq w W [(Cc, 26, [.bool sc, S nc, S dc]), (Bb, 26, [.bool sa, S nb, S db]), (A, 26, [.bool sa, S na, S da]), (B + 1 + 1, 22, [.int .i64 z0, .int .i64 z1, .int .i64 z2]), (B + 1, 22, [.int .i64 y0, .int .i64 y1, .int .i64 y2]), (B, 22, [.int .i64 x0, .int .i64 x1, .int .i64 x2])] → W.cell? ⟨Cc, 0, none⟩ = some (.bool sc) ∧ W.cell? ⟨Cc, 1, none⟩ = some (S nc) ∧ W.cell? ⟨Cc, 2, none⟩ = some (S dc) ∧ W.cell? ⟨Bb, 0, none⟩ = some (.bool sa) ∧ W.cell? ⟨Bb, 1, none⟩ = some (S nb) ∧ W.cell? ⟨Bb, 2, none⟩ = some (S db) ∧ W.cell? ⟨A, 0, none⟩ = some (.bool sa) ∧ W.cell? ⟨A, 1, none⟩ = some (S na) ∧ W.cell? ⟨A, 2, none⟩ = some (S da) ∧ W.cell? ⟨B + 1 + 1, 0, none⟩ = some (.int .i64 z0) ∧ W.cell? ⟨B + 1 + 1, 1, none⟩ = some (.int .i64 z1) ∧ W.cell? ⟨B + 1 + 1, 2, none⟩ = some (.int .i64 z2) ∧ W.cell? ⟨B + 1, 0, none⟩ = some (.int .i64 y0) ∧ W.cell? ⟨B + 1, 1, none⟩ = some (.int .i64 y1) ∧ W.cell? ⟨B + 1, 2, none⟩ = some (.int .i64 y2) ∧ W.cell? ⟨B, 0, none⟩ = some (.int .i64 x0) ∧ W.cell? ⟨B, 1, none⟩ = some (.int .i64 x1) ∧ W.cell? ⟨B, 2, none⟩ = some (.int .i64 x2) from fun W h => ⟨(h.row _ (.head _)).cell 0, (h.row _ (.head _)).cell 1, (h.row _ (.head _)).cell 2, (h.row _ (.tail _ (.head _))).cell 0, (h.row _ (.tail _ (.head _))).cell 1, (h.row _ (.tail _ (.head _))).cell 2, (h.row _ (.tail _ (.tail _ (.head _)))).cell 0, (h.row _ (.tail _ (.tail _ (.head _)))).cell 1, (h.row _ (.tail _ (.tail _ (.head _)))).cell 2, (h.row _ (.tail _ (.tail _ (.tail _ (.head _))))).cell 0, (h.row _ (.tail _ (.tail _ (.tail _ (.head _))))).cell 1, (h.row _ (.tail _ (.tail _ (.tail _ (.head _))))).cell 2, (h.row _ (.tail _ (.tail _ (.tail _ (.tail _ (.head _)))))).cell 0, (h.row _ (.tail _ (.tail _ (.tail _ (.tail _ (.head _)))))).cell 1, (h.row _ (.tail _ (.tail _ (.tail _ (.tail _ (.head _)))))).cell 2, (h.row _ (.tail _ (.tail _ (.tail _ (.tail _ (.tail _ (.head _))))))).cell 0, (h.row _ (.tail _ (.tail _ (.tail _ (.tail _ (.tail _ (.head _))))))).cell 1, (h.row _ (.tail _ (.tail _ (.tail _ (.tail _ (.tail _ (.head _))))))).cell 2⟩)
  obtain ⟨cc0, cc1, cc2, cc3, cc4, cc5, cc6, cc7, cc8, cc9, cc10, cc11, cc12, cc13, cc14, cc15, cc16, cc17⟩ := HF4.out _ HK.out
  refine (G1.out _ (HT.out.ch HK.out.ch)).mono ?_
  rintro e w8 ⟨rfl, hC⟩
  have HK2 := Lib.hid (HK.out.on hC)
  clear cc0 cc1 cc2 cc3 cc4 cc5 cc6 cc7 cc8 cc9 cc10 cc11 cc12 cc13 cc14 cc15 cc16 cc17
  clear hC HK
  have HK := HK2
  clear HK2
  obtain ⟨cc0, cc1, cc2, cc3, cc4, cc5, cc6, cc7, cc8, cc9, cc10, cc11, cc12, cc13, cc14, cc15, cc16, cc17⟩ := HF4.out _ HK.out
  go_wp2_with fail
  clear cc0 cc1 cc2 cc3 cc4 cc5 cc6 cc7 cc8 cc9 cc10 cc11 cc12 cc13 cc14 cc15 cc16 cc17
  have HKD := Lib.hid HK.out.drew
  clear HK
  have HK := HKD
  clear HKD
  refine wp_region_held_drew (S := fun w' => w'.cell? ⟨Cc, 0, none⟩ = some (.bool sc) ∧ w'.cell? ⟨Cc, 1, none⟩ = some (S nc) ∧ w'.cell? ⟨Cc, 2, none⟩ = some (S dc) ∧ w'.cell? ⟨Bb, 0, none⟩ = some (.bool sa) ∧ w'.cell? ⟨Bb, 1, none⟩ = some (S nb) ∧ w'.cell? ⟨Bb, 2, none⟩ = some (S db) ∧ w'.cell? ⟨A, 0, none⟩ = some (.bool sa) ∧ w'.cell? ⟨A, 1, none⟩ = some (S na) ∧ w'.cell? ⟨A, 2, none⟩ = some (S da) ∧ w'.cell? ⟨B + 1 + 1, 0, none⟩ = some (.int .i64 z0) ∧ w'.cell? ⟨B + 1 + 1, 1, none⟩ = some (.int .i64 z1) ∧ w'.cell? ⟨B + 1 + 1, 2, none⟩ = some (.int .i64 z2) ∧ w'.cell? ⟨B + 1, 0, none⟩ = some (.int .i64 y0) ∧ w'.cell? ⟨B + 1, 1, none⟩ = some (.int .i64 y1) ∧ w'.cell? ⟨B + 1, 2, none⟩ = some (.int .i64 y2) ∧ w'.cell? ⟨B, 0, none⟩ = some (.int .i64 x0) ∧ w'.cell? ⟨B, 1, none⟩ = some (.int .i64 x1) ∧ w'.cell? ⟨B, 2, none⟩ = some (.int .i64 x2)) (by kernel_rfl) ?_ (fun hHeld => ?_)
  · (try dsimp only); exact HF4.out _ HK.out
  refine tk 0 (v := ?_) hHeld ?_ ?_
  rotate_left 1
  · intro _ hw; (try dsimp only at hw); go_simp; try with_reducible rfl
  (try simp only [Act.put, List.setIfInBounds_toArray, List.set_cons_zero, List.set_cons_succ])
  refine tk 1 (v := ?_) hHeld ?_ ?_
  rotate_left 1
  · intro _ hw; (try dsimp only at hw); go_simp; try with_reducible rfl
  (try simp only [Act.put, List.setIfInBounds_toArray, List.set_cons_zero, List.set_cons_succ])
  refine tk 2 (v := ?_) hHeld ?_ ?_
  rotate_left 1
  · intro _ hw; (try dsimp only at hw); go_simp; try with_reducible rfl
  (try simp only [Act.put, List.setIfInBounds_toArray, List.set_cons_zero, List.set_cons_succ])
  refine wpAnyH_ready (rs := [3]) (by kernel_rfl) (by simp) ?_
  refine AllReadyH.cons (at_list rfl) (fun K hK => ?_) AllReadyH.nil
  go_simp
  go_at_call 20; with_reducible refine (G2.out _ (HT.out.ch HK.out.ch)).mono ?_; rintro e wq ⟨rfl, hCq⟩; have HK2 := Lib.hid (HK.out.on hCq); clear hCq HK; have HK := HK2; clear HK2
  clear hHeld
  first | (refine hK.out _ _ ?_ (fun hHeld => ?_)) | (go_wp2_with fail; refine hK.out _ _ ?_ (fun hHeld => ?_))
  · (try dsimp only); exact HF4.out _ HK.out
  clear hK K
  (try simp only [Act.put, List.setIfInBounds_toArray, List.set_cons_zero, List.set_cons_succ])
  refine tk 4 (v := ?_) hHeld ?_ ?_
  rotate_left 1
  · intro _ hw; (try dsimp only at hw); go_simp; try with_reducible rfl
  (try simp only [Act.put, List.setIfInBounds_toArray, List.set_cons_zero, List.set_cons_succ])
  refine tk 5 (v := ?_) hHeld ?_ ?_
  rotate_left 1
  · intro _ hw; (try dsimp only at hw); go_simp; try with_reducible rfl
  (try simp only [Act.put, List.setIfInBounds_toArray, List.set_cons_zero, List.set_cons_succ])
  refine tk 6 (v := ?_) hHeld ?_ ?_
  rotate_left 1
  · intro _ hw; (try dsimp only at hw); go_simp; try with_reducible rfl
  (try simp only [Act.put, List.setIfInBounds_toArray, List.set_cons_zero, List.set_cons_succ])
  refine tk 7 (v := ?_) hHeld ?_ ?_
  rotate_left 1
  · intro _ hw; (try dsimp only at hw); go_simp; try with_reducible rfl
  (try simp only [Act.put, List.setIfInBounds_toArray, List.set_cons_zero, List.set_cons_succ])
  refine tk 8 (v := ?_) hHeld ?_ ?_
  rotate_left 1
  · intro _ hw; (try dsimp only at hw); go_simp; try with_reducible rfl
  (try simp only [Act.put, List.setIfInBounds_toArray, List.set_cons_zero, List.set_cons_succ])
  refine tk 9 (v := ?_) hHeld ?_ ?_
  rotate_left 1
  · intro _ hw; (try dsimp only at hw); go_simp; try with_reducible rfl
  (try simp only [Act.put, List.setIfInBounds_toArray, List.set_cons_zero, List.set_cons_succ])
  refine tk 10 (v := ?_) hHeld ?_ ?_
  rotate_left 1
  · intro _ hw; (try dsimp only at hw); go_simp; try with_reducible rfl
  (try simp only [Act.put, List.setIfInBounds_toArray, List.set_cons_zero, List.set_cons_succ])
  refine tk 11 (v := ?_) hHeld ?_ ?_
  rotate_left 1
  · intro _ hw; (try dsimp only at hw); go_simp; try with_reducible rfl
  (try simp only [Act.put, List.setIfInBounds_toArray, List.set_cons_zero, List.set_cons_succ])
  refine tk 12 (v := ?_) hHeld ?_ ?_
  rotate_left 1
  · intro _ hw; (try dsimp only at hw); go_simp; try with_reducible rfl
  (try simp only [Act.put, List.setIfInBounds_toArray, List.set_cons_zero, List.set_cons_succ])
  refine tk 13 (v := ?_) hHeld ?_ ?_
  rotate_left 1
  · intro _ hw; (try dsimp only at hw); go_simp; try with_reducible rfl
  (try simp only [Act.put, List.setIfInBounds_toArray, List.set_cons_zero, List.set_cons_succ])
  refine tk 14 (v := ?_) hHeld ?_ ?_
  rotate_left 1
  · intro _ hw; (try dsimp only at hw); go_simp; try with_reducible rfl
  (try simp only [Act.put, List.setIfInBounds_toArray, List.set_cons_zero, List.set_cons_succ])
  refine tk 15 (v := ?_) hHeld ?_ ?_
  rotate_left 1
  · intro _ hw; (try dsimp only at hw); go_simp; try with_reducible rfl
  (try simp only [Act.put, List.setIfInBounds_toArray, List.set_cons_zero, List.set_cons_succ])
  refine tk 16 (v := ?_) hHeld ?_ ?_
  rotate_left 1
  · intro _ hw; (try dsimp only at hw); go_simp; try with_reducible rfl
  (try simp only [Act.put, List.setIfInBounds_toArray, List.set_cons_zero, List.set_cons_succ])
  refine tk 17 (v := ?_) hHeld ?_ ?_
  rotate_left 1
  · intro _ hw; (try dsimp only at hw); go_simp; try with_reducible rfl
  (try simp only [Act.put, List.setIfInBounds_toArray, List.set_cons_zero, List.set_cons_succ])
  refine sk 18 hHeld ?_
  (try simp only [Act.put, List.setIfInBounds_toArray, List.set_cons_zero, List.set_cons_succ])
  refine sk 19 hHeld ?_
  (try simp only [Act.put, List.setIfInBounds_toArray, List.set_cons_zero, List.set_cons_succ])
  refine sk 20 hHeld ?_
  (try simp only [Act.put, List.setIfInBounds_toArray, List.set_cons_zero, List.set_cons_succ])
  refine sk 21 hHeld ?_
  (try simp only [Act.put, List.setIfInBounds_toArray, List.set_cons_zero, List.set_cons_succ])
  refine tk 22 (v := ?_) hHeld ?_ ?_
  rotate_left 1
  · intro _ hw; (try dsimp only at hw); go_simp; try with_reducible rfl
  (try simp only [Act.put, List.setIfInBounds_toArray, List.set_cons_zero, List.set_cons_succ])
  refine tk 23 (v := ?_) hHeld ?_ ?_
  rotate_left 1
  · intro _ hw; (try dsimp only at hw); go_simp; try with_reducible rfl
  (try simp only [Act.put, List.setIfInBounds_toArray, List.set_cons_zero, List.set_cons_succ])
  refine sk 24 hHeld ?_
  (try simp only [Act.put, List.setIfInBounds_toArray, List.set_cons_zero, List.set_cons_succ])
  refine sk 25 hHeld ?_
  (try simp only [Act.put, List.setIfInBounds_toArray, List.set_cons_zero, List.set_cons_succ])
  refine sk 26 hHeld ?_
  (try simp only [Act.put, List.setIfInBounds_toArray, List.set_cons_zero, List.set_cons_succ])
  refine sk 27 hHeld ?_
  (try simp only [Act.put, List.setIfInBounds_toArray, List.set_cons_zero, List.set_cons_succ])
  refine tk 28 (v := ?_) hHeld ?_ ?_
  rotate_left 1
  · intro _ hw; (try dsimp only at hw); go_simp; try with_reducible rfl
  (try simp only [Act.put, List.setIfInBounds_toArray, List.set_cons_zero, List.set_cons_succ])
  refine tk 29 (v := ?_) hHeld ?_ ?_
  rotate_left 1
  · intro _ hw; (try dsimp only at hw); go_simp; try with_reducible rfl
  (try simp only [Act.put, List.setIfInBounds_toArray, List.set_cons_zero, List.set_cons_succ])
  refine tk 30 (v := ?_) hHeld ?_ ?_
  rotate_left 1
  · intro _ hw; (try dsimp only at hw); go_simp; try with_reducible rfl
  (try simp only [Act.put, List.setIfInBounds_toArray, List.set_cons_zero, List.set_cons_succ])
  refine tk 31 (v := ?_) hHeld ?_ ?_
  rotate_left 1
  · intro _ hw; (try dsimp only at hw); go_simp; try with_reducible rfl
  (try simp only [Act.put, List.setIfInBounds_toArray, List.set_cons_zero, List.set_cons_succ])
  refine tk 32 (v := ?_) hHeld ?_ ?_
  rotate_left 1
  · intro _ hw; (try dsimp only at hw); go_simp; try with_reducible rfl
  (try simp only [Act.put, List.setIfInBounds_toArray, List.set_cons_zero, List.set_cons_succ])
  refine tk 34 (v := ?_) hHeld ?_ ?_
  rotate_left 1
  · intro _ hw; (try dsimp only at hw); go_simp; try with_reducible rfl
  (try simp only [Act.put, List.setIfInBounds_toArray, List.set_cons_zero, List.set_cons_succ])
  refine tk 35 (v := ?_) hHeld ?_ ?_
  rotate_left 1
  · intro _ hw; (try dsimp only at hw); go_simp; try with_reducible rfl
  (try simp only [Act.put, List.setIfInBounds_toArray, List.set_cons_zero, List.set_cons_succ])
  refine tk 38 (v := ?_) hHeld ?_ ?_
  rotate_left 1
  · intro _ hw; (try dsimp only at hw); go_simp; try with_reducible rfl
  (try simp only [Act.put, List.setIfInBounds_toArray, List.set_cons_zero, List.set_cons_succ])
  refine wpAnyH_ready (rs := [33]) (by kernel_rfl) (by simp) ?_
  refine AllReadyH.cons (at_list rfl) (fun K hK => ?_) AllReadyH.nil
  go_simp
  go_at_call 14; with_reducible refine (G5.out _ (HT.out.ch HK.out.ch)).mono ?_; rintro e wq ⟨rfl, hCq⟩; have HK2 := Lib.hid (HK.out.on hCq); clear hCq HK; have HK := HK2; clear HK2
  clear hHeld
  first | (refine hK.out _ _ ?_ (fun hHeld => ?_)) | (go_wp2_with fail; refine hK.out _ _ ?_ (fun hHeld => ?_))
  · (try dsimp only); exact HF4.out _ HK.out
  clear hK K
  (try simp only [Act.put, List.setIfInBounds_toArray, List.set_cons_zero, List.set_cons_succ])
  refine wpAnyH_ready (rs := [36]) (by kernel_rfl) (by simp) ?_
  refine AllReadyH.cons (at_list rfl) (fun K hK => ?_) AllReadyH.nil
  go_simp
  go_at_call 14; with_reducible refine (G6.out _ (HT.out.ch HK.out.ch)).mono ?_; rintro e wq ⟨rfl, hCq⟩; have HK2 := Lib.hid (HK.out.on hCq); clear hCq HK; have HK := HK2; clear HK2
  clear hHeld
  first | (refine hK.out _ _ ?_ (fun hHeld => ?_)) | (go_wp2_with fail; refine hK.out _ _ ?_ (fun hHeld => ?_))
  · (try dsimp only); exact HF4.out _ HK.out
  clear hK K
  (try simp only [Act.put, List.setIfInBounds_toArray, List.set_cons_zero, List.set_cons_succ])
  refine wpAnyH_ready (rs := [37]) (by kernel_rfl) (by simp) ?_
  refine AllReadyH.cons (at_list rfl) (fun K hK => ?_) AllReadyH.nil
  go_simp
  go_at_call 20; with_reducible refine (G7.out _ (HT.out.ch HK.out.ch)).mono ?_; rintro e wq ⟨rfl, hCq⟩; have HK2 := Lib.hid (HK.out.on hCq); clear hCq HK; have HK := HK2; clear HK2
  clear hHeld
  first | (refine hK.out _ _ ?_ (fun hHeld => ?_)) | (go_wp2_with fail; refine hK.out _ _ ?_ (fun hHeld => ?_))
  · (try dsimp only); exact HF4.out _ HK.out
  clear hK K
  (try simp only [Act.put, List.setIfInBounds_toArray, List.set_cons_zero, List.set_cons_succ])
  refine tk 39 (v := ?_) hHeld ?_ ?_
  rotate_left 1
  · intro _ hw; (try dsimp only at hw); go_simp; try with_reducible rfl
  (try simp only [Act.put, List.setIfInBounds_toArray, List.set_cons_zero, List.set_cons_succ])
  refine tk 40 (v := ?_) hHeld ?_ ?_
  rotate_left 1
  · intro _ hw; (try dsimp only at hw); go_simp; try with_reducible rfl
  (try simp only [Act.put, List.setIfInBounds_toArray, List.set_cons_zero, List.set_cons_succ])
  refine wpAnyH_ready (rs := [41]) (by kernel_rfl) (by simp) ?_
  refine AllReadyH.cons (at_list rfl) (fun K hK => ?_) AllReadyH.nil
  go_simp
  clear hHeld
  refine hK.out _ _ ?_ (fun hHeld => ?_)
  · (try dsimp only); exact HF4.out _ HK.out
  clear hK K
  (try simp only [Act.put, List.setIfInBounds_toArray, List.set_cons_zero, List.set_cons_succ])
  refine wpAnyH_done (by kernel_rfl) ?_ _
  clear hHeld
  obtain ⟨cc0, cc1, cc2, cc3, cc4, cc5, cc6, cc7, cc8, cc9, cc10, cc11, cc12, cc13, cc14, cc15, cc16, cc17⟩ := HF4.out _ HK.out
  go_wp2_with fail
  have k40 := K40.out
  have k41 := K41.out
  clear cc0 cc1 cc2 cc3 cc4 cc5 cc6 cc7 cc8 cc9 cc10 cc11 cc12 cc13 cc14 cc15 cc16 cc17
  have HKD := Lib.hid HK.out.drew
  clear HK
  have HK := HKD
  clear HKD
  go_region_held3 (fun w' => w'.cell? ⟨Cc, 0, none⟩ = some (.bool sc) ∧ w'.cell? ⟨Cc, 1, none⟩ = some (S nc) ∧ w'.cell? ⟨Cc, 2, none⟩ = some (S dc) ∧ w'.cell? ⟨Bb, 0, none⟩ = some (.bool sa) ∧ w'.cell? ⟨Bb, 1, none⟩ = some (S nb) ∧ w'.cell? ⟨Bb, 2, none⟩ = some (S db) ∧ w'.cell? ⟨A, 0, none⟩ = some (.bool sa) ∧ w'.cell? ⟨A, 1, none⟩ = some (S na) ∧ w'.cell? ⟨A, 2, none⟩ = some (S da) ∧ w'.cell? ⟨B + 1 + 1, 0, none⟩ = some (.int .i64 z0) ∧ w'.cell? ⟨B + 1 + 1, 1, none⟩ = some (.int .i64 z1) ∧ w'.cell? ⟨B + 1 + 1, 2, none⟩ = some (.int .i64 z2) ∧ w'.cell? ⟨B + 1, 0, none⟩ = some (.int .i64 y0) ∧ w'.cell? ⟨B + 1, 1, none⟩ = some (.int .i64 y1) ∧ w'.cell? ⟨B + 1, 2, none⟩ = some (.int .i64 y2) ∧ w'.cell? ⟨B, 0, none⟩ = some (.int .i64 x0) ∧ w'.cell? ⟨B, 1, none⟩ = some (.int .i64 x1) ∧ w'.cell? ⟨B, 2, none⟩ = some (.int .i64 x2))
    (first
      | (with_reducible exact HF4.out _ HK.out)
      | go_keep)
    (first
      | (go_at_call 20; with_reducible refine (G10.out _ (HT.out.ch HK.out.ch)).mono ?_; rintro e wq ⟨rfl, hCq⟩; have HK2 := Lib.hid (HK.out.on hCq); clear hCq HK; have HK := HK2; clear HK2)
      | (go_at_call 20; with_reducible refine (G15.out _ (HT.out.ch HK.out.ch)).mono ?_; rintro e wq ⟨rfl, hCq⟩; have HK2 := Lib.hid (HK.out.on hCq); clear hCq HK; have HK := HK2; clear HK2)
      | (go_at_call 18; with_reducible refine (G8.out _ (HT.out.ch HK.out.ch)).mono ?_; rintro e wq ⟨rfl, hCq⟩; have HK2 := Lib.hid (HK.out.on hCq); clear hCq HK; have HK := HK2; clear HK2)
      | (go_at_call 18; with_reducible refine (G9.out _ (HT.out.ch HK.out.ch)).mono ?_; rintro e wq ⟨rfl, hCq⟩; have HK2 := Lib.hid (HK.out.on hCq); clear hCq HK; have HK := HK2; clear HK2)
      | (go_at_call 22; with_reducible refine (G11.out _ (HT.out.ch HK.out.ch)).mono ?_; rintro e wq ⟨rfl, hCq⟩; have HK2 := Lib.hid (HK.out.on hCq); clear hCq HK; have HK := HK2; clear HK2)
      | (go_at_call 22; with_reducible refine (G13.out _ (HT.out.ch HK.out.ch)).mono ?_; rintro e wq ⟨rfl, hCq⟩; have HK2 := Lib.hid (HK.out.on hCq); clear hCq HK; have HK := HK2; clear HK2)
      | (go_at_call 22; with_reducible refine (G14.out _ (HT.out.ch HK.out.ch)).mono ?_; rintro e wq ⟨rfl, hCq⟩; have HK2 := Lib.hid (HK.out.on hCq); clear hCq HK; have HK := HK2; clear HK2)
      | (go_at_call 16; with_reducible refine (G12.out _ (HT.out.ch HK.out.ch)).mono ?_; rintro e wq ⟨rfl, hCq⟩; have HK2 := Lib.hid (HK.out.on hCq); clear hCq HK; have HK := HK2; clear HK2)
      | (go_at_call 36; with_reducible refine (HZ.out _).mono ?_; rintro e wq ⟨rfl, hCq⟩; have HK2 := Lib.hid (HK.out.on hCq); clear hCq HK; have HK := HK2; clear HK2))
  obtain ⟨cc0, cc1, cc2, cc3, cc4, cc5, cc6, cc7, cc8, cc9, cc10, cc11, cc12, cc13, cc14, cc15, cc16, cc17⟩ := HF4.out _ HK.out
  go_wp2_with fail
  go_ret
  exact ⟨rfl, HK.out.ch⟩
set_option maxRecDepth 100000 in
set_option maxHeartbeats 3200000 in
theorem ow_less_d {x0 x1 x2 y0 y1 y2 z0 z1 z2 : Int} {sa sc sp su sm sv soo : Bool} {na da db nc dc np dp nu du nm dm nv dv noo doo : List UInt8} {k2 k3 k4 k5 : Int} (w : World) (ht : Tb w) (t1 : (da == db) = false) (wk1 : IntKind.i64.wrap (-1) = -1) (wk2 : IntKind.i64.wrap 1 = 1) (wk3 : IntKind.i64.wrap 0 = 0) (wr7 : IntKind.i64.wrap (-k4) = -k4) (k40 : -1 ≤ k4) (k41 : k4 ≤ 1)
    (hH0 : AnsT 10 #[] (.bool true)) (hH1 : Ans 11 #[.agg #[.int .i64 x0, .int .i64 x1, .int .i64 x2]] (Tv (sa, na, da))) (hH2 : Ans 11 #[.agg #[.int .i64 y0, .int .i64 y1, .int .i64 y2]] (Tv (sa, na, db))) (hH3 : Ans 11 #[.agg #[.int .i64 z0, .int .i64 z1, .int .i64 z2]] (Tv (sc, nc, dc))) (hHZ : Ans 36 #[.int .i64 0] (Rv false [] [1])) (hG1 : AnsT 20 #[Rv sa na da, Rv sa na db] (.int .i64 (-1))) (hG2 : AnsT 20 #[Rv sa na db, Rv sa na da] (.int .i64 1)) (hG3 : AnsT 20 #[Rv sa na db, Rv sc nc dc] (.int .i64 k2)) (hG4 : AnsT 20 #[Rv sa na da, Rv sc nc dc] (.int .i64 k3)) (hG5 : AnsT 14 #[Rv sa na da, Rv sc nc dc] (Rv sp np dp)) (hG6 : AnsT 14 #[Rv sa na db, Rv sc nc dc] (Rv su nu du)) (hG7 : AnsT 20 #[Rv sp np dp, Rv su nu du] (.int .i64 (-1))) (hG8 : AnsT 18 #[Rv sa na da, Rv sc nc dc] (Rv sm nm dm)) (hG9 : AnsT 18 #[Rv sa na db, Rv sc nc dc] (Rv sv nv dv)) (hG10 : AnsT 20 #[Rv sm nm dm, Rv sv nv dv] (.int .i64 (-k4))) (hG11 : AnsT 22 #[Rv sc nc dc] (.int .i64 k4)) (hG12 : AnsT 16 #[Rv sa na da, Rv sa na db] (Rv soo noo doo)) (hG13 : AnsT 22 #[Rv soo noo doo] (.int .i64 (-1))) (hG14 : AnsT 22 #[Rv sa na da] (.int .i64 k5)) (hG15 : AnsT 20 #[Rv sa na da, Rv false [] [1]] (.int .i64 k5)) :
    Calls Tryz.prog 7 #[.agg #[.int .i64 x0, .int .i64 x1, .int .i64 x2], .agg #[.int .i64 y0, .int .i64 y1, .int .i64 y2], .agg #[.int .i64 z0, .int .i64 z1, .int .i64 z2]] w (Yld w (.bool true)) := by
  have H0 := Lib.hid hH0
  have H1 := Lib.hid hH1
  have H2 := Lib.hid hH2
  have H3 := Lib.hid hH3
  have HZ := Lib.hid hHZ
  have G1 := Lib.hid hG1
  have G2 := Lib.hid hG2
  have G3 := Lib.hid hG3
  have G4 := Lib.hid hG4
  have G5 := Lib.hid hG5
  have G6 := Lib.hid hG6
  have G7 := Lib.hid hG7
  have G8 := Lib.hid hG8
  have G9 := Lib.hid hG9
  have G10 := Lib.hid hG10
  have G11 := Lib.hid hG11
  have G12 := Lib.hid hG12
  have G13 := Lib.hid hG13
  have G14 := Lib.hid hG14
  have G15 := Lib.hid hG15
  have HT := Lib.hid ht
  have WK := And.intro wk1 (And.intro wk2 wk3)
  clear WK
  have WK := t1
  clear WK
  have WK := wr7
  clear WK
  have K40 := Lib.hid k40
  have K41 := Lib.hid k41
  clear ht k40 k41 hH0 hH1 hH2 hH3 hHZ hG1 hG2 hG3 hG4 hG5 hG6 hG7 hG8 hG9 hG10 hG11 hG12 hG13 hG14 hG15
  have HK := Lib.hid ((((Kq.nil w).new #[.int .i64 x0, .int .i64 x1, .int .i64 x2] 22).new #[.int .i64 y0, .int .i64 y1, .int .i64 y2] 22).new #[.int .i64 z0, .int .i64 z1, .int .i64 z2] 22)
  rw [World.size_alloc, World.size_alloc] at HK
  obtain ⟨B, hB⟩ : ∃ B, w.heap.size = B := ⟨_, rfl⟩
  rw [hB] at HK
  have HF1 := Lib.hid (show ∀ W, Kq w W [(B + 1 + 1, 22, [.int .i64 z0, .int .i64 z1, .int .i64 z2]), (B + 1, 22, [.int .i64 y0, .int .i64 y1, .int .i64 y2]), (B, 22, [.int .i64 x0, .int .i64 x1, .int .i64 x2])] → W.cell? ⟨B + 1 + 1, 0, none⟩ = some (.int .i64 z0) ∧ W.cell? ⟨B + 1 + 1, 1, none⟩ = some (.int .i64 z1) ∧ W.cell? ⟨B + 1 + 1, 2, none⟩ = some (.int .i64 z2) ∧ W.cell? ⟨B + 1, 0, none⟩ = some (.int .i64 y0) ∧ W.cell? ⟨B + 1, 1, none⟩ = some (.int .i64 y1) ∧ W.cell? ⟨B + 1, 2, none⟩ = some (.int .i64 y2) ∧ W.cell? ⟨B, 0, none⟩ = some (.int .i64 x0) ∧ W.cell? ⟨B, 1, none⟩ = some (.int .i64 x1) ∧ W.cell? ⟨B, 2, none⟩ = some (.int .i64 x2) from fun W h => ⟨(h.row _ (.head _)).cell 0, (h.row _ (.head _)).cell 1, (h.row _ (.head _)).cell 2, (h.row _ (.tail _ (.head _))).cell 0, (h.row _ (.tail _ (.head _))).cell 1, (h.row _ (.tail _ (.head _))).cell 2, (h.row _ (.tail _ (.tail _ (.head _)))).cell 0, (h.row _ (.tail _ (.tail _ (.head _)))).cell 1, (h.row _ (.tail _ (.tail _ (.head _)))).cell 2⟩)
  obtain ⟨cc0, cc1, cc2, cc3, cc4, cc5, cc6, cc7, cc8⟩ := HF1.out _ HK.out
  go_enter Tryz.func7, Tryz.ntmps7
  go_wp2_with fail
  refine (H0.out _ (HT.out.ch HK.out.ch)).mono ?_
  rintro e w1 ⟨rfl, hC⟩
  have HK2 := Lib.hid (HK.out.on hC)
  clear cc0 cc1 cc2 cc3 cc4 cc5 cc6 cc7 cc8
  clear hC HK
  have HK := HK2
  clear HK2
  obtain ⟨cc0, cc1, cc2, cc3, cc4, cc5, cc6, cc7, cc8⟩ := HF1.out _ HK.out
  go_wp2_with fail
  refine (H1.out _).mono ?_
  rintro e w2 ⟨rfl, hC⟩
  have HK2 := Lib.hid (HK.out.on hC)
  clear cc0 cc1 cc2 cc3 cc4 cc5 cc6 cc7 cc8
  clear hC HK
  have HK := HK2
  clear HK2
  obtain ⟨cc0, cc1, cc2, cc3, cc4, cc5, cc6, cc7, cc8⟩ := HF1.out _ HK.out
  have hall := fun o : Obj => HF1.out _ (HK.out.other o)
  have dd0 : ∀ o : Obj, (w2.alloc o).cell? ⟨B + 1 + 1, 0, none⟩ = some (.int .i64 z0) := fun o => (hall o).1
  have dd1 : ∀ o : Obj, (w2.alloc o).cell? ⟨B + 1 + 1, 1, none⟩ = some (.int .i64 z1) := fun o => (hall o).2.1
  have dd2 : ∀ o : Obj, (w2.alloc o).cell? ⟨B + 1 + 1, 2, none⟩ = some (.int .i64 z2) := fun o => (hall o).2.2.1
  have dd3 : ∀ o : Obj, (w2.alloc o).cell? ⟨B + 1, 0, none⟩ = some (.int .i64 y0) := fun o => (hall o).2.2.2.1
  have dd4 : ∀ o : Obj, (w2.alloc o).cell? ⟨B + 1, 1, none⟩ = some (.int .i64 y1) := fun o => (hall o).2.2.2.2.1
  have dd5 : ∀ o : Obj, (w2.alloc o).cell? ⟨B + 1, 2, none⟩ = some (.int .i64 y2) := fun o => (hall o).2.2.2.2.2.1
  have dd6 : ∀ o : Obj, (w2.alloc o).cell? ⟨B, 0, none⟩ = some (.int .i64 x0) := fun o => (hall o).2.2.2.2.2.2.1
  have dd7 : ∀ o : Obj, (w2.alloc o).cell? ⟨B, 1, none⟩ = some (.int .i64 x1) := fun o => (hall o).2.2.2.2.2.2.2.1
  have dd8 : ∀ o : Obj, (w2.alloc o).cell? ⟨B, 2, none⟩ = some (.int .i64 x2) := fun o => (hall o).2.2.2.2.2.2.2.2
  clear hall
  go_wp2_with fail
  clear cc0 cc1 cc2 cc3 cc4 cc5 cc6 cc7 cc8 dd0 dd1 dd2 dd3 dd4 dd5 dd6 dd7 dd8
  have HK2 := Lib.hid (HK.out.new #[.bool sa, S na, S da] 26)
  obtain ⟨w3, hW⟩ : ∃ W, w2.alloc (.cells #[.bool sa, S na, S da] 26 (0, 0)) = W := ⟨_, rfl⟩
  rw [hW] at HK2 ⊢
  obtain ⟨A, hA⟩ : ∃ A, w2.heap.size = A := ⟨_, rfl⟩
  rw [hA] at HK2 ⊢
  clear hA hW HK
  have HK := HK2
  clear HK2
  have HF2 := Lib.hid (show ∀ W, Kq w W [(A, 26, [.bool sa, S na, S da]), (B + 1 + 1, 22, [.int .i64 z0, .int .i64 z1, .int .i64 z2]), (B + 1, 22, [.int .i64 y0, .int .i64 y1, .int .i64 y2]), (B, 22, [.int .i64 x0, .int .i64 x1, .int .i64 x2])] → W.cell? ⟨A, 0, none⟩ = some (.bool sa) ∧ W.cell? ⟨A, 1, none⟩ = some (S na) ∧ W.cell? ⟨A, 2, none⟩ = some (S da) ∧ W.cell? ⟨B + 1 + 1, 0, none⟩ = some (.int .i64 z0) ∧ W.cell? ⟨B + 1 + 1, 1, none⟩ = some (.int .i64 z1) ∧ W.cell? ⟨B + 1 + 1, 2, none⟩ = some (.int .i64 z2) ∧ W.cell? ⟨B + 1, 0, none⟩ = some (.int .i64 y0) ∧ W.cell? ⟨B + 1, 1, none⟩ = some (.int .i64 y1) ∧ W.cell? ⟨B + 1, 2, none⟩ = some (.int .i64 y2) ∧ W.cell? ⟨B, 0, none⟩ = some (.int .i64 x0) ∧ W.cell? ⟨B, 1, none⟩ = some (.int .i64 x1) ∧ W.cell? ⟨B, 2, none⟩ = some (.int .i64 x2) from fun W h => ⟨(h.row _ (.head _)).cell 0, (h.row _ (.head _)).cell 1, (h.row _ (.head _)).cell 2, (h.row _ (.tail _ (.head _))).cell 0, (h.row _ (.tail _ (.head _))).cell 1, (h.row _ (.tail _ (.head _))).cell 2, (h.row _ (.tail _ (.tail _ (.head _)))).cell 0, (h.row _ (.tail _ (.tail _ (.head _)))).cell 1, (h.row _ (.tail _ (.tail _ (.head _)))).cell 2, (h.row _ (.tail _ (.tail _ (.tail _ (.head _))))).cell 0, (h.row _ (.tail _ (.tail _ (.tail _ (.head _))))).cell 1, (h.row _ (.tail _ (.tail _ (.tail _ (.head _))))).cell 2⟩)
  obtain ⟨cc0, cc1, cc2, cc3, cc4, cc5, cc6, cc7, cc8, cc9, cc10, cc11⟩ := HF2.out _ HK.out
  refine (H2.out _).mono ?_
  rintro e w4 ⟨rfl, hC⟩
  have HK2 := Lib.hid (HK.out.on hC)
  clear cc0 cc1 cc2 cc3 cc4 cc5 cc6 cc7 cc8 cc9 cc10 cc11
  clear hC HK
  have HK := HK2
  clear HK2
  obtain ⟨cc0, cc1, cc2, cc3, cc4, cc5, cc6, cc7, cc8, cc9, cc10, cc11⟩ := HF2.out _ HK.out
  have hall := fun o : Obj => HF2.out _ (HK.out.other o)
  have dd0 : ∀ o : Obj, (w4.alloc o).cell? ⟨A, 0, none⟩ = some (.bool sa) := fun o => (hall o).1
  have dd1 : ∀ o : Obj, (w4.alloc o).cell? ⟨A, 1, none⟩ = some (S na) := fun o => (hall o).2.1
  have dd2 : ∀ o : Obj, (w4.alloc o).cell? ⟨A, 2, none⟩ = some (S da) := fun o => (hall o).2.2.1
  have dd3 : ∀ o : Obj, (w4.alloc o).cell? ⟨B + 1 + 1, 0, none⟩ = some (.int .i64 z0) := fun o => (hall o).2.2.2.1
  have dd4 : ∀ o : Obj, (w4.alloc o).cell? ⟨B + 1 + 1, 1, none⟩ = some (.int .i64 z1) := fun o => (hall o).2.2.2.2.1
  have dd5 : ∀ o : Obj, (w4.alloc o).cell? ⟨B + 1 + 1, 2, none⟩ = some (.int .i64 z2) := fun o => (hall o).2.2.2.2.2.1
  have dd6 : ∀ o : Obj, (w4.alloc o).cell? ⟨B + 1, 0, none⟩ = some (.int .i64 y0) := fun o => (hall o).2.2.2.2.2.2.1
  have dd7 : ∀ o : Obj, (w4.alloc o).cell? ⟨B + 1, 1, none⟩ = some (.int .i64 y1) := fun o => (hall o).2.2.2.2.2.2.2.1
  have dd8 : ∀ o : Obj, (w4.alloc o).cell? ⟨B + 1, 2, none⟩ = some (.int .i64 y2) := fun o => (hall o).2.2.2.2.2.2.2.2.1
  have dd9 : ∀ o : Obj, (w4.alloc o).cell? ⟨B, 0, none⟩ = some (.int .i64 x0) := fun o => (hall o).2.2.2.2.2.2.2.2.2.1
  have dd10 : ∀ o : Obj, (w4.alloc o).cell? ⟨B, 1, none⟩ = some (.int .i64 x1) := fun o => (hall o).2.2.2.2.2.2.2.2.2.2.1
  have dd11 : ∀ o : Obj, (w4.alloc o).cell? ⟨B, 2, none⟩ = some (.int .i64 x2) := fun o => (hall o).2.2.2.2.2.2.2.2.2.2.2
  clear hall
  go_wp2_with fail
  clear cc0 cc1 cc2 cc3 cc4 cc5 cc6 cc7 cc8 cc9 cc10 cc11 dd0 dd1 dd2 dd3 dd4 dd5 dd6 dd7 dd8 dd9 dd10 dd11
  have HK2 := Lib.hid (HK.out.new #[.bool sa, S na, S db] 26)
  obtain ⟨w5, hW⟩ : ∃ W, w4.alloc (.cells #[.bool sa, S na, S db] 26 (0, 0)) = W := ⟨_, rfl⟩
  rw [hW] at HK2 ⊢
  obtain ⟨Bb, hA⟩ : ∃ A, w4.heap.size = A := ⟨_, rfl⟩
  rw [hA] at HK2 ⊢
  clear hA hW HK
  have HK := HK2
  clear HK2
  have HF3 := Lib.hid (show ∀ W, Kq w W [(Bb, 26, [.bool sa, S na, S db]), (A, 26, [.bool sa, S na, S da]), (B + 1 + 1, 22, [.int .i64 z0, .int .i64 z1, .int .i64 z2]), (B + 1, 22, [.int .i64 y0, .int .i64 y1, .int .i64 y2]), (B, 22, [.int .i64 x0, .int .i64 x1, .int .i64 x2])] → W.cell? ⟨Bb, 0, none⟩ = some (.bool sa) ∧ W.cell? ⟨Bb, 1, none⟩ = some (S na) ∧ W.cell? ⟨Bb, 2, none⟩ = some (S db) ∧ W.cell? ⟨A, 0, none⟩ = some (.bool sa) ∧ W.cell? ⟨A, 1, none⟩ = some (S na) ∧ W.cell? ⟨A, 2, none⟩ = some (S da) ∧ W.cell? ⟨B + 1 + 1, 0, none⟩ = some (.int .i64 z0) ∧ W.cell? ⟨B + 1 + 1, 1, none⟩ = some (.int .i64 z1) ∧ W.cell? ⟨B + 1 + 1, 2, none⟩ = some (.int .i64 z2) ∧ W.cell? ⟨B + 1, 0, none⟩ = some (.int .i64 y0) ∧ W.cell? ⟨B + 1, 1, none⟩ = some (.int .i64 y1) ∧ W.cell? ⟨B + 1, 2, none⟩ = some (.int .i64 y2) ∧ W.cell? ⟨B, 0, none⟩ = some (.int .i64 x0) ∧ W.cell? ⟨B, 1, none⟩ = some (.int .i64 x1) ∧ W.cell? ⟨B, 2, none⟩ = some (.int .i64 x2) from fun W h => ⟨(h.row _ (.head _)).cell 0, (h.row _ (.head _)).cell 1, (h.row _ (.head _)).cell 2, (h.row _ (.tail _ (.head _))).cell 0, (h.row _ (.tail _ (.head _))).cell 1, (h.row _ (.tail _ (.head _))).cell 2, (h.row _ (.tail _ (.tail _ (.head _)))).cell 0, (h.row _ (.tail _ (.tail _ (.head _)))).cell 1, (h.row _ (.tail _ (.tail _ (.head _)))).cell 2, (h.row _ (.tail _ (.tail _ (.tail _ (.head _))))).cell 0, (h.row _ (.tail _ (.tail _ (.tail _ (.head _))))).cell 1, (h.row _ (.tail _ (.tail _ (.tail _ (.head _))))).cell 2, (h.row _ (.tail _ (.tail _ (.tail _ (.tail _ (.head _)))))).cell 0, (h.row _ (.tail _ (.tail _ (.tail _ (.tail _ (.head _)))))).cell 1, (h.row _ (.tail _ (.tail _ (.tail _ (.tail _ (.head _)))))).cell 2⟩)
  obtain ⟨cc0, cc1, cc2, cc3, cc4, cc5, cc6, cc7, cc8, cc9, cc10, cc11, cc12, cc13, cc14⟩ := HF3.out _ HK.out
  refine (H3.out _).mono ?_
  rintro e w6 ⟨rfl, hC⟩
  have HK2 := Lib.hid (HK.out.on hC)
  clear cc0 cc1 cc2 cc3 cc4 cc5 cc6 cc7 cc8 cc9 cc10 cc11 cc12 cc13 cc14
  clear hC HK
  have HK := HK2
  clear HK2
  obtain ⟨cc0, cc1, cc2, cc3, cc4, cc5, cc6, cc7, cc8, cc9, cc10, cc11, cc12, cc13, cc14⟩ := HF3.out _ HK.out
  have hall := fun o : Obj => HF3.out _ (HK.out.other o)
  have dd0 : ∀ o : Obj, (w6.alloc o).cell? ⟨Bb, 0, none⟩ = some (.bool sa) := fun o => (hall o).1
  have dd1 : ∀ o : Obj, (w6.alloc o).cell? ⟨Bb, 1, none⟩ = some (S na) := fun o => (hall o).2.1
  have dd2 : ∀ o : Obj, (w6.alloc o).cell? ⟨Bb, 2, none⟩ = some (S db) := fun o => (hall o).2.2.1
  have dd3 : ∀ o : Obj, (w6.alloc o).cell? ⟨A, 0, none⟩ = some (.bool sa) := fun o => (hall o).2.2.2.1
  have dd4 : ∀ o : Obj, (w6.alloc o).cell? ⟨A, 1, none⟩ = some (S na) := fun o => (hall o).2.2.2.2.1
  have dd5 : ∀ o : Obj, (w6.alloc o).cell? ⟨A, 2, none⟩ = some (S da) := fun o => (hall o).2.2.2.2.2.1
  have dd6 : ∀ o : Obj, (w6.alloc o).cell? ⟨B + 1 + 1, 0, none⟩ = some (.int .i64 z0) := fun o => (hall o).2.2.2.2.2.2.1
  have dd7 : ∀ o : Obj, (w6.alloc o).cell? ⟨B + 1 + 1, 1, none⟩ = some (.int .i64 z1) := fun o => (hall o).2.2.2.2.2.2.2.1
  have dd8 : ∀ o : Obj, (w6.alloc o).cell? ⟨B + 1 + 1, 2, none⟩ = some (.int .i64 z2) := fun o => (hall o).2.2.2.2.2.2.2.2.1
  have dd9 : ∀ o : Obj, (w6.alloc o).cell? ⟨B + 1, 0, none⟩ = some (.int .i64 y0) := fun o => (hall o).2.2.2.2.2.2.2.2.2.1
  have dd10 : ∀ o : Obj, (w6.alloc o).cell? ⟨B + 1, 1, none⟩ = some (.int .i64 y1) := fun o => (hall o).2.2.2.2.2.2.2.2.2.2.1
  have dd11 : ∀ o : Obj, (w6.alloc o).cell? ⟨B + 1, 2, none⟩ = some (.int .i64 y2) := fun o => (hall o).2.2.2.2.2.2.2.2.2.2.2.1
  have dd12 : ∀ o : Obj, (w6.alloc o).cell? ⟨B, 0, none⟩ = some (.int .i64 x0) := fun o => (hall o).2.2.2.2.2.2.2.2.2.2.2.2.1
  have dd13 : ∀ o : Obj, (w6.alloc o).cell? ⟨B, 1, none⟩ = some (.int .i64 x1) := fun o => (hall o).2.2.2.2.2.2.2.2.2.2.2.2.2.1
  have dd14 : ∀ o : Obj, (w6.alloc o).cell? ⟨B, 2, none⟩ = some (.int .i64 x2) := fun o => (hall o).2.2.2.2.2.2.2.2.2.2.2.2.2.2
  clear hall
  go_wp2_with fail
  clear cc0 cc1 cc2 cc3 cc4 cc5 cc6 cc7 cc8 cc9 cc10 cc11 cc12 cc13 cc14 dd0 dd1 dd2 dd3 dd4 dd5 dd6 dd7 dd8 dd9 dd10 dd11 dd12 dd13 dd14
  have HK2 := Lib.hid (HK.out.new #[.bool sc, S nc, S dc] 26)
  obtain ⟨w7, hW⟩ : ∃ W, w6.alloc (.cells #[.bool sc, S nc, S dc] 26 (0, 0)) = W := ⟨_, rfl⟩
  rw [hW] at HK2 ⊢
  obtain ⟨Cc, hA⟩ : ∃ A, w6.heap.size = A := ⟨_, rfl⟩
  rw [hA] at HK2 ⊢
  clear hA hW HK
  have HK := HK2
  clear HK2
  have HF4 := Lib.hid (show ∀ W, Kq w W [(Cc, 26, [.bool sc, S nc, S dc]), (Bb, 26, [.bool sa, S na, S db]), (A, 26, [.bool sa, S na, S da]), (B + 1 + 1, 22, [.int .i64 z0, .int .i64 z1, .int .i64 z2]), (B + 1, 22, [.int .i64 y0, .int .i64 y1, .int .i64 y2]), (B, 22, [.int .i64 x0, .int .i64 x1, .int .i64 x2])] → W.cell? ⟨Cc, 0, none⟩ = some (.bool sc) ∧ W.cell? ⟨Cc, 1, none⟩ = some (S nc) ∧ W.cell? ⟨Cc, 2, none⟩ = some (S dc) ∧ W.cell? ⟨Bb, 0, none⟩ = some (.bool sa) ∧ W.cell? ⟨Bb, 1, none⟩ = some (S na) ∧ W.cell? ⟨Bb, 2, none⟩ = some (S db) ∧ W.cell? ⟨A, 0, none⟩ = some (.bool sa) ∧ W.cell? ⟨A, 1, none⟩ = some (S na) ∧ W.cell? ⟨A, 2, none⟩ = some (S da) ∧ W.cell? ⟨B + 1 + 1, 0, none⟩ = some (.int .i64 z0) ∧ W.cell? ⟨B + 1 + 1, 1, none⟩ = some (.int .i64 z1) ∧ W.cell? ⟨B + 1 + 1, 2, none⟩ = some (.int .i64 z2) ∧ W.cell? ⟨B + 1, 0, none⟩ = some (.int .i64 y0) ∧ W.cell? ⟨B + 1, 1, none⟩ = some (.int .i64 y1) ∧ W.cell? ⟨B + 1, 2, none⟩ = some (.int .i64 y2) ∧ W.cell? ⟨B, 0, none⟩ = some (.int .i64 x0) ∧ W.cell? ⟨B, 1, none⟩ = some (.int .i64 x1) ∧ W.cell? ⟨B, 2, none⟩ = some (.int .i64 x2) from fun W h => ⟨(h.row _ (.head _)).cell 0, (h.row _ (.head _)).cell 1, (h.row _ (.head _)).cell 2, (h.row _ (.tail _ (.head _))).cell 0, (h.row _ (.tail _ (.head _))).cell 1, (h.row _ (.tail _ (.head _))).cell 2, (h.row _ (.tail _ (.tail _ (.head _)))).cell 0, (h.row _ (.tail _ (.tail _ (.head _)))).cell 1, (h.row _ (.tail _ (.tail _ (.head _)))).cell 2, (h.row _ (.tail _ (.tail _ (.tail _ (.head _))))).cell 0, (h.row _ (.tail _ (.tail _ (.tail _ (.head _))))).cell 1, (h.row _ (.tail _ (.tail _ (.tail _ (.head _))))).cell 2, (h.row _ (.tail _ (.tail _ (.tail _ (.tail _ (.head _)))))).cell 0, (h.row _ (.tail _ (.tail _ (.tail _ (.tail _ (.head _)))))).cell 1, (h.row _ (.tail _ (.tail _ (.tail _ (.tail _ (.head _)))))).cell 2, (h.row _ (.tail _ (.tail _ (.tail _ (.tail _ (.tail _ (.head _))))))).cell 0, (h.row _ (.tail _ (.tail _ (.tail _ (.tail _ (.tail _ (.head _))))))).cell 1, (h.row _ (.tail _ (.tail _ (.tail _ (.tail _ (.tail _ (.head _))))))).cell 2⟩)
  obtain ⟨cc0, cc1, cc2, cc3, cc4, cc5, cc6, cc7, cc8, cc9, cc10, cc11, cc12, cc13, cc14, cc15, cc16, cc17⟩ := HF4.out _ HK.out
  refine (G1.out _ (HT.out.ch HK.out.ch)).mono ?_
  rintro e w8 ⟨rfl, hC⟩
  have HK2 := Lib.hid (HK.out.on hC)
  clear cc0 cc1 cc2 cc3 cc4 cc5 cc6 cc7 cc8 cc9 cc10 cc11 cc12 cc13 cc14 cc15 cc16 cc17
  clear hC HK
  have HK := HK2
  clear HK2
  obtain ⟨cc0, cc1, cc2, cc3, cc4, cc5, cc6, cc7, cc8, cc9, cc10, cc11, cc12, cc13, cc14, cc15, cc16, cc17⟩ := HF4.out _ HK.out
  go_wp2_with fail
  clear cc0 cc1 cc2 cc3 cc4 cc5 cc6 cc7 cc8 cc9 cc10 cc11 cc12 cc13 cc14 cc15 cc16 cc17
  have HKD := Lib.hid HK.out.drew
  clear HK
  have HK := HKD
  clear HKD
  refine wp_region_held_drew (S := fun w' => w'.cell? ⟨Cc, 0, none⟩ = some (.bool sc) ∧ w'.cell? ⟨Cc, 1, none⟩ = some (S nc) ∧ w'.cell? ⟨Cc, 2, none⟩ = some (S dc) ∧ w'.cell? ⟨Bb, 0, none⟩ = some (.bool sa) ∧ w'.cell? ⟨Bb, 1, none⟩ = some (S na) ∧ w'.cell? ⟨Bb, 2, none⟩ = some (S db) ∧ w'.cell? ⟨A, 0, none⟩ = some (.bool sa) ∧ w'.cell? ⟨A, 1, none⟩ = some (S na) ∧ w'.cell? ⟨A, 2, none⟩ = some (S da) ∧ w'.cell? ⟨B + 1 + 1, 0, none⟩ = some (.int .i64 z0) ∧ w'.cell? ⟨B + 1 + 1, 1, none⟩ = some (.int .i64 z1) ∧ w'.cell? ⟨B + 1 + 1, 2, none⟩ = some (.int .i64 z2) ∧ w'.cell? ⟨B + 1, 0, none⟩ = some (.int .i64 y0) ∧ w'.cell? ⟨B + 1, 1, none⟩ = some (.int .i64 y1) ∧ w'.cell? ⟨B + 1, 2, none⟩ = some (.int .i64 y2) ∧ w'.cell? ⟨B, 0, none⟩ = some (.int .i64 x0) ∧ w'.cell? ⟨B, 1, none⟩ = some (.int .i64 x1) ∧ w'.cell? ⟨B, 2, none⟩ = some (.int .i64 x2)) (by kernel_rfl) ?_ (fun hHeld => ?_)
  · (try dsimp only); exact HF4.out _ HK.out
  refine tk 0 (v := ?_) hHeld ?_ ?_
  rotate_left 1
  · intro _ hw; (try dsimp only at hw); go_simp; try with_reducible rfl
  (try simp only [Act.put, List.setIfInBounds_toArray, List.set_cons_zero, List.set_cons_succ])
  refine tk 1 (v := ?_) hHeld ?_ ?_
  rotate_left 1
  · intro _ hw; (try dsimp only at hw); go_simp; try with_reducible rfl
  (try simp only [Act.put, List.setIfInBounds_toArray, List.set_cons_zero, List.set_cons_succ])
  refine tk 2 (v := ?_) hHeld ?_ ?_
  rotate_left 1
  · intro _ hw; (try dsimp only at hw); go_simp; try with_reducible rfl
  (try simp only [Act.put, List.setIfInBounds_toArray, List.set_cons_zero, List.set_cons_succ])
  refine wpAnyH_ready (rs := [3]) (by kernel_rfl) (by simp) ?_
  refine AllReadyH.cons (at_list rfl) (fun K hK => ?_) AllReadyH.nil
  go_simp
  go_at_call 20; with_reducible refine (G2.out _ (HT.out.ch HK.out.ch)).mono ?_; rintro e wq ⟨rfl, hCq⟩; have HK2 := Lib.hid (HK.out.on hCq); clear hCq HK; have HK := HK2; clear HK2
  clear hHeld
  first | (refine hK.out _ _ ?_ (fun hHeld => ?_)) | (go_wp2_with fail; refine hK.out _ _ ?_ (fun hHeld => ?_))
  · (try dsimp only); exact HF4.out _ HK.out
  clear hK K
  (try simp only [Act.put, List.setIfInBounds_toArray, List.set_cons_zero, List.set_cons_succ])
  refine tk 4 (v := ?_) hHeld ?_ ?_
  rotate_left 1
  · intro _ hw; (try dsimp only at hw); go_simp; try with_reducible rfl
  (try simp only [Act.put, List.setIfInBounds_toArray, List.set_cons_zero, List.set_cons_succ])
  refine tk 5 (v := ?_) hHeld ?_ ?_
  rotate_left 1
  · intro _ hw; (try dsimp only at hw); go_simp; try with_reducible rfl
  (try simp only [Act.put, List.setIfInBounds_toArray, List.set_cons_zero, List.set_cons_succ])
  refine tk 6 (v := ?_) hHeld ?_ ?_
  rotate_left 1
  · intro _ hw; (try dsimp only at hw); go_simp; try with_reducible rfl
  (try simp only [Act.put, List.setIfInBounds_toArray, List.set_cons_zero, List.set_cons_succ])
  refine tk 7 (v := ?_) hHeld ?_ ?_
  rotate_left 1
  · intro _ hw; (try dsimp only at hw); go_simp; try with_reducible rfl
  (try simp only [Act.put, List.setIfInBounds_toArray, List.set_cons_zero, List.set_cons_succ])
  refine tk 8 (v := ?_) hHeld ?_ ?_
  rotate_left 1
  · intro _ hw; (try dsimp only at hw); go_simp; try with_reducible rfl
  (try simp only [Act.put, List.setIfInBounds_toArray, List.set_cons_zero, List.set_cons_succ])
  refine tk 9 (v := ?_) hHeld ?_ ?_
  rotate_left 1
  · intro _ hw; (try dsimp only at hw); go_simp; try with_reducible rfl
  (try simp only [Act.put, List.setIfInBounds_toArray, List.set_cons_zero, List.set_cons_succ])
  refine tk 10 (v := ?_) hHeld ?_ ?_
  rotate_left 1
  · intro _ hw; (try dsimp only at hw); go_simp; try with_reducible rfl
  (try simp only [Act.put, List.setIfInBounds_toArray, List.set_cons_zero, List.set_cons_succ])
  refine tk 11 (v := ?_) hHeld ?_ ?_
  rotate_left 1
  · intro _ hw; (try dsimp only at hw); go_simp; try with_reducible rfl
  (try simp only [Act.put, List.setIfInBounds_toArray, List.set_cons_zero, List.set_cons_succ])
  refine tk 12 (v := ?_) hHeld ?_ ?_
  rotate_left 1
  · intro _ hw; (try dsimp only at hw); go_simp; try with_reducible rfl
  (try simp only [Act.put, List.setIfInBounds_toArray, List.set_cons_zero, List.set_cons_succ])
  refine tk 13 (v := ?_) hHeld ?_ ?_
  rotate_left 1
  · intro _ hw; (try dsimp only at hw); go_simp; try with_reducible rfl
  (try simp only [Act.put, List.setIfInBounds_toArray, List.set_cons_zero, List.set_cons_succ])
  refine tk 14 (v := ?_) hHeld ?_ ?_
  rotate_left 1
  · intro _ hw; (try dsimp only at hw); go_simp; try with_reducible rfl
  (try simp only [Act.put, List.setIfInBounds_toArray, List.set_cons_zero, List.set_cons_succ])
  refine tk 15 (v := ?_) hHeld ?_ ?_
  rotate_left 1
  · intro _ hw; (try dsimp only at hw); go_simp; try with_reducible rfl
  (try simp only [Act.put, List.setIfInBounds_toArray, List.set_cons_zero, List.set_cons_succ])
  refine tk 16 (v := ?_) hHeld ?_ ?_
  rotate_left 1
  · intro _ hw; (try dsimp only at hw); go_simp; try with_reducible rfl
  (try simp only [Act.put, List.setIfInBounds_toArray, List.set_cons_zero, List.set_cons_succ])
  refine tk 17 (v := ?_) hHeld ?_ ?_
  rotate_left 1
  · intro _ hw; (try dsimp only at hw); go_simp; try with_reducible rfl
  (try simp only [Act.put, List.setIfInBounds_toArray, List.set_cons_zero, List.set_cons_succ])
  refine sk 18 hHeld ?_
  (try simp only [Act.put, List.setIfInBounds_toArray, List.set_cons_zero, List.set_cons_succ])
  refine sk 19 hHeld ?_
  (try simp only [Act.put, List.setIfInBounds_toArray, List.set_cons_zero, List.set_cons_succ])
  refine sk 20 hHeld ?_
  (try simp only [Act.put, List.setIfInBounds_toArray, List.set_cons_zero, List.set_cons_succ])
  refine sk 21 hHeld ?_
  (try simp only [Act.put, List.setIfInBounds_toArray, List.set_cons_zero, List.set_cons_succ])
  refine tk 22 (v := ?_) hHeld ?_ ?_
  rotate_left 1
  · intro _ hw; (try dsimp only at hw); go_simp; try with_reducible rfl
  (try simp only [Act.put, List.setIfInBounds_toArray, List.set_cons_zero, List.set_cons_succ])
  refine tk 23 (v := ?_) hHeld ?_ ?_
  rotate_left 1
  · intro _ hw; (try dsimp only at hw); go_simp; try with_reducible rfl
  (try simp only [Act.put, List.setIfInBounds_toArray, List.set_cons_zero, List.set_cons_succ])
  refine sk 24 hHeld ?_
  (try simp only [Act.put, List.setIfInBounds_toArray, List.set_cons_zero, List.set_cons_succ])
  refine sk 25 hHeld ?_
  (try simp only [Act.put, List.setIfInBounds_toArray, List.set_cons_zero, List.set_cons_succ])
  refine sk 26 hHeld ?_
  (try simp only [Act.put, List.setIfInBounds_toArray, List.set_cons_zero, List.set_cons_succ])
  refine sk 27 hHeld ?_
  (try simp only [Act.put, List.setIfInBounds_toArray, List.set_cons_zero, List.set_cons_succ])
  refine tk 28 (v := ?_) hHeld ?_ ?_
  rotate_left 1
  · intro _ hw; (try dsimp only at hw); go_simp; try with_reducible rfl
  (try simp only [Act.put, List.setIfInBounds_toArray, List.set_cons_zero, List.set_cons_succ])
  refine tk 29 (v := ?_) hHeld ?_ ?_
  rotate_left 1
  · intro _ hw; (try dsimp only at hw); go_simp; try with_reducible rfl
  (try simp only [Act.put, List.setIfInBounds_toArray, List.set_cons_zero, List.set_cons_succ])
  refine tk 30 (v := ?_) hHeld ?_ ?_
  rotate_left 1
  · intro _ hw; (try dsimp only at hw); go_simp; try with_reducible rfl
  (try simp only [Act.put, List.setIfInBounds_toArray, List.set_cons_zero, List.set_cons_succ])
  refine tk 31 (v := ?_) hHeld ?_ ?_
  rotate_left 1
  · intro _ hw; (try dsimp only at hw); go_simp; try with_reducible rfl
  (try simp only [Act.put, List.setIfInBounds_toArray, List.set_cons_zero, List.set_cons_succ])
  refine tk 32 (v := ?_) hHeld ?_ ?_
  rotate_left 1
  · intro _ hw; (try dsimp only at hw); go_simp; try with_reducible rfl
  (try simp only [Act.put, List.setIfInBounds_toArray, List.set_cons_zero, List.set_cons_succ])
  refine tk 34 (v := ?_) hHeld ?_ ?_
  rotate_left 1
  · intro _ hw; (try dsimp only at hw); go_simp; try with_reducible rfl
  (try simp only [Act.put, List.setIfInBounds_toArray, List.set_cons_zero, List.set_cons_succ])
  refine tk 35 (v := ?_) hHeld ?_ ?_
  rotate_left 1
  · intro _ hw; (try dsimp only at hw); go_simp; try with_reducible rfl
  (try simp only [Act.put, List.setIfInBounds_toArray, List.set_cons_zero, List.set_cons_succ])
  refine tk 38 (v := ?_) hHeld ?_ ?_
  rotate_left 1
  · intro _ hw; (try dsimp only at hw); go_simp; try with_reducible rfl
  (try simp only [Act.put, List.setIfInBounds_toArray, List.set_cons_zero, List.set_cons_succ])
  refine wpAnyH_ready (rs := [33]) (by kernel_rfl) (by simp) ?_
  refine AllReadyH.cons (at_list rfl) (fun K hK => ?_) AllReadyH.nil
  go_simp
  go_at_call 14; with_reducible refine (G5.out _ (HT.out.ch HK.out.ch)).mono ?_; rintro e wq ⟨rfl, hCq⟩; have HK2 := Lib.hid (HK.out.on hCq); clear hCq HK; have HK := HK2; clear HK2
  clear hHeld
  first | (refine hK.out _ _ ?_ (fun hHeld => ?_)) | (go_wp2_with fail; refine hK.out _ _ ?_ (fun hHeld => ?_))
  · (try dsimp only); exact HF4.out _ HK.out
  clear hK K
  (try simp only [Act.put, List.setIfInBounds_toArray, List.set_cons_zero, List.set_cons_succ])
  refine wpAnyH_ready (rs := [36]) (by kernel_rfl) (by simp) ?_
  refine AllReadyH.cons (at_list rfl) (fun K hK => ?_) AllReadyH.nil
  go_simp
  go_at_call 14; with_reducible refine (G6.out _ (HT.out.ch HK.out.ch)).mono ?_; rintro e wq ⟨rfl, hCq⟩; have HK2 := Lib.hid (HK.out.on hCq); clear hCq HK; have HK := HK2; clear HK2
  clear hHeld
  first | (refine hK.out _ _ ?_ (fun hHeld => ?_)) | (go_wp2_with fail; refine hK.out _ _ ?_ (fun hHeld => ?_))
  · (try dsimp only); exact HF4.out _ HK.out
  clear hK K
  (try simp only [Act.put, List.setIfInBounds_toArray, List.set_cons_zero, List.set_cons_succ])
  refine wpAnyH_ready (rs := [37]) (by kernel_rfl) (by simp) ?_
  refine AllReadyH.cons (at_list rfl) (fun K hK => ?_) AllReadyH.nil
  go_simp
  go_at_call 20; with_reducible refine (G7.out _ (HT.out.ch HK.out.ch)).mono ?_; rintro e wq ⟨rfl, hCq⟩; have HK2 := Lib.hid (HK.out.on hCq); clear hCq HK; have HK := HK2; clear HK2
  clear hHeld
  first | (refine hK.out _ _ ?_ (fun hHeld => ?_)) | (go_wp2_with fail; refine hK.out _ _ ?_ (fun hHeld => ?_))
  · (try dsimp only); exact HF4.out _ HK.out
  clear hK K
  (try simp only [Act.put, List.setIfInBounds_toArray, List.set_cons_zero, List.set_cons_succ])
  refine tk 39 (v := ?_) hHeld ?_ ?_
  rotate_left 1
  · intro _ hw; (try dsimp only at hw); go_simp; try with_reducible rfl
  (try simp only [Act.put, List.setIfInBounds_toArray, List.set_cons_zero, List.set_cons_succ])
  refine tk 40 (v := ?_) hHeld ?_ ?_
  rotate_left 1
  · intro _ hw; (try dsimp only at hw); go_simp; try with_reducible rfl
  (try simp only [Act.put, List.setIfInBounds_toArray, List.set_cons_zero, List.set_cons_succ])
  refine wpAnyH_ready (rs := [41]) (by kernel_rfl) (by simp) ?_
  refine AllReadyH.cons (at_list rfl) (fun K hK => ?_) AllReadyH.nil
  go_simp
  clear hHeld
  refine hK.out _ _ ?_ (fun hHeld => ?_)
  · (try dsimp only); exact HF4.out _ HK.out
  clear hK K
  (try simp only [Act.put, List.setIfInBounds_toArray, List.set_cons_zero, List.set_cons_succ])
  refine wpAnyH_done (by kernel_rfl) ?_ _
  clear hHeld
  obtain ⟨cc0, cc1, cc2, cc3, cc4, cc5, cc6, cc7, cc8, cc9, cc10, cc11, cc12, cc13, cc14, cc15, cc16, cc17⟩ := HF4.out _ HK.out
  go_wp2_with fail
  have k40 := K40.out
  have k41 := K41.out
  clear cc0 cc1 cc2 cc3 cc4 cc5 cc6 cc7 cc8 cc9 cc10 cc11 cc12 cc13 cc14 cc15 cc16 cc17
  have HKD := Lib.hid HK.out.drew
  clear HK
  have HK := HKD
  clear HKD
  go_region_held3 (fun w' => w'.cell? ⟨Cc, 0, none⟩ = some (.bool sc) ∧ w'.cell? ⟨Cc, 1, none⟩ = some (S nc) ∧ w'.cell? ⟨Cc, 2, none⟩ = some (S dc) ∧ w'.cell? ⟨Bb, 0, none⟩ = some (.bool sa) ∧ w'.cell? ⟨Bb, 1, none⟩ = some (S na) ∧ w'.cell? ⟨Bb, 2, none⟩ = some (S db) ∧ w'.cell? ⟨A, 0, none⟩ = some (.bool sa) ∧ w'.cell? ⟨A, 1, none⟩ = some (S na) ∧ w'.cell? ⟨A, 2, none⟩ = some (S da) ∧ w'.cell? ⟨B + 1 + 1, 0, none⟩ = some (.int .i64 z0) ∧ w'.cell? ⟨B + 1 + 1, 1, none⟩ = some (.int .i64 z1) ∧ w'.cell? ⟨B + 1 + 1, 2, none⟩ = some (.int .i64 z2) ∧ w'.cell? ⟨B + 1, 0, none⟩ = some (.int .i64 y0) ∧ w'.cell? ⟨B + 1, 1, none⟩ = some (.int .i64 y1) ∧ w'.cell? ⟨B + 1, 2, none⟩ = some (.int .i64 y2) ∧ w'.cell? ⟨B, 0, none⟩ = some (.int .i64 x0) ∧ w'.cell? ⟨B, 1, none⟩ = some (.int .i64 x1) ∧ w'.cell? ⟨B, 2, none⟩ = some (.int .i64 x2))
    (first
      | (with_reducible exact HF4.out _ HK.out)
      | go_keep)
    (first
      | (go_at_call 20; with_reducible refine (G10.out _ (HT.out.ch HK.out.ch)).mono ?_; rintro e wq ⟨rfl, hCq⟩; have HK2 := Lib.hid (HK.out.on hCq); clear hCq HK; have HK := HK2; clear HK2)
      | (go_at_call 20; with_reducible refine (G15.out _ (HT.out.ch HK.out.ch)).mono ?_; rintro e wq ⟨rfl, hCq⟩; have HK2 := Lib.hid (HK.out.on hCq); clear hCq HK; have HK := HK2; clear HK2)
      | (go_at_call 18; with_reducible refine (G8.out _ (HT.out.ch HK.out.ch)).mono ?_; rintro e wq ⟨rfl, hCq⟩; have HK2 := Lib.hid (HK.out.on hCq); clear hCq HK; have HK := HK2; clear HK2)
      | (go_at_call 18; with_reducible refine (G9.out _ (HT.out.ch HK.out.ch)).mono ?_; rintro e wq ⟨rfl, hCq⟩; have HK2 := Lib.hid (HK.out.on hCq); clear hCq HK; have HK := HK2; clear HK2)
      | (go_at_call 22; with_reducible refine (G11.out _ (HT.out.ch HK.out.ch)).mono ?_; rintro e wq ⟨rfl, hCq⟩; have HK2 := Lib.hid (HK.out.on hCq); clear hCq HK; have HK := HK2; clear HK2)
      | (go_at_call 22; with_reducible refine (G13.out _ (HT.out.ch HK.out.ch)).mono ?_; rintro e wq ⟨rfl, hCq⟩; have HK2 := Lib.hid (HK.out.on hCq); clear hCq HK; have HK := HK2; clear HK2)
      | (go_at_call 22; with_reducible refine (G14.out _ (HT.out.ch HK.out.ch)).mono ?_; rintro e wq ⟨rfl, hCq⟩; have HK2 := Lib.hid (HK.out.on hCq); clear hCq HK; have HK := HK2; clear HK2)
      | (go_at_call 16; with_reducible refine (G12.out _ (HT.out.ch HK.out.ch)).mono ?_; rintro e wq ⟨rfl, hCq⟩; have HK2 := Lib.hid (HK.out.on hCq); clear hCq HK; have HK := HK2; clear HK2)
      | (go_at_call 36; with_reducible refine (HZ.out _).mono ?_; rintro e wq ⟨rfl, hCq⟩; have HK2 := Lib.hid (HK.out.on hCq); clear hCq HK; have HK := HK2; clear HK2))
  obtain ⟨cc0, cc1, cc2, cc3, cc4, cc5, cc6, cc7, cc8, cc9, cc10, cc11, cc12, cc13, cc14, cc15, cc16, cc17⟩ := HF4.out _ HK.out
  go_wp2_with fail
  go_ret
  exact ⟨rfl, HK.out.ch⟩
end Go.Proofs.YtninbglhomdmjaaGreatDoor
