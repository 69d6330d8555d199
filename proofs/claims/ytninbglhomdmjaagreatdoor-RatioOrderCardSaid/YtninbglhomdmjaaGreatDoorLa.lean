/- The laws of layer 2: what they share; RatioSums. -/
import Derived.Test.YtninbglhomdmjaaGreatDoorQy
namespace Go.Proofs.YtninbglhomdmjaaGreatDoor
open Go.RowKit
/-- Blocks of one's own, wherever they lie. -/
structure Kq (w W : World) (l : List (Nat × TypeId × List Value)) : Prop where
  ch : Ch w.heap.size none1 w W
  row : ∀ p ∈ l, Blk W p.1 p.2.1 p.2.2
theorem Kq.nil (w : World) : Kq w w [] := ⟨Ch.refl _ _ _, fun p hp => by simp at hp⟩
theorem Kq.on {w W W' : World} {l : List (Nat × TypeId × List Value)} (h : Kq w W l) (hC : Ch W.heap.size none1 W W') : Kq w W' l := ⟨h.ch.step0 hC (Nat.le_refl _), fun p hp => hC.blk (h.row p hp) (h.row p hp).lt (fun q => q)⟩
theorem Kq.drew {w W : World} {l : List (Nat × TypeId × List Value)} (h : Kq w W l) : Kq w W.drew l := ⟨h.ch.drew, fun p hp => (h.row p hp).drew⟩
theorem Kq.new {w W : World} {l : List (Nat × TypeId × List Value)} (h : Kq w W l) (a : Array Value) (t : TypeId) : Kq w (W.alloc (.cells a t (0, 0))) ((W.heap.size, t, a.toList) :: l) := by
  have hc : Ch W.heap.size none1 W (W.alloc (.cells a t (0, 0))) := (Ch.refl _ _ _).alloc (Nat.le_refl _) _
  refine ⟨h.ch.step0 hc (Nat.le_refl _), fun p hp => ?_⟩
  rcases List.mem_cons.1 hp with rfl | hp
  · exact Blk.new W a _
  · exact hc.blk (h.row p hp) (h.row p hp).lt (fun q => q)
theorem Kq.other {w W : World} {l : List (Nat × TypeId × List Value)} (h : Kq w W l) (o : Obj) : Kq w (W.alloc o) l := h.on ((Ch.refl _ _ _).alloc (Nat.le_refl _) o)
/-- Both quotients. -/
theorem C_quo_both {a b : Rat} {s t : Bool} {n d m e : List UInt8} (hn : n.length ≤ 400) (hd : d.length ≤ 400) (hm : m.length ≤ 400) (he : e.length ≤ 400) (ra : ratOf s n d = a) (rb : ratOf t m e = b) :
    ∃ (r : Bool) (k f : List UInt8) (ok : Bool), AnsT 12 #[Rv s n d, Rv t m e] (.tuple #[Rv r k f, .bool ok]) ∧ Ans 13 #[Rv s n d, Rv t m e] (.tuple #[Rv r k f, .bool ok]) := by
  by_cases hb : b = 0
  · exact ⟨false, [], [], false, C_Quo_no (by omega) (by omega) (by omega) (by omega) ra rb hb, C_rQuo_no hn hd hm he ra rb hb⟩
  · exact ⟨_, _, _, true, C_Quo (by omega) (by omega) (by omega) (by omega) ra rb hb (pt_is (a / b)), C_rQuo hn hd hm he ra rb hb (pt_is (a / b))⟩
theorem mdq_len (x y z : Int) : (pt (mdq x y z)).2.1.length ≤ 16 ∧ (pt (mdq x y z)).2.2.length ≤ 16 := (mdq_size x y z).len (pt_is _)
/-- The range of an int. -/
abbrev i64r (x : Int) : Prop := -9223372036854775808 ≤ x ∧ x ≤ 9223372036854775807
set_option maxRecDepth 100000 in
set_option maxHeartbeats 3200000 in
theorem sums_core (x0 x1 x2 y0 y1 y2 : Int) (w : World) (hx0 : i64r x0) (hx1 : i64r x1) (hx2 : i64r x2) (hy0 : i64r y0) (hy1 : i64r y1) (hy2 : i64r y2) (ht : Tb w) :
    Calls Tryz.prog 3 #[.agg #[.int .i64 x0, .int .i64 x1, .int .i64 x2], .agg #[.int .i64 y0, .int .i64 y1, .int .i64 y2]] w (Yld w (.bool true)) := by
  have hma := fun W => made_any x0 x1 x2 W hx0 hx1 hx2
  obtain ⟨la1, la2⟩ := mdq_len x0 x1 x2
  have ra := rof_pt (mdq x0 x1 x2)
  have za := mdq_size x0 x1 x2
  obtain ⟨qa, hqa⟩ : ∃ q, mdq x0 x1 x2 = q := ⟨_, rfl⟩
  rw [hqa] at hma la1 la2 ra za
  have ia := pt_is qa
  obtain ⟨⟨sa, na, da⟩, hpa⟩ : ∃ t, pt qa = t := ⟨_, rfl⟩
  rw [hpa] at hma la1 la2 ra ia
  have ra' : ratOf sa na da = qa := ra
  simp only at la1 la2 ia
  have hmb := fun W => made_any y0 y1 y2 W hy0 hy1 hy2
  obtain ⟨lb1, lb2⟩ := mdq_len y0 y1 y2
  have rb := rof_pt (mdq y0 y1 y2)
  have zb := mdq_size y0 y1 y2
  obtain ⟨qb, hqb⟩ : ∃ q, mdq y0 y1 y2 = q := ⟨_, rfl⟩
  rw [hqb] at hmb lb1 lb2 rb zb
  have ib := pt_is qb
  obtain ⟨⟨sb, nb, db⟩, hpb⟩ : ∃ t, pt qb = t := ⟨_, rfl⟩
  rw [hpb] at hmb lb1 lb2 rb ib
  have rb' : ratOf sb nb db = qb := rb
  simp only at lb1 lb2 ib
  obtain ⟨sq, nq, dq, ok, hk1, hk2⟩ := C_quo_both (s := sa) (n := na) (d := da) (t := sb) (m := nb) (e := db) (by omega) (by omega) (by omega) (by omega) ra' rb'
  have ic := pt_is (qa + qb)
  obtain ⟨⟨sc, nc, dc⟩, hpc⟩ : ∃ t, pt (qa + qb) = t := ⟨_, rfl⟩
  rw [hpc] at ic
  simp only at ic
  have ie := pt_is (qa - qb)
  obtain ⟨⟨se, ne, de⟩, hpe⟩ : ∃ t, pt (qa - qb) = t := ⟨_, rfl⟩
  rw [hpe] at ie
  simp only at ie
  have ii := pt_is (qa * qb)
  obtain ⟨⟨sf, nf, df⟩, hpf⟩ : ∃ t, pt (qa * qb) = t := ⟨_, rfl⟩
  rw [hpf] at ii
  simp only at ii
  have ig := pt_is (-qa)
  obtain ⟨⟨sg, ng, dg⟩, hpg⟩ : ∃ t, pt (-qa) = t := ⟨_, rfl⟩
  rw [hpg] at ig
  simp only at ig
  have H1 := Lib.hid hma
  have H2 := Lib.hid hmb
  have H3 := Lib.hid hk1
  have H4 := Lib.hid hk2
  have H5 := Lib.hid (C_Add (by omega) (by omega) (by omega) (by omega) ra' rb' ic)
  have H6 := Lib.hid (C_rAdd (by omega) (by omega) (by omega) (by omega) ra' rb' ic)
  have H7 := Lib.hid (C_Sub (by omega) (by omega) (by omega) (by omega) ra' rb' ie)
  have H8 := Lib.hid (C_rSub (by omega) (by omega) (by omega) (by omega) ra' rb' ie)
  have H9 := Lib.hid (C_Mul (by omega) (by omega) (by omega) (by omega) ra' rb' ii)
  have H10 := Lib.hid (C_rMul (by omega) (by omega) (by omega) (by omega) ra' rb' ii)
  obtain ⟨k1, hk3⟩ : ∃ k, sgr (qa - qb) = k := ⟨_, rfl⟩
  obtain ⟨k2, hk4⟩ : ∃ k, sgr qa = k := ⟨_, rfl⟩
  have H11 := Lib.hid (C_Cmp (by omega) (by omega) (by omega) (by omega) ra' rb' hk3)
  have H12 := Lib.hid (C_rCmp (by omega) (by omega) (by omega) (by omega) ra' rb' hk3)
  have H13 := Lib.hid (C_Sign (by omega) (by omega) ra' hk4)
  have H14 := Lib.hid (C_rSign (by omega) (by omega) ra' hk4)
  have H15 := Lib.hid (C_Neg (by omega) (by omega) ra' ig)
  have H16 := Lib.hid (C_rNeg (by omega) (by omega) ra' ig)
  have H0 := Lib.hid sanity_true
  have HT := Lib.hid ht
  clear hma hmb hk1 hk2 hk3 hk4 ra ra' rb rb' za zb ia ib ic ie ii ig hpa hpb hpc hpe hpf hpg hqa hqb la1 la2 lb1 lb2 ht hx0 hx1 hx2 hy0 hy1 hy2
  have HK := Lib.hid (((Kq.nil w).new #[.int .i64 x0, .int .i64 x1, .int .i64 x2] 22).new #[.int .i64 y0, .int .i64 y1, .int .i64 y2] 22)
  rw [World.size_alloc] at HK
  obtain ⟨B, hB⟩ : ∃ B, w.heap.size = B := ⟨_, rfl⟩
  rw [hB] at HK
  have HF1 := Lib.hid (show ∀ W, Kq w W [(B + 1, 22, [.int .i64 y0, .int .i64 y1, .int .i64 y2]), (B, 22, [.int .i64 x0, .int .i64 x1, .int .i64 x2])] → W.cell? ⟨B + 1, 0, none⟩ = some (.int .i64 y0) ∧ W.cell? ⟨B + 1, 1, none⟩ = some (.int .i64 y1) ∧ W.cell? ⟨B + 1, 2, none⟩ = some (.int .i64 y2) ∧ W.cell? ⟨B, 0, none⟩ = some (.int .i64 x0) ∧ W.cell? ⟨B, 1, none⟩ = some (.int .i64 x1) ∧ W.cell? ⟨B, 2, none⟩ = some (.int .i64 x2) from fun W h => ⟨(h.row _ (.head _)).cell 0, (h.row _ (.head _)).cell 1, (h.row _ (.head _)).cell 2, (h.row _ (.tail _ (.head _))).cell 0, (h.row _ (.tail _ (.head _))).cell 1, (h.row _ (.tail _ (.head _))).cell 2⟩)
  obtain ⟨cc0, cc1, cc2, cc3, cc4, cc5⟩ := HF1.out _ HK.out
  go_enter Tryz.func3, Tryz.ntmps3
  go_wp2_with fail
  refine (H0.out _ (HT.out.ch HK.out.ch)).mono ?_
  rintro e w1 ⟨rfl, hC⟩
  have HK2 := Lib.hid (HK.out.on hC)
  clear cc0 cc1 cc2 cc3 cc4 cc5
  clear hC HK
  have HK := HK2
  clear HK2
  obtain ⟨cc0, cc1, cc2, cc3, cc4, cc5⟩ := HF1.out _ HK.out
  go_wp2_with fail
  refine (H1.out _).mono ?_
  rintro e w2 ⟨rfl, hC⟩
  have HK2 := Lib.hid (HK.out.on hC)
  clear cc0 cc1 cc2 cc3 cc4 cc5
  clear hC HK
  have HK := HK2
  clear HK2
  obtain ⟨cc0, cc1, cc2, cc3, cc4, cc5⟩ := HF1.out _ HK.out
  have hall := fun o : Obj => HF1.out _ (HK.out.other o)
  have dd0 : ∀ o : Obj, (w2.alloc o).cell? ⟨B + 1, 0, none⟩ = some (.int .i64 y0) := fun o => (hall o).1
  have dd1 : ∀ o : Obj, (w2.alloc o).cell? ⟨B + 1, 1, none⟩ = some (.int .i64 y1) := fun o => (hall o).2.1
  have dd2 : ∀ o : Obj, (w2.alloc o).cell? ⟨B + 1, 2, none⟩ = some (.int .i64 y2) := fun o => (hall o).2.2.1
  have dd3 : ∀ o : Obj, (w2.alloc o).cell? ⟨B, 0, none⟩ = some (.int .i64 x0) := fun o => (hall o).2.2.2.1
  have dd4 : ∀ o : Obj, (w2.alloc o).cell? ⟨B, 1, none⟩ = some (.int .i64 x1) := fun o => (hall o).2.2.2.2.1
  have dd5 : ∀ o : Obj, (w2.alloc o).cell? ⟨B, 2, none⟩ = some (.int .i64 x2) := fun o => (hall o).2.2.2.2.2
  clear hall
  go_wp2_with fail
  clear cc0 cc1 cc2 cc3 cc4 cc5 dd0 dd1 dd2 dd3 dd4 dd5
  have HK2 := Lib.hid (HK.out.new #[.bool sa, S na, S da] 26)
  obtain ⟨w3, hW⟩ : ∃ W, w2.alloc (.cells #[.bool sa, S na, S da] 26 (0, 0)) = W := ⟨_, rfl⟩
  rw [hW] at HK2 ⊢
  obtain ⟨A, hA⟩ : ∃ A, w2.heap.size = A := ⟨_, rfl⟩
  rw [hA] at HK2 ⊢
  clear hA hW HK
  have HK := HK2
  clear HK2
  have HF2 := Lib.hid (show ∀ W, Kq w W [(A, 26, [.bool sa, S na, S da]), (B + 1, 22, [.int .i64 y0, .int .i64 y1, .int .i64 y2]), (B, 22, [.int .i64 x0, .int .i64 x1, .int .i64 x2])] → W.cell? ⟨A, 0, none⟩ = some (.bool sa) ∧ W.cell? ⟨A, 1, none⟩ = some (S na) ∧ W.cell? ⟨A, 2, none⟩ = some (S da) ∧ W.cell? ⟨B + 1, 0, none⟩ = some (.int .i64 y0) ∧ W.cell? ⟨B + 1, 1, none⟩ = some (.int .i64 y1) ∧ W.cell? ⟨B + 1, 2, none⟩ = some (.int .i64 y2) ∧ W.cell? ⟨B, 0, none⟩ = some (.int .i64 x0) ∧ W.cell? ⟨B, 1, none⟩ = some (.int .i64 x1) ∧ W.cell? ⟨B, 2, none⟩ = some (.int .i64 x2) from fun W h => ⟨(h.row _ (.head _)).cell 0, (h.row _ (.head _)).cell 1, (h.row _ (.head _)).cell 2, (h.row _ (.tail _ (.head _))).cell 0, (h.row _ (.tail _ (.head _))).cell 1, (h.row _ (.tail _ (.head _))).cell 2, (h.row _ (.tail _ (.tail _ (.head _)))).cell 0, (h.row _ (.tail _ (.tail _ (.head _)))).cell 1, (h.row _ (.tail _ (.tail _ (.head _)))).cell 2⟩)
  obtain ⟨cc0, cc1, cc2, cc3, cc4, cc5, cc6, cc7, cc8⟩ := HF2.out _ HK.out
  refine (H2.out _).mono ?_
  rintro e w4 ⟨rfl, hC⟩
  have HK2 := Lib.hid (HK.out.on hC)
  clear cc0 cc1 cc2 cc3 cc4 cc5 cc6 cc7 cc8
  clear hC HK
  have HK := HK2
  clear HK2
  obtain ⟨cc0, cc1, cc2, cc3, cc4, cc5, cc6, cc7, cc8⟩ := HF2.out _ HK.out
  have hall := fun o : Obj => HF2.out _ (HK.out.other o)
  have dd0 : ∀ o : Obj, (w4.alloc o).cell? ⟨A, 0, none⟩ = some (.bool sa) := fun o => (hall o).1
  have dd1 : ∀ o : Obj, (w4.alloc o).cell? ⟨A, 1, none⟩ = some (S na) := fun o => (hall o).2.1
  have dd2 : ∀ o : Obj, (w4.alloc o).cell? ⟨A, 2, none⟩ = some (S da) := fun o => (hall o).2.2.1
  have dd3 : ∀ o : Obj, (w4.alloc o).cell? ⟨B + 1, 0, none⟩ = some (.int .i64 y0) := fun o => (hall o).2.2.2.1
  have dd4 : ∀ o : Obj, (w4.alloc o).cell? ⟨B + 1, 1, none⟩ = some (.int .i64 y1) := fun o => (hall o).2.2.2.2.1
  have dd5 : ∀ o : Obj, (w4.alloc o).cell? ⟨B + 1, 2, none⟩ = some (.int .i64 y2) := fun o => (hall o).2.2.2.2.2.1
  have dd6 : ∀ o : Obj, (w4.alloc o).cell? ⟨B, 0, none⟩ = some (.int .i64 x0) := fun o => (hall o).2.2.2.2.2.2.1
  have dd7 : ∀ o : Obj, (w4.alloc o).cell? ⟨B, 1, none⟩ = some (.int .i64 x1) := fun o => (hall o).2.2.2.2.2.2.2.1
  have dd8 : ∀ o : Obj, (w4.alloc o).cell? ⟨B, 2, none⟩ = some (.int .i64 x2) := fun o => (hall o).2.2.2.2.2.2.2.2
  clear hall
  go_wp2_with fail
  clear cc0 cc1 cc2 cc3 cc4 cc5 cc6 cc7 cc8 dd0 dd1 dd2 dd3 dd4 dd5 dd6 dd7 dd8
  have HK2 := Lib.hid (HK.out.new #[.bool sb, S nb, S db] 26)
  obtain ⟨w5, hW⟩ : ∃ W, w4.alloc (.cells #[.bool sb, S nb, S db] 26 (0, 0)) = W := ⟨_, rfl⟩
  rw [hW] at HK2 ⊢
  obtain ⟨Bb, hA⟩ : ∃ A, w4.heap.size = A := ⟨_, rfl⟩
  rw [hA] at HK2 ⊢
  clear hA hW HK
  have HK := HK2
  clear HK2
  have HF3 := Lib.hid (show ∀ W, Kq w W [(Bb, 26, [.bool sb, S nb, S db]), (A, 26, [.bool sa, S na, S da]), (B + 1, 22, [.int .i64 y0, .int .i64 y1, .int .i64 y2]), (B, 22, [.int .i64 x0, .int .i64 x1, .int .i64 x2])] → W.cell? ⟨Bb, 0, none⟩ = some (.bool sb) ∧ W.cell? ⟨Bb, 1, none⟩ = some (S nb) ∧ W.cell? ⟨Bb, 2, none⟩ = some (S db) ∧ W.cell? ⟨A, 0, none⟩ = some (.bool sa) ∧ W.cell? ⟨A, 1, none⟩ = some (S na) ∧ W.cell? ⟨A, 2, none⟩ = some (S da) ∧ W.cell? ⟨B + 1, 0, none⟩ = some (.int .i64 y0) ∧ W.cell? ⟨B + 1, 1, none⟩ = some (.int .i64 y1) ∧ W.cell? ⟨B + 1, 2, none⟩ = some (.int .i64 y2) ∧ W.cell? ⟨B, 0, none⟩ = some (.int .i64 x0) ∧ W.cell? ⟨B, 1, none⟩ = some (.int .i64 x1) ∧ W.cell? ⟨B, 2, none⟩ = some (.int .i64 x2) from fun W h => ⟨(h.row _ (.head _)).cell 0, (h.row _ (.head _)).cell 1, (h.row _ (.head _)).cell 2, (h.row _ (.tail _ (.head _))).cell 0, (h.row _ (.tail _ (.head _))).cell 1, (h.row _ (.tail _ (.head _))).cell 2, (h.row _ (.tail _ (.tail _ (.head _)))).cell 0, (h.row _ (.tail _ (.tail _ (.head _)))).cell 1, (h.row _ (.tail _ (.tail _ (.head _)))).cell 2, (h.row _ (.tail _ (.tail _ (.tail _ (.head _))))).cell 0, (h.row _ (.tail _ (.tail _ (.tail _ (.head _))))).cell 1, (h.row _ (.tail _ (.tail _ (.tail _ (.head _))))).cell 2⟩)
  obtain ⟨cc0, cc1, cc2, cc3, cc4, cc5, cc6, cc7, cc8, cc9, cc10, cc11⟩ := HF3.out _ HK.out
  refine (H3.out _ (HT.out.ch HK.out.ch)).mono ?_
  rintro e w6 ⟨rfl, hC⟩
  have HK2 := Lib.hid (HK.out.on hC)
  clear cc0 cc1 cc2 cc3 cc4 cc5 cc6 cc7 cc8 cc9 cc10 cc11
  clear hC HK
  have HK := HK2
  clear HK2
  obtain ⟨cc0, cc1, cc2, cc3, cc4, cc5, cc6, cc7, cc8, cc9, cc10, cc11⟩ := HF3.out _ HK.out
  have hall := fun o : Obj => HF3.out _ (HK.out.other o)
  have dd0 : ∀ o : Obj, (w6.alloc o).cell? ⟨Bb, 0, none⟩ = some (.bool sb) := fun o => (hall o).1
  have dd1 : ∀ o : Obj, (w6.alloc o).cell? ⟨Bb, 1, none⟩ = some (S nb) := fun o => (hall o).2.1
  have dd2 : ∀ o : Obj, (w6.alloc o).cell? ⟨Bb, 2, none⟩ = some (S db) := fun o => (hall o).2.2.1
  have dd3 : ∀ o : Obj, (w6.alloc o).cell? ⟨A, 0, none⟩ = some (.bool sa) := fun o => (hall o).2.2.2.1
  have dd4 : ∀ o : Obj, (w6.alloc o).cell? ⟨A, 1, none⟩ = some (S na) := fun o => (hall o).2.2.2.2.1
  have dd5 : ∀ o : Obj, (w6.alloc o).cell? ⟨A, 2, none⟩ = some (S da) := fun o => (hall o).2.2.2.2.2.1
  have dd6 : ∀ o : Obj, (w6.alloc o).cell? ⟨B + 1, 0, none⟩ = some (.int .i64 y0) := fun o => (hall o).2.2.2.2.2.2.1
  have dd7 : ∀ o : Obj, (w6.alloc o).cell? ⟨B + 1, 1, none⟩ = some (.int .i64 y1) := fun o => (hall o).2.2.2.2.2.2.2.1
  have dd8 : ∀ o : Obj, (w6.alloc o).cell? ⟨B + 1, 2, none⟩ = some (.int .i64 y2) := fun o => (hall o).2.2.2.2.2.2.2.2.1
  have dd9 : ∀ o : Obj, (w6.alloc o).cell? ⟨B, 0, none⟩ = some (.int .i64 x0) := fun o => (hall o).2.2.2.2.2.2.2.2.2.1
  have dd10 : ∀ o : Obj, (w6.alloc o).cell? ⟨B, 1, none⟩ = some (.int .i64 x1) := fun o => (hall o).2.2.2.2.2.2.2.2.2.2.1
  have dd11 : ∀ o : Obj, (w6.alloc o).cell? ⟨B, 2, none⟩ = some (.int .i64 x2) := fun o => (hall o).2.2.2.2.2.2.2.2.2.2.2
  clear hall
  go_wp2_with fail
  clear cc0 cc1 cc2 cc3 cc4 cc5 cc6 cc7 cc8 cc9 cc10 cc11 dd0 dd1 dd2 dd3 dd4 dd5 dd6 dd7 dd8 dd9 dd10 dd11
  have HK2 := Lib.hid (HK.out.new #[.bool sq, S nq, S dq] 26)
  obtain ⟨w7, hW⟩ : ∃ W, w6.alloc (.cells #[.bool sq, S nq, S dq] 26 (0, 0)) = W := ⟨_, rfl⟩
  rw [hW] at HK2 ⊢
  obtain ⟨P, hA⟩ : ∃ A, w6.heap.size = A := ⟨_, rfl⟩
  rw [hA] at HK2 ⊢
  clear hA hW HK
  have HK := HK2
  clear HK2
  have HF4 := Lib.hid (show ∀ W, Kq w W [(P, 26, [.bool sq, S nq, S dq]), (Bb, 26, [.bool sb, S nb, S db]), (A, 26, [.bool sa, S na, S da]), (B + 1, 22, [.int .i64 y0, .int .i64 y1, .int .i64 y2]), (B, 22, [.int .i64 x0, .int .i64 x1, .int .i64 x2])] → W.cell? ⟨P, 0, none⟩ = some (.bool sq) ∧ W.cell? ⟨P, 1, none⟩ = some (S nq) ∧ W.cell? ⟨P, 2, none⟩ = some (S dq) ∧ W.cell? ⟨Bb, 0, none⟩ = some (.bool sb) ∧ W.cell? ⟨Bb, 1, none⟩ = some (S nb) ∧ W.cell? ⟨Bb, 2, none⟩ = some (S db) ∧ W.cell? ⟨A, 0, none⟩ = some (.bool sa) ∧ W.cell? ⟨A, 1, none⟩ = some (S na) ∧ W.cell? ⟨A, 2, none⟩ = some (S da) ∧ W.cell? ⟨B + 1, 0, none⟩ = some (.int .i64 y0) ∧ W.cell? ⟨B + 1, 1, none⟩ = some (.int .i64 y1) ∧ W.cell? ⟨B + 1, 2, none⟩ = some (.int .i64 y2) ∧ W.cell? ⟨B, 0, none⟩ = some (.int .i64 x0) ∧ W.cell? ⟨B, 1, none⟩ = some (.int .i64 x1) ∧ W.cell? ⟨B, 2, none⟩ = some (.int .i64 x2) from fun W h => ⟨(h.row _ (.head _)).cell 0, (h.row _ (.head _)).cell 1, (h.row _ (.head _)).cell 2, (h.row _ (.tail _ (.head _))).cell 0, (h.row _ (.tail _ (.head _))).cell 1, (h.row _ (.tail _ (.head _))).cell 2, (h.row _ (.tail _ (.tail _ (.head _)))).cell 0, (h.row _ (.tail _ (.tail _ (.head _)))).cell 1, (h.row _ (.tail _ (.tail _ (.head _)))).cell 2, (h.row _ (.tail _ (.tail _ (.tail _ (.head _))))).cell 0, (h.row _ (.tail _ (.tail _ (.tail _ (.head _))))).cell 1, (h.row _ (.tail _ (.tail _ (.tail _ (.head _))))).cell 2, (h.row _ (.tail _ (.tail _ (.tail _ (.tail _ (.head _)))))).cell 0, (h.row _ (.tail _ (.tail _ (.tail _ (.tail _ (.head _)))))).cell 1, (h.row _ (.tail _ (.tail _ (.tail _ (.tail _ (.head _)))))).cell 2⟩)
  obtain ⟨cc0, cc1, cc2, cc3, cc4, cc5, cc6, cc7, cc8, cc9, cc10, cc11, cc12, cc13, cc14⟩ := HF4.out _ HK.out
  refine (H4.out _).mono ?_
  rintro e w8 ⟨rfl, hC⟩
  have HK2 := Lib.hid (HK.out.on hC)
  clear cc0 cc1 cc2 cc3 cc4 cc5 cc6 cc7 cc8 cc9 cc10 cc11 cc12 cc13 cc14
  clear hC HK
  have HK := HK2
  clear HK2
  obtain ⟨cc0, cc1, cc2, cc3, cc4, cc5, cc6, cc7, cc8, cc9, cc10, cc11, cc12, cc13, cc14⟩ := HF4.out _ HK.out
  have hall := fun o : Obj => HF4.out _ (HK.out.other o)
  have dd0 : ∀ o : Obj, (w8.alloc o).cell? ⟨P, 0, none⟩ = some (.bool sq) := fun o => (hall o).1
  have dd1 : ∀ o : Obj, (w8.alloc o).cell? ⟨P, 1, none⟩ = some (S nq) := fun o => (hall o).2.1
  have dd2 : ∀ o : Obj, (w8.alloc o).cell? ⟨P, 2, none⟩ = some (S dq) := fun o => (hall o).2.2.1
  have dd3 : ∀ o : Obj, (w8.alloc o).cell? ⟨Bb, 0, none⟩ = some (.bool sb) := fun o => (hall o).2.2.2.1
  have dd4 : ∀ o : Obj, (w8.alloc o).cell? ⟨Bb, 1, none⟩ = some (S nb) := fun o => (hall o).2.2.2.2.1
  have dd5 : ∀ o : Obj, (w8.alloc o).cell? ⟨Bb, 2, none⟩ = some (S db) := fun o => (hall o).2.2.2.2.2.1
  have dd6 : ∀ o : Obj, (w8.alloc o).cell? ⟨A, 0, none⟩ = some (.bool sa) := fun o => (hall o).2.2.2.2.2.2.1
  have dd7 : ∀ o : Obj, (w8.alloc o).cell? ⟨A, 1, none⟩ = some (S na) := fun o => (hall o).2.2.2.2.2.2.2.1
  have dd8 : ∀ o : Obj, (w8.alloc o).cell? ⟨A, 2, none⟩ = some (S da) := fun o => (hall o).2.2.2.2.2.2.2.2.1
  have dd9 : ∀ o : Obj, (w8.alloc o).cell? ⟨B + 1, 0, none⟩ = some (.int .i64 y0) := fun o => (hall o).2.2.2.2.2.2.2.2.2.1
  have dd10 : ∀ o : Obj, (w8.alloc o).cell? ⟨B + 1, 1, none⟩ = some (.int .i64 y1) := fun o => (hall o).2.2.2.2.2.2.2.2.2.2.1
  have dd11 : ∀ o : Obj, (w8.alloc o).cell? ⟨B + 1, 2, none⟩ = some (.int .i64 y2) := fun o => (hall o).2.2.2.2.2.2.2.2.2.2.2.1
  have dd12 : ∀ o : Obj, (w8.alloc o).cell? ⟨B, 0, none⟩ = some (.int .i64 x0) := fun o => (hall o).2.2.2.2.2.2.2.2.2.2.2.2.1
  have dd13 : ∀ o : Obj, (w8.alloc o).cell? ⟨B, 1, none⟩ = some (.int .i64 x1) := fun o => (hall o).2.2.2.2.2.2.2.2.2.2.2.2.2.1
  have dd14 : ∀ o : Obj, (w8.alloc o).cell? ⟨B, 2, none⟩ = some (.int .i64 x2) := fun o => (hall o).2.2.2.2.2.2.2.2.2.2.2.2.2.2
  clear hall
  go_wp2_with fail
  clear cc0 cc1 cc2 cc3 cc4 cc5 cc6 cc7 cc8 cc9 cc10 cc11 cc12 cc13 cc14 dd0 dd1 dd2 dd3 dd4 dd5 dd6 dd7 dd8 dd9 dd10 dd11 dd12 dd13 dd14
  have HK2 := Lib.hid (HK.out.new #[.bool sq, S nq, S dq] 26)
  obtain ⟨w9, hW⟩ : ∃ W, w8.alloc (.cells #[.bool sq, S nq, S dq] 26 (0, 0)) = W := ⟨_, rfl⟩
  rw [hW] at HK2 ⊢
  obtain ⟨R, hA⟩ : ∃ A, w8.heap.size = A := ⟨_, rfl⟩
  rw [hA] at HK2 ⊢
  clear hA hW HK
  have HK := HK2
  clear HK2
  have HF5 := Lib.hid (show ∀ W, Kq w W [(R, 26, [.bool sq, S nq, S dq]), (P, 26, [.bool sq, S nq, S dq]), (Bb, 26, [.bool sb, S nb, S db]), (A, 26, [.bool sa, S na, S da]), (B + 1, 22, [.int .i64 y0, .int .i64 y1, .int .i64 y2]), (B, 22, [.int .i64 x0, .int .i64 x1, .int .i64 x2])] → W.cell? ⟨R, 0, none⟩ = some (.bool sq) ∧ W.cell? ⟨R, 1, none⟩ = some (S nq) ∧ W.cell? ⟨R, 2, none⟩ = some (S dq) ∧ W.cell? ⟨P, 0, none⟩ = some (.bool sq) ∧ W.cell? ⟨P, 1, none⟩ = some (S nq) ∧ W.cell? ⟨P, 2, none⟩ = some (S dq) ∧ W.cell? ⟨Bb, 0, none⟩ = some (.bool sb) ∧ W.cell? ⟨Bb, 1, none⟩ = some (S nb) ∧ W.cell? ⟨Bb, 2, none⟩ = some (S db) ∧ W.cell? ⟨A, 0, none⟩ = some (.bool sa) ∧ W.cell? ⟨A, 1, none⟩ = some (S na) ∧ W.cell? ⟨A, 2, none⟩ = some (S da) ∧ W.cell? ⟨B + 1, 0, none⟩ = some (.int .i64 y0) ∧ W.cell? ⟨B + 1, 1, none⟩ = some (.int .i64 y1) ∧ W.cell? ⟨B + 1, 2, none⟩ = some (.int .i64 y2) ∧ W.cell? ⟨B, 0, none⟩ = some (.int .i64 x0) ∧ W.cell? ⟨B, 1, none⟩ = some (.int .i64 x1) ∧ W.cell? ⟨B, 2, none⟩ = some (.int .i64 x2) from fun W h => ⟨(h.row _ (.head _)).cell 0, (h.row _ (.head _)).cell 1, (h.row _ (.head _)).cell 2, (h.row _ (.tail _ (.head _))).cell 0, (h.row _ (.tail _ (.head _))).cell 1, (h.row _ (.tail _ (.head _))).cell 2, (h.row _ (.tail _ (.tail _ (.head _)))).cell 0, (h.row _ (.tail _ (.tail _ (.head _)))).cell 1, (h.row _ (.tail _ (.tail _ (.head _)))).cell 2, (h.row _ (.tail _ (.tail _ (.tail _ (.head _))))).cell 0, (h.row _ (.tail _ (.tail _ (.tail _ (.head _))))).cell 1, (h.row _ (.tail _ (.tail _ (.tail _ (.head _))))).cell 2, (h.row _ (.tail _ (.tail _ (.tail _ (.tail _ (.head _)))))).cell 0, (h.row _ (.tail _ (.tail _ (.tail _ (.tail _ (.head _)))))).cell 1, (h.row _ (.tail _ (.tail _ (.tail _ (.tail _ (.head _)))))).cell 2, (h.row _ (.tail _ (.tail _ (.tail _ (.tail _ (.tail _ (.head _))))))).cell 0, (h.row _ (.tail _ (.tail _ (.tail _ (.tail _ (.tail _ (.head _))))))).cell 1, (h.row _ (.tail _ (.tail _ (.tail _ (.tail _ (.tail _ (.head _))))))).cell 2⟩)
  obtain ⟨cc0, cc1, cc2, cc3, cc4, cc5, cc6, cc7, cc8, cc9, cc10, cc11, cc12, cc13, cc14, cc15, cc16, cc17⟩ := HF5.out _ HK.out
  clear cc0 cc1 cc2 cc3 cc4 cc5 cc6 cc7 cc8 cc9 cc10 cc11 cc12 cc13 cc14 cc15 cc16 cc17
  have HKD := Lib.hid HK.out.drew
  clear HK
  have HK := HKD
  clear HKD
  go_region_held3 (fun w' => w'.cell? ⟨R, 0, none⟩ = some (.bool sq) ∧ w'.cell? ⟨R, 1, none⟩ = some (S nq) ∧ w'.cell? ⟨R, 2, none⟩ = some (S dq) ∧ w'.cell? ⟨P, 0, none⟩ = some (.bool sq) ∧ w'.cell? ⟨P, 1, none⟩ = some (S nq) ∧ w'.cell? ⟨P, 2, none⟩ = some (S dq) ∧ w'.cell? ⟨Bb, 0, none⟩ = some (.bool sb) ∧ w'.cell? ⟨Bb, 1, none⟩ = some (S nb) ∧ w'.cell? ⟨Bb, 2, none⟩ = some (S db) ∧ w'.cell? ⟨A, 0, none⟩ = some (.bool sa) ∧ w'.cell? ⟨A, 1, none⟩ = some (S na) ∧ w'.cell? ⟨A, 2, none⟩ = some (S da) ∧ w'.cell? ⟨B + 1, 0, none⟩ = some (.int .i64 y0) ∧ w'.cell? ⟨B + 1, 1, none⟩ = some (.int .i64 y1) ∧ w'.cell? ⟨B + 1, 2, none⟩ = some (.int .i64 y2) ∧ w'.cell? ⟨B, 0, none⟩ = some (.int .i64 x0) ∧ w'.cell? ⟨B, 1, none⟩ = some (.int .i64 x1) ∧ w'.cell? ⟨B, 2, none⟩ = some (.int .i64 x2))
    (first
      | (with_reducible exact HF5.out _ HK.out)
      | go_keep)
    (first
      | (go_at_call 14; with_reducible refine (H5.out _ (HT.out.ch HK.out.ch)).mono ?_; rintro e wq ⟨rfl, hCq⟩; have HK2 := Lib.hid (HK.out.on hCq); clear hCq HK; have HK := HK2; clear HK2)
      | (go_at_call 15; with_reducible refine (H6.out _).mono ?_; rintro e wq ⟨rfl, hCq⟩; have HK2 := Lib.hid (HK.out.on hCq); clear hCq HK; have HK := HK2; clear HK2)
      | (go_at_call 16; with_reducible refine (H7.out _ (HT.out.ch HK.out.ch)).mono ?_; rintro e wq ⟨rfl, hCq⟩; have HK2 := Lib.hid (HK.out.on hCq); clear hCq HK; have HK := HK2; clear HK2)
      | (go_at_call 17; with_reducible refine (H8.out _).mono ?_; rintro e wq ⟨rfl, hCq⟩; have HK2 := Lib.hid (HK.out.on hCq); clear hCq HK; have HK := HK2; clear HK2)
      | (go_at_call 18; with_reducible refine (H9.out _ (HT.out.ch HK.out.ch)).mono ?_; rintro e wq ⟨rfl, hCq⟩; have HK2 := Lib.hid (HK.out.on hCq); clear hCq HK; have HK := HK2; clear HK2)
      | (go_at_call 19; with_reducible refine (H10.out _).mono ?_; rintro e wq ⟨rfl, hCq⟩; have HK2 := Lib.hid (HK.out.on hCq); clear hCq HK; have HK := HK2; clear HK2))
  obtain ⟨cc0, cc1, cc2, cc3, cc4, cc5, cc6, cc7, cc8, cc9, cc10, cc11, cc12, cc13, cc14, cc15, cc16, cc17⟩ := HF5.out _ HK.out
  go_wp2_with fail
  clear cc0 cc1 cc2 cc3 cc4 cc5 cc6 cc7 cc8 cc9 cc10 cc11 cc12 cc13 cc14 cc15 cc16 cc17
  have HKD := Lib.hid HK.out.drew
  clear HK
  have HK := HKD
  clear HKD
  go_region_held3 (fun w' => w'.cell? ⟨R, 0, none⟩ = some (.bool sq) ∧ w'.cell? ⟨R, 1, none⟩ = some (S nq) ∧ w'.cell? ⟨R, 2, none⟩ = some (S dq) ∧ w'.cell? ⟨P, 0, none⟩ = some (.bool sq) ∧ w'.cell? ⟨P, 1, none⟩ = some (S nq) ∧ w'.cell? ⟨P, 2, none⟩ = some (S dq) ∧ w'.cell? ⟨Bb, 0, none⟩ = some (.bool sb) ∧ w'.cell? ⟨Bb, 1, none⟩ = some (S nb) ∧ w'.cell? ⟨Bb, 2, none⟩ = some (S db) ∧ w'.cell? ⟨A, 0, none⟩ = some (.bool sa) ∧ w'.cell? ⟨A, 1, none⟩ = some (S na) ∧ w'.cell? ⟨A, 2, none⟩ = some (S da) ∧ w'.cell? ⟨B + 1, 0, none⟩ = some (.int .i64 y0) ∧ w'.cell? ⟨B + 1, 1, none⟩ = some (.int .i64 y1) ∧ w'.cell? ⟨B + 1, 2, none⟩ = some (.int .i64 y2) ∧ w'.cell? ⟨B, 0, none⟩ = some (.int .i64 x0) ∧ w'.cell? ⟨B, 1, none⟩ = some (.int .i64 x1) ∧ w'.cell? ⟨B, 2, none⟩ = some (.int .i64 x2))
    (first
      | (with_reducible exact HF5.out _ HK.out)
      | go_keep)
    (first
      | (go_at_call 20; with_reducible refine (H11.out _ (HT.out.ch HK.out.ch)).mono ?_; rintro e wq ⟨rfl, hCq⟩; have HK2 := Lib.hid (HK.out.on hCq); clear hCq HK; have HK := HK2; clear HK2)
      | (go_at_call 21; with_reducible refine (H12.out _).mono ?_; rintro e wq ⟨rfl, hCq⟩; have HK2 := Lib.hid (HK.out.on hCq); clear hCq HK; have HK := HK2; clear HK2)
      | (go_at_call 22; with_reducible refine (H13.out _ (HT.out.ch HK.out.ch)).mono ?_; rintro e wq ⟨rfl, hCq⟩; have HK2 := Lib.hid (HK.out.on hCq); clear hCq HK; have HK := HK2; clear HK2)
      | (go_at_call 23; with_reducible refine (H14.out _).mono ?_; rintro e wq ⟨rfl, hCq⟩; have HK2 := Lib.hid (HK.out.on hCq); clear hCq HK; have HK := HK2; clear HK2)
      | (go_at_call 24; with_reducible refine (H15.out _ (HT.out.ch HK.out.ch)).mono ?_; rintro e wq ⟨rfl, hCq⟩; have HK2 := Lib.hid (HK.out.on hCq); clear hCq HK; have HK := HK2; clear HK2)
      | (go_at_call 25; with_reducible refine (H16.out _).mono ?_; rintro e wq ⟨rfl, hCq⟩; have HK2 := Lib.hid (HK.out.on hCq); clear hCq HK; have HK := HK2; clear HK2))
  obtain ⟨cc0, cc1, cc2, cc3, cc4, cc5, cc6, cc7, cc8, cc9, cc10, cc11, cc12, cc13, cc14, cc15, cc16, cc17⟩ := HF5.out _ HK.out
  go_wp2_with fail
  go_ret
  exact ⟨rfl, HK.out.ch⟩
end Go.Proofs.YtninbglhomdmjaaGreatDoor
