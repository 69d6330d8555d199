/- The laws of layer 2: RatioTexts. -/
import Derived.Test.YtggphkpnjnpbaaaGreatDoorLh
import Derived.Test.YtggphkpnjnpbaaaGreatDoorQv
import Derived.Deep.CutRange
namespace Go.Proofs.YtggphkpnjnpbaaaGreatDoor
open Go.RowKit
theorem Kq.tail {w W : World} {p : Nat × TypeId × List Value} {l : List (Nat × TypeId × List Value)} (h : Kq w W (p :: l)) : Kq w W l := ⟨h.ch, fun q hq => h.row q (.tail _ hq)⟩
theorem Kq.put3 {w W : World} {g : Nat} {t : TypeId} {a b c : Value} {l : List (Nat × TypeId × List Value)} (h : Kq w W ((g, t, [a, b, c]) :: l)) (hg : w.heap.size ≤ g) (hl : ∀ p ∈ l, p.1 ≠ g) (x y z : Value) :
    Kq w (((W.setCell ⟨g, 0, none⟩ x).setCell ⟨g, 1, none⟩ y).setCell ⟨g, 2, none⟩ z) ((g, t, [x, y, z]) :: l) :=
  ⟨((h.ch.setCell (p := ⟨g, 0, none⟩) (.inl hg) x).setCell (p := ⟨g, 1, none⟩) (.inl hg) y).setCell (p := ⟨g, 2, none⟩) (.inl hg) z, fun p hp => by
    rcases List.mem_cons.1 hp with rfl | hp
    · exact (((h.row _ (.head _)).set 0 x).set 1 y).set 2 z
    · exact (((h.row p (.tail _ hp)).set_other (hl p hp) 0 x).set_other (hl p hp) 1 y).set_other (hl p hp) 2 z⟩
theorem row_at {l : List (List UInt8)} {k : Nat} {x : List UInt8} (h : k < l.length) (hx : l[k] = x) : (l.map S)[k]? = some (S x) := by
  rw [List.getElem?_map, List.getElem?_eq_getElem h, hx]; rfl
theorem rows3 {k : Nat} {a b c x : List UInt8} (h : k < 3) (hx : [a, b, c][k] = x) : x = a ∨ x = b ∨ x = c := by
  rcases (show k = 0 ∨ k = 1 ∨ k = 2 by omega) with rfl | rfl | rfl
  · exact .inl hx.symm
  · exact .inr (.inl hx.symm)
  · exact .inr (.inr hx.symm)
theorem two_parse (x : List UInt8) (hx : x.length ≤ 300) : ∃ s n d ok, AnsT 34 #[S x] (.tuple #[Rv s n d, .bool ok]) ∧ Ans 36 #[S x] (.tuple #[Rv s n d, .bool ok]) := by
  have h1 := C_Parse x (by omega)
  have h2 := C_rParse x hx
  cases h : decR x with
  | none => rw [h] at h1 h2; exact ⟨_, _, _, _, h1, h2⟩
  | some t => rw [h] at h1 h2; exact ⟨_, _, _, _, h1, h2⟩
theorem Kq.swap {w W : World} {p q : Nat × TypeId × List Value} {l : List (Nat × TypeId × List Value)} (h : Kq w W (p :: q :: l)) : Kq w W (q :: p :: l) := ⟨h.ch, fun x hx => by
  rcases List.mem_cons.1 hx with rfl | hx
  · exact h.row _ (.tail _ (.head _))
  · rcases List.mem_cons.1 hx with rfl | hx
    · exact h.row _ (.head _)
    · exact h.row _ (.tail _ (.tail _ hx))⟩
theorem Kq.drop1 {w W : World} {p q : Nat × TypeId × List Value} {l : List (Nat × TypeId × List Value)} (h : Kq w W (p :: q :: l)) : Kq w W (p :: l) := h.swap.tail
theorem conv_one {w : World} {g : Nat} {b : UInt8} (h : w.cell? ⟨g, 0, none⟩ = some (.int .u8 (b.toNat : Int))) : (convert 52 9 (.slice (some ⟨g, 0, none⟩) 1 1)).run Tryz.prog w = .ok (S [b]) w :=
  run_convert_bytes_back (P := Tryz.prog) w 52 9 5 ⟨g, 0, none⟩ 1 [b] Tryz.underlying52 Tryz.underlying5 Tryz.underlying9 (fun j hj => by
    obtain rfl : j = 0 := by simp at hj; exact hj
    exact h)
set_option maxRecDepth 100000 in
set_option maxHeartbeats 3200000 in
theorem texts_walk {x0 x1 x2 m0 m1 : Int} {k : Nat} {sa : Bool} {na da t sl : List UInt8} (w : World) (ht : Tb w) {b : UInt8} (hb : IntKind.u8.wrap m1 = (b.toNat : Int)) (hk : k < t.length) (tl : t.length ≤ 200)
    (hH0 : AnsT 6 #[] (.bool true)) (hH1 : Ans 33 #[.agg #[.int .i64 x0, .int .i64 x1, .int .i64 x2]] (Tv (sa, na, da))) (hG1 : AnsT 23 #[Rv sa na da] (S t)) (hG2 : Ans 24 #[Rv sa na da] (S t)) (hG3 : AnsT 34 #[S t] (.tuple #[Rv sa na da, .bool true])) (hG4 : Ans 35 #[.int .i64 m0, .int .i64 (t.length : Int)] (.int .i64 (k : Int))) :
    Calls Tryz.prog 5 #[.agg #[.int .i64 x0, .int .i64 x1, .int .i64 x2], S sl, .agg #[.int .i64 m0, .int .i64 m1]] w (Yld w (.bool true)) := by
  have H0 := Lib.hid hH0
  have H1 := Lib.hid hH1
  have G1 := Lib.hid hG1
  have G2 := Lib.hid hG2
  have G3 := Lib.hid hG3
  have G4 := Lib.hid hG4
  have HT := Lib.hid ht
  have hz0 : ((t.length : Int) == 0) = false := by rw [beq_eq_false_iff_ne]; omega
  have hne0 : t.isEmpty = false := by
    cases t with
    | nil => simp at hk
    | cons _ _ => rfl
  have HTL := Lib.hid (And.intro hk tl)
  clear ht hk tl hH0 hH1 hG1 hG2 hG3 hG4
  have HK := Lib.hid (((Kq.nil w).new #[.int .i64 x0, .int .i64 x1, .int .i64 x2] 47).new #[.int .i64 m0, .int .i64 m1] 48)
  rw [World.size_alloc] at HK
  obtain ⟨B, hB⟩ : ∃ B, w.heap.size = B := ⟨_, rfl⟩
  rw [hB] at HK
  have HF1 := Lib.hid (show ∀ W, Kq w W [(B + 1, 48, [.int .i64 m0, .int .i64 m1]), (B, 47, [.int .i64 x0, .int .i64 x1, .int .i64 x2])] → W.cell? ⟨B + 1, 0, none⟩ = some (.int .i64 m0) ∧ W.cell? ⟨B + 1, 1, none⟩ = some (.int .i64 m1) ∧ W.cell? ⟨B, 0, none⟩ = some (.int .i64 x0) ∧ W.cell? ⟨B, 1, none⟩ = some (.int .i64 x1) ∧ W.cell? ⟨B, 2, none⟩ = some (.int .i64 x2) from fun W h => ⟨(h.row _ (.head _)).cell 0, (h.row _ (.head _)).cell 1, (h.row _ (.tail _ (.head _))).cell 0, (h.row _ (.tail _ (.head _))).cell 1, (h.row _ (.tail _ (.head _))).cell 2⟩)
  obtain ⟨cc0, cc1, cc2, cc3, cc4⟩ := HF1.out _ HK.out
  go_enter Tryz.func5, Tryz.ntmps5
  go_wp2_with fail
  refine (H0.out _ (HT.out.ch HK.out.ch)).mono ?_
  rintro e w1 ⟨rfl, hC⟩
  have HK2 := Lib.hid (HK.out.on hC)
  clear cc0 cc1 cc2 cc3 cc4
  clear hC HK
  have HK := HK2
  clear HK2
  obtain ⟨cc0, cc1, cc2, cc3, cc4⟩ := HF1.out _ HK.out
  go_wp2_with fail
  refine (H1.out _).mono ?_
  rintro e w2 ⟨rfl, hC⟩
  have HK2 := Lib.hid (HK.out.on hC)
  clear cc0 cc1 cc2 cc3 cc4
  clear hC HK
  have HK := HK2
  clear HK2
  obtain ⟨cc0, cc1, cc2, cc3, cc4⟩ := HF1.out _ HK.out
  have hall := fun o : Obj => HF1.out _ (HK.out.other o)
  have dd0 : ∀ o : Obj, (w2.alloc o).cell? ⟨B + 1, 0, none⟩ = some (.int .i64 m0) := fun o => (hall o).1
  have dd1 : ∀ o : Obj, (w2.alloc o).cell? ⟨B + 1, 1, none⟩ = some (.int .i64 m1) := fun o => (hall o).2.1
  have dd2 : ∀ o : Obj, (w2.alloc o).cell? ⟨B, 0, none⟩ = some (.int .i64 x0) := fun o => (hall o).2.2.1
  have dd3 : ∀ o : Obj, (w2.alloc o).cell? ⟨B, 1, none⟩ = some (.int .i64 x1) := fun o => (hall o).2.2.2.1
  have dd4 : ∀ o : Obj, (w2.alloc o).cell? ⟨B, 2, none⟩ = some (.int .i64 x2) := fun o => (hall o).2.2.2.2
  clear hall
  go_wp2_with fail
  clear cc0 cc1 cc2 cc3 cc4 dd0 dd1 dd2 dd3 dd4
  have HK2 := Lib.hid (HK.out.new #[.bool sa, S na, S da] 24)
  obtain ⟨w3, hW⟩ : ∃ W, w2.alloc (.cells #[.bool sa, S na, S da] 24 (0, 0)) = W := ⟨_, rfl⟩
  rw [hW] at HK2 ⊢
  obtain ⟨A, hA⟩ : ∃ A, w2.heap.size = A := ⟨_, rfl⟩
  rw [hA] at HK2 ⊢
  clear hA hW HK
  have HK := HK2
  clear HK2
  have HF2 := Lib.hid (show ∀ W, Kq w W [(A, 24, [.bool sa, S na, S da]), (B + 1, 48, [.int .i64 m0, .int .i64 m1]), (B, 47, [.int .i64 x0, .int .i64 x1, .int .i64 x2])] → W.cell? ⟨A, 0, none⟩ = some (.bool sa) ∧ W.cell? ⟨A, 1, none⟩ = some (S na) ∧ W.cell? ⟨A, 2, none⟩ = some (S da) ∧ W.cell? ⟨B + 1, 0, none⟩ = some (.int .i64 m0) ∧ W.cell? ⟨B + 1, 1, none⟩ = some (.int .i64 m1) ∧ W.cell? ⟨B, 0, none⟩ = some (.int .i64 x0) ∧ W.cell? ⟨B, 1, none⟩ = some (.int .i64 x1) ∧ W.cell? ⟨B, 2, none⟩ = some (.int .i64 x2) from fun W h => ⟨(h.row _ (.head _)).cell 0, (h.row _ (.head _)).cell 1, (h.row _ (.head _)).cell 2, (h.row _ (.tail _ (.head _))).cell 0, (h.row _ (.tail _ (.head _))).cell 1, (h.row _ (.tail _ (.tail _ (.head _)))).cell 0, (h.row _ (.tail _ (.tail _ (.head _)))).cell 1, (h.row _ (.tail _ (.tail _ (.head _)))).cell 2⟩)
  obtain ⟨cc0, cc1, cc2, cc3, cc4, cc5, cc6, cc7⟩ := HF2.out _ HK.out
  refine (G1.out _ (HT.out.ch HK.out.ch)).mono ?_
  rintro e w4 ⟨rfl, hC⟩
  have HK2 := Lib.hid (HK.out.on hC)
  clear cc0 cc1 cc2 cc3 cc4 cc5 cc6 cc7
  clear hC HK
  have HK := HK2
  clear HK2
  obtain ⟨cc0, cc1, cc2, cc3, cc4, cc5, cc6, cc7⟩ := HF2.out _ HK.out
  go_wp2_with fail
  refine (G2.out _).mono ?_
  rintro e w5 ⟨rfl, hC⟩
  have HK2 := Lib.hid (HK.out.on hC)
  clear cc0 cc1 cc2 cc3 cc4 cc5 cc6 cc7
  clear hC HK
  have HK := HK2
  clear HK2
  obtain ⟨cc0, cc1, cc2, cc3, cc4, cc5, cc6, cc7⟩ := HF2.out _ HK.out
  go_wp2_with fail
  refine (G3.out _ (HT.out.ch HK.out.ch)).mono ?_
  rintro e w6 ⟨rfl, hC⟩
  have HK2 := Lib.hid (HK.out.on hC)
  clear cc0 cc1 cc2 cc3 cc4 cc5 cc6 cc7
  clear hC HK
  have HK := HK2
  clear HK2
  obtain ⟨cc0, cc1, cc2, cc3, cc4, cc5, cc6, cc7⟩ := HF2.out _ HK.out
  have hall := fun o : Obj => HF2.out _ (HK.out.other o)
  have dd0 : ∀ o : Obj, (w6.alloc o).cell? ⟨A, 0, none⟩ = some (.bool sa) := fun o => (hall o).1
  have dd1 : ∀ o : Obj, (w6.alloc o).cell? ⟨A, 1, none⟩ = some (S na) := fun o => (hall o).2.1
  have dd2 : ∀ o : Obj, (w6.alloc o).cell? ⟨A, 2, none⟩ = some (S da) := fun o => (hall o).2.2.1
  have dd3 : ∀ o : Obj, (w6.alloc o).cell? ⟨B + 1, 0, none⟩ = some (.int .i64 m0) := fun o => (hall o).2.2.2.1
  have dd4 : ∀ o : Obj, (w6.alloc o).cell? ⟨B + 1, 1, none⟩ = some (.int .i64 m1) := fun o => (hall o).2.2.2.2.1
  have dd5 : ∀ o : Obj, (w6.alloc o).cell? ⟨B, 0, none⟩ = some (.int .i64 x0) := fun o => (hall o).2.2.2.2.2.1
  have dd6 : ∀ o : Obj, (w6.alloc o).cell? ⟨B, 1, none⟩ = some (.int .i64 x1) := fun o => (hall o).2.2.2.2.2.2.1
  have dd7 : ∀ o : Obj, (w6.alloc o).cell? ⟨B, 2, none⟩ = some (.int .i64 x2) := fun o => (hall o).2.2.2.2.2.2.2
  clear hall
  go_wp2_with fail
  clear cc0 cc1 cc2 cc3 cc4 cc5 cc6 cc7 dd0 dd1 dd2 dd3 dd4 dd5 dd6 dd7
  have HK2 := Lib.hid (HK.out.new #[.bool sa, S na, S da] 24)
  obtain ⟨w7, hW⟩ : ∃ W, w6.alloc (.cells #[.bool sa, S na, S da] 24 (0, 0)) = W := ⟨_, rfl⟩
  rw [hW] at HK2 ⊢
  obtain ⟨Bk, hA⟩ : ∃ A, w6.heap.size = A := ⟨_, rfl⟩
  rw [hA] at HK2 ⊢
  clear hA hW HK
  have HK := HK2
  clear HK2
  have HF3 := Lib.hid (show ∀ W, Kq w W [(Bk, 24, [.bool sa, S na, S da]), (A, 24, [.bool sa, S na, S da]), (B + 1, 48, [.int .i64 m0, .int .i64 m1]), (B, 47, [.int .i64 x0, .int .i64 x1, .int .i64 x2])] → W.cell? ⟨Bk, 0, none⟩ = some (.bool sa) ∧ W.cell? ⟨Bk, 1, none⟩ = some (S na) ∧ W.cell? ⟨Bk, 2, none⟩ = some (S da) ∧ W.cell? ⟨A, 0, none⟩ = some (.bool sa) ∧ W.cell? ⟨A, 1, none⟩ = some (S na) ∧ W.cell? ⟨A, 2, none⟩ = some (S da) ∧ W.cell? ⟨B + 1, 0, none⟩ = some (.int .i64 m0) ∧ W.cell? ⟨B + 1, 1, none⟩ = some (.int .i64 m1) ∧ W.cell? ⟨B, 0, none⟩ = some (.int .i64 x0) ∧ W.cell? ⟨B, 1, none⟩ = some (.int .i64 x1) ∧ W.cell? ⟨B, 2, none⟩ = some (.int .i64 x2) from fun W h => ⟨(h.row _ (.head _)).cell 0, (h.row _ (.head _)).cell 1, (h.row _ (.head _)).cell 2, (h.row _ (.tail _ (.head _))).cell 0, (h.row _ (.tail _ (.head _))).cell 1, (h.row _ (.tail _ (.head _))).cell 2, (h.row _ (.tail _ (.tail _ (.head _)))).cell 0, (h.row _ (.tail _ (.tail _ (.head _)))).cell 1, (h.row _ (.tail _ (.tail _ (.tail _ (.head _))))).cell 0, (h.row _ (.tail _ (.tail _ (.tail _ (.head _))))).cell 1, (h.row _ (.tail _ (.tail _ (.tail _ (.head _))))).cell 2⟩)
  obtain ⟨cc0, cc1, cc2, cc3, cc4, cc5, cc6, cc7, cc8, cc9, cc10⟩ := HF3.out _ HK.out
  refine (G4.out _).mono ?_
  rintro e w8 ⟨rfl, hC⟩
  have HK2 := Lib.hid (HK.out.on hC)
  clear cc0 cc1 cc2 cc3 cc4 cc5 cc6 cc7 cc8 cc9 cc10
  clear hC HK
  have HK := HK2
  clear HK2
  obtain ⟨cc0, cc1, cc2, cc3, cc4, cc5, cc6, cc7, cc8, cc9, cc10⟩ := HF3.out _ HK.out
  go_wp2_with fail
  obtain ⟨kt, tl⟩ := HTL.out
  have f1 : (0 : Int) ≤ min (sl.length : Int) 40 := by omega
  have f2 : min (sl.length : Int) 40 ≤ (sl.length : Int) := by omega
  have f3 : (0 : Int) ≤ (k : Int) := by omega
  have f4 : (k : Int) ≤ (t.length : Int) := by omega
  have f5 : IntKind.i64.wrap ((k : Int) + 1) = (k : Int) + 1 := IntWalk.i64_in _ (by omega)
  have f6 : (0 : Int) ≤ (k : Int) + 1 := by omega
  have f7 : (k : Int) + 1 ≤ (t.length : Int) := by omega
  have f8 : ((k : Int) + 1).toNat = k + 1 := by omega
  have f9 : (k : Int).toNat = k := by omega
  obtain ⟨P0, hP0⟩ : ∃ l, sl.take 40 = l := ⟨_, rfl⟩
  obtain ⟨P1, hP1⟩ : ∃ l, t.take k = l := ⟨_, rfl⟩
  obtain ⟨P2, hP2⟩ : ∃ l, t.drop (k + 1) = l := ⟨_, rfl⟩
  have lp0 : P0.length ≤ 40 := by rw [← hP0, List.length_take]; omega
  have lp1 : P1.length ≤ 200 := by rw [← hP1, List.length_take]; omega
  have lp2 : P2.length ≤ 200 := by rw [← hP2, List.length_drop]; omega
  have f11 : ¬ 9223372036854775807 < P1.length + 1 := by omega
  have f12 : ¬ 9223372036854775807 < P1.length + 1 + P2.length := by omega
  have f13 : ¬ 9223372036854775807 < P1.length + (P2.length + 1) := by omega
  have q5 : (ByteArray.mk sl.toArray).extract 0 (min (sl.length : Int) 40).toNat = ByteArray.mk P0.toArray := by
    rw [← hP0]
    apply ByteArray.ext
    rw [ByteArray.data_extract]
    apply Array.toList_inj.1
    simp
    omega
  have q6 : (ByteArray.mk t.toArray).extract 0 k = ByteArray.mk P1.toArray := by rw [← hP1]; exact ext_take _ _
  have q7 : (ByteArray.mk t.toArray).extract (k + 1) t.length = ByteArray.mk P2.toArray := by rw [← hP2]; exact ext_drop t (k + 1) _ rfl
  have q8 : (ByteArray.mk P1.toArray ++ ByteArray.mk #[b]) = ByteArray.mk (P1 ++ [b]).toArray := cat_bytes P1 [b]
  have q9 : (ByteArray.mk (P1 ++ [b]).toArray ++ ByteArray.mk P2.toArray) = ByteArray.mk (P1 ++ [b] ++ P2).toArray := cat_bytes _ _
  have q10 : (ByteArray.mk #[48] ++ ByteArray.mk t.toArray) = ByteArray.mk (48 :: t).toArray := cat_bytes [48] t
  have f10 : ¬ 9223372036854775807 < 1 + t.length := by omega
  have HTX := Lib.hid (show ∀ x, x = P0 ∨ x = P1 ++ b :: P2 ∨ x = 48 :: t → ∃ s n d ok, AnsT 34 #[S x] (.tuple #[Rv s n d, .bool ok]) ∧ Ans 36 #[S x] (.tuple #[Rv s n d, .bool ok]) from fun x hx => by
    have e1 : P1.length = k := by rw [← hP1, List.length_take]; omega
    have e2 : P2.length = t.length - (k + 1) := by rw [← hP2, List.length_drop]
    rcases hx with rfl | rfl | rfl
    · exact two_parse _ (by omega)
    · exact two_parse _ (by simp only [List.length_append, List.length_cons]; omega)
    · exact two_parse _ (by simp only [List.length_cons]; omega))
  clear hP0 hP1 hP2 lp0 lp1 lp2
  clear kt tl
  go_cut [13] from 43 to 64 (fun p wx => ∃ X, p = .pointer (some ⟨X, 0, none⟩) ∧ Kq w wx [(X, 53, [S P0, S (P1 ++ b :: P2), S (48 :: t)]), (Bk, 24, [.bool sa, S na, S da]), (A, 24, [.bool sa, S na, S da]), (B + 1, 48, [.int .i64 m0, .int .i64 m1]), (B, 47, [.int .i64 x0, .int .i64 x1, .int .i64 x2])])
  case first =>
    clear cc0 cc1 cc2 cc3 cc4 cc5 cc6 cc7 cc8 cc9 cc10
    have HKD := Lib.hid HK.out.drew
    clear HK
    have HK := HKD
    clear HKD
    refine wp_region_held_drew (S := fun w' => w'.cell? ⟨Bk, 0, none⟩ = some (.bool sa) ∧ w'.cell? ⟨Bk, 1, none⟩ = some (S na) ∧ w'.cell? ⟨Bk, 2, none⟩ = some (S da) ∧ w'.cell? ⟨A, 0, none⟩ = some (.bool sa) ∧ w'.cell? ⟨A, 1, none⟩ = some (S na) ∧ w'.cell? ⟨A, 2, none⟩ = some (S da) ∧ w'.cell? ⟨B + 1, 0, none⟩ = some (.int .i64 m0) ∧ w'.cell? ⟨B + 1, 1, none⟩ = some (.int .i64 m1) ∧ w'.cell? ⟨B, 0, none⟩ = some (.int .i64 x0) ∧ w'.cell? ⟨B, 1, none⟩ = some (.int .i64 x1) ∧ w'.cell? ⟨B, 2, none⟩ = some (.int .i64 x2)) (by kernel_rfl) ?_ (fun hHeld => ?_)
    · (try dsimp only); exact HF3.out _ HK.out
    refine tk 0 (v := ?_) hHeld ?_ ?_
    rotate_left 1
    · intro _ hw; (try dsimp only at hw); go_simp; try with_reducible rfl
    (try simp only [Act.put, List.setIfInBounds_toArray, List.set_cons_zero, List.set_cons_succ])
    refine tk 1 (v := ?_) hHeld ?_ ?_
    rotate_left 1
    · intro _ hw; (try dsimp only at hw); go_simp; try with_reducible rfl
    (try simp only [Act.put, List.setIfInBounds_toArray, List.set_cons_zero, List.set_cons_succ])
    refine tk 2 (v := ?_) hHeld ?_ ?_
    rotate_left 1
    · intro _ hw; (try dsimp only at hw); go_simp; try with_reducible rfl
    (try simp only [Act.put, List.setIfInBounds_toArray, List.set_cons_zero, List.set_cons_succ])
    refine tk 3 (v := ?_) hHeld ?_ ?_
    rotate_left 1
    · intro _ hw; (try dsimp only at hw); go_simp; try with_reducible rfl
    (try simp only [Act.put, List.setIfInBounds_toArray, List.set_cons_zero, List.set_cons_succ])
    refine tk 4 (v := ?_) hHeld ?_ ?_
    rotate_left 1
    · intro _ hw; (try dsimp only at hw); go_simp; try with_reducible rfl
    (try simp only [Act.put, List.setIfInBounds_toArray, List.set_cons_zero, List.set_cons_succ])
    refine tk 5 (v := ?_) hHeld ?_ ?_
    rotate_left 1
    · intro _ hw; (try dsimp only at hw); go_simp; try with_reducible rfl
    (try simp only [Act.put, List.setIfInBounds_toArray, List.set_cons_zero, List.set_cons_succ])
    refine tk 6 (v := ?_) hHeld ?_ ?_
    rotate_left 1
    · intro _ hw; (try dsimp only at hw); go_simp; try with_reducible rfl
    (try simp only [Act.put, List.setIfInBounds_toArray, List.set_cons_zero, List.set_cons_succ])
    refine tk 7 (v := ?_) hHeld ?_ ?_
    rotate_left 1
    · intro _ hw; (try dsimp only at hw); go_simp; try with_reducible rfl
    (try simp only [Act.put, List.setIfInBounds_toArray, List.set_cons_zero, List.set_cons_succ])
    refine tk 8 (v := ?_) hHeld ?_ ?_
    rotate_left 1
    · intro _ hw; (try dsimp only at hw); go_simp; try with_reducible rfl
    (try simp only [Act.put, List.setIfInBounds_toArray, List.set_cons_zero, List.set_cons_succ])
    refine tk 9 (v := ?_) hHeld ?_ ?_
    rotate_left 1
    · intro _ hw; (try dsimp only at hw); go_simp; try with_reducible rfl
    (try simp only [Act.put, List.setIfInBounds_toArray, List.set_cons_zero, List.set_cons_succ])
    refine tk 10 (v := ?_) hHeld ?_ ?_
    rotate_left 1
    · intro _ hw; (try dsimp only at hw); go_simp; try with_reducible rfl
    (try simp only [Act.put, List.setIfInBounds_toArray, List.set_cons_zero, List.set_cons_succ])
    refine tk 14 (v := ?_) hHeld ?_ ?_
    rotate_left 1
    · intro _ hw; (try dsimp only at hw); go_simp; try with_reducible rfl
    (try simp only [Act.put, List.setIfInBounds_toArray, List.set_cons_zero, List.set_cons_succ])
    refine tk 15 (v := ?_) hHeld ?_ ?_
    rotate_left 1
    · intro _ hw; (try dsimp only at hw); go_simp; try with_reducible rfl
    (try simp only [Act.put, List.setIfInBounds_toArray, List.set_cons_zero, List.set_cons_succ])
    refine tk 16 (v := ?_) hHeld ?_ ?_
    rotate_left 1
    · intro _ hw; (try dsimp only at hw); go_simp; try with_reducible rfl
    (try simp only [Act.put, List.setIfInBounds_toArray, List.set_cons_zero, List.set_cons_succ])
    refine tk 17 (v := ?_) hHeld ?_ ?_
    rotate_left 1
    · intro _ hw; (try dsimp only at hw); go_simp; try with_reducible rfl
    (try simp only [Act.put, List.setIfInBounds_toArray, List.set_cons_zero, List.set_cons_succ])
    refine tk 19 (v := ?_) hHeld ?_ ?_
    rotate_left 1
    · intro _ hw; (try dsimp only at hw); go_simp; try with_reducible rfl
    (try simp only [Act.put, List.setIfInBounds_toArray, List.set_cons_zero, List.set_cons_succ])
    refine tk 20 (v := ?_) hHeld ?_ ?_
    rotate_left 1
    · intro _ hw; (try dsimp only at hw); go_simp; try with_reducible rfl
    (try simp only [Act.put, List.setIfInBounds_toArray, List.set_cons_zero, List.set_cons_succ])
    obtain ⟨Wd, hWd⟩ : ∃ W, w8.drew = W := ⟨_, rfl⟩
    rw [hWd] at HK hHeld ⊢
    clear hWd
    refine wpAnyH_ready (rs := [11, 22]) (by kernel_rfl) (by simp) ?_
    refine AllReadyH.cons (at_list rfl) (fun K hK => ?_) (AllReadyH.cons (at_list rfl) (fun K hK => ?_) (AllReadyH.nil))
    · go_simp
      clear hHeld
      have HK2 := Lib.hid (HK.out.new #[.int .u8 (b.toNat : Int)] 5)
      refine hK.out _ _ ?_ (fun hHeld => ?_)
      · (try dsimp only); exact HF3.out _ HK2.out.tail
      clear hK K hHeld
      obtain ⟨g1, hg⟩ : ∃ g, Wd.heap.size = g := ⟨_, rfl⟩
      have hltg1 := Lib.hid (show ∀ p ∈ [(Bk, 24, [.bool sa, S na, S da]), (A, 24, [.bool sa, S na, S da]), (B + 1, 48, [.int .i64 m0, .int .i64 m1]), (B, 47, [.int .i64 x0, .int .i64 x1, .int .i64 x2])], p.1 < g1 from fun p hp => by rw [← hg]; exact (HK.out.row p hp).lt)
      have hgeg1 := Lib.hid (show w.heap.size ≤ g1 by rw [← hg]; exact HK.out.ch.size)
      rw [hg] at HK2 ⊢
      clear hg HK
      have HK := HK2
      clear HK2
      obtain ⟨W1, hW⟩ : ∃ W, Wd.alloc (.cells #[.int .u8 (b.toNat : Int)] 5 (0, 0)) = W := ⟨_, rfl⟩
      rw [hW] at HK ⊢
      clear hW
      (try simp only [Act.put, List.setIfInBounds_toArray, List.set_cons_zero, List.set_cons_succ])
      have HA1 := Lib.hid (show ∀ W, Kq w W [(g1, 5, [.int .u8 (b.toNat : Int)]), (Bk, 24, [.bool sa, S na, S da]), (A, 24, [.bool sa, S na, S da]), (B + 1, 48, [.int .i64 m0, .int .i64 m1]), (B, 47, [.int .i64 x0, .int .i64 x1, .int .i64 x2])] → (W.cell? ⟨Bk, 0, none⟩ = some (.bool sa) ∧ W.cell? ⟨Bk, 1, none⟩ = some (S na) ∧ W.cell? ⟨Bk, 2, none⟩ = some (S da) ∧ W.cell? ⟨A, 0, none⟩ = some (.bool sa) ∧ W.cell? ⟨A, 1, none⟩ = some (S na) ∧ W.cell? ⟨A, 2, none⟩ = some (S da) ∧ W.cell? ⟨B + 1, 0, none⟩ = some (.int .i64 m0) ∧ W.cell? ⟨B + 1, 1, none⟩ = some (.int .i64 m1) ∧ W.cell? ⟨B, 0, none⟩ = some (.int .i64 x0) ∧ W.cell? ⟨B, 1, none⟩ = some (.int .i64 x1) ∧ W.cell? ⟨B, 2, none⟩ = some (.int .i64 x2)) ∧ W.cell? ⟨g1, 0, none⟩ = some (.int .u8 (b.toNat : Int)) from fun W h => ⟨⟨(h.row _ (.tail _ (.head _))).cell 0, (h.row _ (.tail _ (.head _))).cell 1, (h.row _ (.tail _ (.head _))).cell 2, (h.row _ (.tail _ (.tail _ (.head _)))).cell 0, (h.row _ (.tail _ (.tail _ (.head _)))).cell 1, (h.row _ (.tail _ (.tail _ (.head _)))).cell 2, (h.row _ (.tail _ (.tail _ (.tail _ (.head _))))).cell 0, (h.row _ (.tail _ (.tail _ (.tail _ (.head _))))).cell 1, (h.row _ (.tail _ (.tail _ (.tail _ (.tail _ (.head _)))))).cell 0, (h.row _ (.tail _ (.tail _ (.tail _ (.tail _ (.head _)))))).cell 1, (h.row _ (.tail _ (.tail _ (.tail _ (.tail _ (.head _)))))).cell 2⟩, (h.row _ (.head _)).cell 0⟩)
      refine wpAnyH_more (S' := fun w' => (w'.cell? ⟨Bk, 0, none⟩ = some (.bool sa) ∧ w'.cell? ⟨Bk, 1, none⟩ = some (S na) ∧ w'.cell? ⟨Bk, 2, none⟩ = some (S da) ∧ w'.cell? ⟨A, 0, none⟩ = some (.bool sa) ∧ w'.cell? ⟨A, 1, none⟩ = some (S na) ∧ w'.cell? ⟨A, 2, none⟩ = some (S da) ∧ w'.cell? ⟨B + 1, 0, none⟩ = some (.int .i64 m0) ∧ w'.cell? ⟨B + 1, 1, none⟩ = some (.int .i64 m1) ∧ w'.cell? ⟨B, 0, none⟩ = some (.int .i64 x0) ∧ w'.cell? ⟨B, 1, none⟩ = some (.int .i64 x1) ∧ w'.cell? ⟨B, 2, none⟩ = some (.int .i64 x2)) ∧ w'.cell? ⟨g1, 0, none⟩ = some (.int .u8 (b.toNat : Int))) (fun w' h => h.1) _ _ _ _ ?_
      have hHeld := HA1.out _ HK.out
      refine tk 12 (v := ?_) hHeld ?_ ?_
      rotate_left 1
      · intro _ hw; (try dsimp only at hw); have hcv := conv_one hw.2; go_simp; try with_reducible rfl
      (try simp only [Act.put, List.setIfInBounds_toArray, List.set_cons_zero, List.set_cons_succ])
      refine tk 13 (v := ?_) hHeld ?_ ?_
      rotate_left 1
      · intro _ hw; (try dsimp only at hw); go_simp; try with_reducible rfl
      (try simp only [Act.put, List.setIfInBounds_toArray, List.set_cons_zero, List.set_cons_succ])
      refine tk 18 (v := ?_) hHeld ?_ ?_
      rotate_left 1
      · intro _ hw; (try dsimp only at hw); go_simp; try with_reducible rfl
      (try simp only [Act.put, List.setIfInBounds_toArray, List.set_cons_zero, List.set_cons_succ])
      refine tk 21 (v := ?_) hHeld ?_ ?_
      rotate_left 1
      · intro _ hw; (try dsimp only at hw); go_simp; try with_reducible rfl
      (try simp only [Act.put, List.setIfInBounds_toArray, List.set_cons_zero, List.set_cons_succ])
      refine wpAnyH_ready (rs := [22]) (by kernel_rfl) (by simp) ?_
      refine AllReadyH.cons (at_list rfl) (fun K hK => ?_) (AllReadyH.nil)
      go_simp
      clear hHeld
      have HK2 := Lib.hid (HK.out.new #[S [], S [], S []] 53)
      refine hK.out _ _ ?_ (fun hHeld => ?_)
      · (try dsimp only); exact HA1.out _ HK2.out.tail
      clear hK K hHeld
      obtain ⟨X, hg⟩ : ∃ g, W1.heap.size = g := ⟨_, rfl⟩
      have hltX := Lib.hid (show ∀ p ∈ [(g1, 5, [.int .u8 (b.toNat : Int)]), (Bk, 24, [.bool sa, S na, S da]), (A, 24, [.bool sa, S na, S da]), (B + 1, 48, [.int .i64 m0, .int .i64 m1]), (B, 47, [.int .i64 x0, .int .i64 x1, .int .i64 x2])], p.1 < X from fun p hp => by rw [← hg]; exact (HK.out.row p hp).lt)
      have hgeX := Lib.hid (show w.heap.size ≤ X by rw [← hg]; exact HK.out.ch.size)
      rw [hg] at HK2 ⊢
      clear hg HK
      have HK := HK2
      clear HK2
      obtain ⟨W2, hW⟩ : ∃ W, W1.alloc (.cells #[S [], S [], S []] 53 (0, 0)) = W := ⟨_, rfl⟩
      rw [hW] at HK ⊢
      clear hW
      (try simp only [Act.put, List.setIfInBounds_toArray, List.set_cons_zero, List.set_cons_succ])
      have HA2 := Lib.hid (show ∀ W, Kq w W [(X, 53, [S [], S [], S []]), (g1, 5, [.int .u8 (b.toNat : Int)]), (Bk, 24, [.bool sa, S na, S da]), (A, 24, [.bool sa, S na, S da]), (B + 1, 48, [.int .i64 m0, .int .i64 m1]), (B, 47, [.int .i64 x0, .int .i64 x1, .int .i64 x2])] → (W.cell? ⟨Bk, 0, none⟩ = some (.bool sa) ∧ W.cell? ⟨Bk, 1, none⟩ = some (S na) ∧ W.cell? ⟨Bk, 2, none⟩ = some (S da) ∧ W.cell? ⟨A, 0, none⟩ = some (.bool sa) ∧ W.cell? ⟨A, 1, none⟩ = some (S na) ∧ W.cell? ⟨A, 2, none⟩ = some (S da) ∧ W.cell? ⟨B + 1, 0, none⟩ = some (.int .i64 m0) ∧ W.cell? ⟨B + 1, 1, none⟩ = some (.int .i64 m1) ∧ W.cell? ⟨B, 0, none⟩ = some (.int .i64 x0) ∧ W.cell? ⟨B, 1, none⟩ = some (.int .i64 x1) ∧ W.cell? ⟨B, 2, none⟩ = some (.int .i64 x2)) ∧ W.cell? ⟨g1, 0, none⟩ = some (.int .u8 (b.toNat : Int)) from fun W h => ⟨⟨(h.row _ (.tail _ (.tail _ (.head _)))).cell 0, (h.row _ (.tail _ (.tail _ (.head _)))).cell 1, (h.row _ (.tail _ (.tail _ (.head _)))).cell 2, (h.row _ (.tail _ (.tail _ (.tail _ (.head _))))).cell 0, (h.row _ (.tail _ (.tail _ (.tail _ (.head _))))).cell 1, (h.row _ (.tail _ (.tail _ (.tail _ (.head _))))).cell 2, (h.row _ (.tail _ (.tail _ (.tail _ (.tail _ (.head _)))))).cell 0, (h.row _ (.tail _ (.tail _ (.tail _ (.tail _ (.head _)))))).cell 1, (h.row _ (.tail _ (.tail _ (.tail _ (.tail _ (.tail _ (.head _))))))).cell 0, (h.row _ (.tail _ (.tail _ (.tail _ (.tail _ (.tail _ (.head _))))))).cell 1, (h.row _ (.tail _ (.tail _ (.tail _ (.tail _ (.tail _ (.head _))))))).cell 2⟩, (h.row _ (.tail _ (.head _))).cell 0⟩)
      have HA3 := Lib.hid (show ∀ W, Kq w W [(X, 53, [S P0, S (P1 ++ b :: P2), S (48 :: t)]), (g1, 5, [.int .u8 (b.toNat : Int)]), (Bk, 24, [.bool sa, S na, S da]), (A, 24, [.bool sa, S na, S da]), (B + 1, 48, [.int .i64 m0, .int .i64 m1]), (B, 47, [.int .i64 x0, .int .i64 x1, .int .i64 x2])] → (W.cell? ⟨Bk, 0, none⟩ = some (.bool sa) ∧ W.cell? ⟨Bk, 1, none⟩ = some (S na) ∧ W.cell? ⟨Bk, 2, none⟩ = some (S da) ∧ W.cell? ⟨A, 0, none⟩ = some (.bool sa) ∧ W.cell? ⟨A, 1, none⟩ = some (S na) ∧ W.cell? ⟨A, 2, none⟩ = some (S da) ∧ W.cell? ⟨B + 1, 0, none⟩ = some (.int .i64 m0) ∧ W.cell? ⟨B + 1, 1, none⟩ = some (.int .i64 m1) ∧ W.cell? ⟨B, 0, none⟩ = some (.int .i64 x0) ∧ W.cell? ⟨B, 1, none⟩ = some (.int .i64 x1) ∧ W.cell? ⟨B, 2, none⟩ = some (.int .i64 x2)) ∧ W.cell? ⟨g1, 0, none⟩ = some (.int .u8 (b.toNat : Int)) from fun W h => ⟨⟨(h.row _ (.tail _ (.tail _ (.head _)))).cell 0, (h.row _ (.tail _ (.tail _ (.head _)))).cell 1, (h.row _ (.tail _ (.tail _ (.head _)))).cell 2, (h.row _ (.tail _ (.tail _ (.tail _ (.head _))))).cell 0, (h.row _ (.tail _ (.tail _ (.tail _ (.head _))))).cell 1, (h.row _ (.tail _ (.tail _ (.tail _ (.head _))))).cell 2, (h.row _ (.tail _ (.tail _ (.tail _ (.tail _ (.head _)))))).cell 0, (h.row _ (.tail _ (.tail _ (.tail _ (.tail _ (.head _)))))).cell 1, (h.row _ (.tail _ (.tail _ (.tail _ (.tail _ (.tail _ (.head _))))))).cell 0, (h.row _ (.tail _ (.tail _ (.tail _ (.tail _ (.tail _ (.head _))))))).cell 1, (h.row _ (.tail _ (.tail _ (.tail _ (.tail _ (.tail _ (.head _))))))).cell 2⟩, (h.row _ (.tail _ (.head _))).cell 0⟩)
      have hHeld := HA2.out _ HK.out
      have e0 := (HK.out.row _ (.head _)).cell 0
      have e1 := (HK.out.row _ (.head _)).cell 1
      have e2 := (HK.out.row _ (.head _)).cell 2
      have f20 := (HK.out.row _ (.head _)).frozen 0
      have f21 := (HK.out.row _ (.head _)).frozen 1
      have f22 := (HK.out.row _ (.head _)).frozen 2
      refine wpAnyH_ready (rs := [23]) (by kernel_rfl) (by simp) ?_
      refine AllReadyH.cons (at_list rfl) (fun K hK => ?_) (AllReadyH.nil)
      go_simp
      clear hHeld e0 e1 e2 f20 f21 f22
      have HK2 := Lib.hid (HK.out.put3 hgeX.out (fun p hp => Nat.ne_of_lt (hltX.out p hp)) (S P0) (S (P1 ++ b :: P2)) (S (48 :: t)))
      refine hK.out _ _ ?_ (fun hHeld => ?_)
      · (try dsimp only); exact HA3.out _ HK2.out
      clear hK K hHeld
      (try simp only [Act.put, List.setIfInBounds_toArray, List.set_cons_zero, List.set_cons_succ])
      refine wpAnyH_done (by kernel_rfl) ?_ _
      go_wp2_with fail
      go_meet
      exact ⟨X, rfl, HK2.out.drop1⟩
    · go_simp
      clear hHeld
      have HK2 := Lib.hid (HK.out.new #[S [], S [], S []] 53)
      refine hK.out _ _ ?_ (fun hHeld => ?_)
      · (try dsimp only); exact HF3.out _ HK2.out.tail
      clear hK K hHeld
      obtain ⟨X, hg⟩ : ∃ g, Wd.heap.size = g := ⟨_, rfl⟩
      have hltX := Lib.hid (show ∀ p ∈ [(Bk, 24, [.bool sa, S na, S da]), (A, 24, [.bool sa, S na, S da]), (B + 1, 48, [.int .i64 m0, .int .i64 m1]), (B, 47, [.int .i64 x0, .int .i64 x1, .int .i64 x2])], p.1 < X from fun p hp => by rw [← hg]; exact (HK.out.row p hp).lt)
      have hgeX := Lib.hid (show w.heap.size ≤ X by rw [← hg]; exact HK.out.ch.size)
      rw [hg] at HK2 ⊢
      clear hg HK
      have HK := HK2
      clear HK2
      obtain ⟨W1, hW⟩ : ∃ W, Wd.alloc (.cells #[S [], S [], S []] 53 (0, 0)) = W := ⟨_, rfl⟩
      rw [hW] at HK ⊢
      clear hW
      (try simp only [Act.put, List.setIfInBounds_toArray, List.set_cons_zero, List.set_cons_succ])
      have HB1 := Lib.hid (show ∀ W, Kq w W [(X, 53, [S [], S [], S []]), (Bk, 24, [.bool sa, S na, S da]), (A, 24, [.bool sa, S na, S da]), (B + 1, 48, [.int .i64 m0, .int .i64 m1]), (B, 47, [.int .i64 x0, .int .i64 x1, .int .i64 x2])] → W.cell? ⟨Bk, 0, none⟩ = some (.bool sa) ∧ W.cell? ⟨Bk, 1, none⟩ = some (S na) ∧ W.cell? ⟨Bk, 2, none⟩ = some (S da) ∧ W.cell? ⟨A, 0, none⟩ = some (.bool sa) ∧ W.cell? ⟨A, 1, none⟩ = some (S na) ∧ W.cell? ⟨A, 2, none⟩ = some (S da) ∧ W.cell? ⟨B + 1, 0, none⟩ = some (.int .i64 m0) ∧ W.cell? ⟨B + 1, 1, none⟩ = some (.int .i64 m1) ∧ W.cell? ⟨B, 0, none⟩ = some (.int .i64 x0) ∧ W.cell? ⟨B, 1, none⟩ = some (.int .i64 x1) ∧ W.cell? ⟨B, 2, none⟩ = some (.int .i64 x2) from fun W h => ⟨(h.row _ (.tail _ (.head _))).cell 0, (h.row _ (.tail _ (.head _))).cell 1, (h.row _ (.tail _ (.head _))).cell 2, (h.row _ (.tail _ (.tail _ (.head _)))).cell 0, (h.row _ (.tail _ (.tail _ (.head _)))).cell 1, (h.row _ (.tail _ (.tail _ (.head _)))).cell 2, (h.row _ (.tail _ (.tail _ (.tail _ (.head _))))).cell 0, (h.row _ (.tail _ (.tail _ (.tail _ (.head _))))).cell 1, (h.row _ (.tail _ (.tail _ (.tail _ (.tail _ (.head _)))))).cell 0, (h.row _ (.tail _ (.tail _ (.tail _ (.tail _ (.head _)))))).cell 1, (h.row _ (.tail _ (.tail _ (.tail _ (.tail _ (.head _)))))).cell 2⟩)
      have hHeld := HB1.out _ HK.out
      refine wpAnyH_ready (rs := [11]) (by kernel_rfl) (by simp) ?_
      refine AllReadyH.cons (at_list rfl) (fun K hK => ?_) (AllReadyH.nil)
      go_simp
      clear hHeld
      have HK2 := Lib.hid (HK.out.new #[.int .u8 (b.toNat : Int)] 5)
      refine hK.out _ _ ?_ (fun hHeld => ?_)
      · (try dsimp only); exact HB1.out _ HK2.out.tail
      clear hK K hHeld
      obtain ⟨g1, hg⟩ : ∃ g, W1.heap.size = g := ⟨_, rfl⟩
      have hltg1 := Lib.hid (show ∀ p ∈ [(X, 53, [S [], S [], S []]), (Bk, 24, [.bool sa, S na, S da]), (A, 24, [.bool sa, S na, S da]), (B + 1, 48, [.int .i64 m0, .int .i64 m1]), (B, 47, [.int .i64 x0, .int .i64 x1, .int .i64 x2])], p.1 < g1 from fun p hp => by rw [← hg]; exact (HK.out.row p hp).lt)
      have hgeg1 := Lib.hid (show w.heap.size ≤ g1 by rw [← hg]; exact HK.out.ch.size)
      rw [hg] at HK2 ⊢
      clear hg HK
      have HK := HK2
      clear HK2
      obtain ⟨W2, hW⟩ : ∃ W, W1.alloc (.cells #[.int .u8 (b.toNat : Int)] 5 (0, 0)) = W := ⟨_, rfl⟩
      rw [hW] at HK ⊢
      clear hW
      (try simp only [Act.put, List.setIfInBounds_toArray, List.set_cons_zero, List.set_cons_succ])
      have HK2 := Lib.hid HK.out.swap
      clear HK
      have HK := HK2
      clear HK2
      have HB2 := Lib.hid (show ∀ W, Kq w W [(X, 53, [S [], S [], S []]), (g1, 5, [.int .u8 (b.toNat : Int)]), (Bk, 24, [.bool sa, S na, S da]), (A, 24, [.bool sa, S na, S da]), (B + 1, 48, [.int .i64 m0, .int .i64 m1]), (B, 47, [.int .i64 x0, .int .i64 x1, .int .i64 x2])] → (W.cell? ⟨Bk, 0, none⟩ = some (.bool sa) ∧ W.cell? ⟨Bk, 1, none⟩ = some (S na) ∧ W.cell? ⟨Bk, 2, none⟩ = some (S da) ∧ W.cell? ⟨A, 0, none⟩ = some (.bool sa) ∧ W.cell? ⟨A, 1, none⟩ = some (S na) ∧ W.cell? ⟨A, 2, none⟩ = some (S da) ∧ W.cell? ⟨B + 1, 0, none⟩ = some (.int .i64 m0) ∧ W.cell? ⟨B + 1, 1, none⟩ = some (.int .i64 m1) ∧ W.cell? ⟨B, 0, none⟩ = some (.int .i64 x0) ∧ W.cell? ⟨B, 1, none⟩ = some (.int .i64 x1) ∧ W.cell? ⟨B, 2, none⟩ = some (.int .i64 x2)) ∧ W.cell? ⟨g1, 0, none⟩ = some (.int .u8 (b.toNat : Int)) from fun W h => ⟨⟨(h.row _ (.tail _ (.tail _ (.head _)))).cell 0, (h.row _ (.tail _ (.tail _ (.head _)))).cell 1, (h.row _ (.tail _ (.tail _ (.head _)))).cell 2, (h.row _ (.tail _ (.tail _ (.tail _ (.head _))))).cell 0, (h.row _ (.tail _ (.tail _ (.tail _ (.head _))))).cell 1, (h.row _ (.tail _ (.tail _ (.tail _ (.head _))))).cell 2, (h.row _ (.tail _ (.tail _ (.tail _ (.tail _ (.head _)))))).cell 0, (h.row _ (.tail _ (.tail _ (.tail _ (.tail _ (.head _)))))).cell 1, (h.row _ (.tail _ (.tail _ (.tail _ (.tail _ (.tail _ (.head _))))))).cell 0, (h.row _ (.tail _ (.tail _ (.tail _ (.tail _ (.tail _ (.head _))))))).cell 1, (h.row _ (.tail _ (.tail _ (.tail _ (.tail _ (.tail _ (.head _))))))).cell 2⟩, (h.row _ (.tail _ (.head _))).cell 0⟩)
      refine wpAnyH_more (S' := fun w' => (w'.cell? ⟨Bk, 0, none⟩ = some (.bool sa) ∧ w'.cell? ⟨Bk, 1, none⟩ = some (S na) ∧ w'.cell? ⟨Bk, 2, none⟩ = some (S da) ∧ w'.cell? ⟨A, 0, none⟩ = some (.bool sa) ∧ w'.cell? ⟨A, 1, none⟩ = some (S na) ∧ w'.cell? ⟨A, 2, none⟩ = some (S da) ∧ w'.cell? ⟨B + 1, 0, none⟩ = some (.int .i64 m0) ∧ w'.cell? ⟨B + 1, 1, none⟩ = some (.int .i64 m1) ∧ w'.cell? ⟨B, 0, none⟩ = some (.int .i64 x0) ∧ w'.cell? ⟨B, 1, none⟩ = some (.int .i64 x1) ∧ w'.cell? ⟨B, 2, none⟩ = some (.int .i64 x2)) ∧ w'.cell? ⟨g1, 0, none⟩ = some (.int .u8 (b.toNat : Int))) (fun w' h => h.1) _ _ _ _ ?_
      have hHeld := HB2.out _ HK.out
      refine tk 12 (v := ?_) hHeld ?_ ?_
      rotate_left 1
      · intro _ hw; (try dsimp only at hw); have hcv := conv_one hw.2; go_simp; try with_reducible rfl
      (try simp only [Act.put, List.setIfInBounds_toArray, List.set_cons_zero, List.set_cons_succ])
      refine tk 13 (v := ?_) hHeld ?_ ?_
      rotate_left 1
      · intro _ hw; (try dsimp only at hw); go_simp; try with_reducible rfl
      (try simp only [Act.put, List.setIfInBounds_toArray, List.set_cons_zero, List.set_cons_succ])
      refine tk 18 (v := ?_) hHeld ?_ ?_
      rotate_left 1
      · intro _ hw; (try dsimp only at hw); go_simp; try with_reducible rfl
      (try simp only [Act.put, List.setIfInBounds_toArray, List.set_cons_zero, List.set_cons_succ])
      refine tk 21 (v := ?_) hHeld ?_ ?_
      rotate_left 1
      · intro _ hw; (try dsimp only at hw); go_simp; try with_reducible rfl
      (try simp only [Act.put, List.setIfInBounds_toArray, List.set_cons_zero, List.set_cons_succ])
      have HB3 := Lib.hid (show ∀ W, Kq w W [(X, 53, [S P0, S (P1 ++ b :: P2), S (48 :: t)]), (g1, 5, [.int .u8 (b.toNat : Int)]), (Bk, 24, [.bool sa, S na, S da]), (A, 24, [.bool sa, S na, S da]), (B + 1, 48, [.int .i64 m0, .int .i64 m1]), (B, 47, [.int .i64 x0, .int .i64 x1, .int .i64 x2])] → (W.cell? ⟨Bk, 0, none⟩ = some (.bool sa) ∧ W.cell? ⟨Bk, 1, none⟩ = some (S na) ∧ W.cell? ⟨Bk, 2, none⟩ = some (S da) ∧ W.cell? ⟨A, 0, none⟩ = some (.bool sa) ∧ W.cell? ⟨A, 1, none⟩ = some (S na) ∧ W.cell? ⟨A, 2, none⟩ = some (S da) ∧ W.cell? ⟨B + 1, 0, none⟩ = some (.int .i64 m0) ∧ W.cell? ⟨B + 1, 1, none⟩ = some (.int .i64 m1) ∧ W.cell? ⟨B, 0, none⟩ = some (.int .i64 x0) ∧ W.cell? ⟨B, 1, none⟩ = some (.int .i64 x1) ∧ W.cell? ⟨B, 2, none⟩ = some (.int .i64 x2)) ∧ W.cell? ⟨g1, 0, none⟩ = some (.int .u8 (b.toNat : Int)) from fun W h => ⟨⟨(h.row _ (.tail _ (.tail _ (.head _)))).cell 0, (h.row _ (.tail _ (.tail _ (.head _)))).cell 1, (h.row _ (.tail _ (.tail _ (.head _)))).cell 2, (h.row _ (.tail _ (.tail _ (.tail _ (.head _))))).cell 0, (h.row _ (.tail _ (.tail _ (.tail _ (.head _))))).cell 1, (h.row _ (.tail _ (.tail _ (.tail _ (.head _))))).cell 2, (h.row _ (.tail _ (.tail _ (.tail _ (.tail _ (.head _)))))).cell 0, (h.row _ (.tail _ (.tail _ (.tail _ (.tail _ (.head _)))))).cell 1, (h.row _ (.tail _ (.tail _ (.tail _ (.tail _ (.tail _ (.head _))))))).cell 0, (h.row _ (.tail _ (.tail _ (.tail _ (.tail _ (.tail _ (.head _))))))).cell 1, (h.row _ (.tail _ (.tail _ (.tail _ (.tail _ (.tail _ (.head _))))))).cell 2⟩, (h.row _ (.tail _ (.head _))).cell 0⟩)
      have e0 := (HK.out.row _ (.head _)).cell 0
      have e1 := (HK.out.row _ (.head _)).cell 1
      have e2 := (HK.out.row _ (.head _)).cell 2
      have f20 := (HK.out.row _ (.head _)).frozen 0
      have f21 := (HK.out.row _ (.head _)).frozen 1
      have f22 := (HK.out.row _ (.head _)).frozen 2
      refine wpAnyH_ready (rs := [23]) (by kernel_rfl) (by simp) ?_
      refine AllReadyH.cons (at_list rfl) (fun K hK => ?_) (AllReadyH.nil)
      go_simp
      clear hHeld e0 e1 e2 f20 f21 f22
      have HK2 := Lib.hid (HK.out.put3 hgeX.out (fun p hp => by
        rcases List.mem_cons.1 hp with rfl | hp
        · exact Nat.ne_of_gt (hltg1.out _ (.head _))
        · exact Nat.ne_of_lt (hltX.out p hp)) (S P0) (S (P1 ++ b :: P2)) (S (48 :: t)))
      refine hK.out _ _ ?_ (fun hHeld => ?_)
      · (try dsimp only); exact HB3.out _ HK2.out
      clear hK K hHeld
      (try simp only [Act.put, List.setIfInBounds_toArray, List.set_cons_zero, List.set_cons_succ])
      refine wpAnyH_done (by kernel_rfl) ?_ _
      go_wp2_with fail
      go_meet
      exact ⟨X, rfl, HK2.out.drop1⟩
  case rest =>
    obtain ⟨X, rfl, hKK⟩ := hcut
    have HK := Lib.hid hKK
    clear hKK HTL f1 f2 f3 f4 f5 f6 f7 f8 f9 f10 f11 f12 f13 q5 q6 q7 q8 q9 q10 hb hz0 hne0 cc0 cc1 cc2 cc3 cc4 cc5 cc6 cc7 cc8 cc9 cc10
    go_wp2_with fail
    go_loopw [14] (fun a wr => ∃ i : Nat, i ≤ 3 ∧ a = .int .i64 (i : Int) ∧ Kq w wr [(X, 53, [S P0, S (P1 ++ b :: P2), S (48 :: t)]), (Bk, 24, [.bool sa, S na, S da]), (A, 24, [.bool sa, S na, S da]), (B + 1, 48, [.int .i64 m0, .int .i64 m1]), (B, 47, [.int .i64 x0, .int .i64 x1, .int .i64 x2])]) (fun a _ => 3 - (intOf a).toNat)
    case atStart => exact ⟨0, by omega, rfl, HK.out⟩
    case round =>
      obtain ⟨i, hi, rfl, hKK⟩ := hrel
      have HK := Lib.hid hKK
      clear hKK
      by_cases hlt : i < 3
      · obtain ⟨x, hx⟩ : ∃ x, [P0, P1 ++ b :: P2, 48 :: t][i] = x := ⟨_, rfl⟩
        have hlt' : (i : Int) < 3 := by omega
        have HXC := Lib.hid (show ∀ W, Kq w W [(X, 53, [S P0, S (P1 ++ b :: P2), S (48 :: t)]), (Bk, 24, [.bool sa, S na, S da]), (A, 24, [.bool sa, S na, S da]), (B + 1, 48, [.int .i64 m0, .int .i64 m1]), (B, 47, [.int .i64 x0, .int .i64 x1, .int .i64 x2])] → W.cell? ⟨X, i, none⟩ = some (S x) from fun W h => ((h.row _ (.head _)).cell i).trans (row_at (l := [P0, P1 ++ b :: P2, 48 :: t]) hlt hx))
        obtain ⟨s1, n1, d1, ok, h5, h6⟩ := HTX.out x (rows3 hlt hx)
        have H5 := Lib.hid h5
        have H6 := Lib.hid h6
        have cx := HXC.out _ HK.out
        clear hx h5 h6
        have HF51 := Lib.hid (show ∀ W, Kq w W [(X, 53, [S P0, S (P1 ++ b :: P2), S (48 :: t)]), (Bk, 24, [.bool sa, S na, S da]), (A, 24, [.bool sa, S na, S da]), (B + 1, 48, [.int .i64 m0, .int .i64 m1]), (B, 47, [.int .i64 x0, .int .i64 x1, .int .i64 x2])] → W.cell? ⟨X, 0, none⟩ = some (S P0) ∧ W.cell? ⟨X, 1, none⟩ = some (S (P1 ++ b :: P2)) ∧ W.cell? ⟨X, 2, none⟩ = some (S (48 :: t)) ∧ W.cell? ⟨Bk, 0, none⟩ = some (.bool sa) ∧ W.cell? ⟨Bk, 1, none⟩ = some (S na) ∧ W.cell? ⟨Bk, 2, none⟩ = some (S da) ∧ W.cell? ⟨A, 0, none⟩ = some (.bool sa) ∧ W.cell? ⟨A, 1, none⟩ = some (S na) ∧ W.cell? ⟨A, 2, none⟩ = some (S da) ∧ W.cell? ⟨B + 1, 0, none⟩ = some (.int .i64 m0) ∧ W.cell? ⟨B + 1, 1, none⟩ = some (.int .i64 m1) ∧ W.cell? ⟨B, 0, none⟩ = some (.int .i64 x0) ∧ W.cell? ⟨B, 1, none⟩ = some (.int .i64 x1) ∧ W.cell? ⟨B, 2, none⟩ = some (.int .i64 x2) from fun W h => ⟨(h.row _ (.head _)).cell 0, (h.row _ (.head _)).cell 1, (h.row _ (.head _)).cell 2, (h.row _ (.tail _ (.head _))).cell 0, (h.row _ (.tail _ (.head _))).cell 1, (h.row _ (.tail _ (.head _))).cell 2, (h.row _ (.tail _ (.tail _ (.head _)))).cell 0, (h.row _ (.tail _ (.tail _ (.head _)))).cell 1, (h.row _ (.tail _ (.tail _ (.head _)))).cell 2, (h.row _ (.tail _ (.tail _ (.tail _ (.head _))))).cell 0, (h.row _ (.tail _ (.tail _ (.tail _ (.head _))))).cell 1, (h.row _ (.tail _ (.tail _ (.tail _ (.tail _ (.head _)))))).cell 0, (h.row _ (.tail _ (.tail _ (.tail _ (.tail _ (.head _)))))).cell 1, (h.row _ (.tail _ (.tail _ (.tail _ (.tail _ (.head _)))))).cell 2⟩)
        go_wp2_with fail
        refine (H5.out _ (HT.out.ch HK.out.ch)).mono ?_
        rintro e w201 ⟨rfl, hC⟩
        have HK2 := Lib.hid (HK.out.on hC)
        clear hC HK
        have HK := HK2
        clear HK2
        obtain ⟨cc0, cc1, cc2, cc3, cc4, cc5, cc6, cc7, cc8, cc9, cc10, cc11, cc12, cc13⟩ := HF51.out _ HK.out
        have hall := fun o : Obj => HF51.out _ (HK.out.other o)
        have dd0 : ∀ o : Obj, (w201.alloc o).cell? ⟨X, 0, none⟩ = some (S P0) := fun o => (hall o).1
        have dd1 : ∀ o : Obj, (w201.alloc o).cell? ⟨X, 1, none⟩ = some (S (P1 ++ b :: P2)) := fun o => (hall o).2.1
        have dd2 : ∀ o : Obj, (w201.alloc o).cell? ⟨X, 2, none⟩ = some (S (48 :: t)) := fun o => (hall o).2.2.1
        have dd3 : ∀ o : Obj, (w201.alloc o).cell? ⟨Bk, 0, none⟩ = some (.bool sa) := fun o => (hall o).2.2.2.1
        have dd4 : ∀ o : Obj, (w201.alloc o).cell? ⟨Bk, 1, none⟩ = some (S na) := fun o => (hall o).2.2.2.2.1
        have dd5 : ∀ o : Obj, (w201.alloc o).cell? ⟨Bk, 2, none⟩ = some (S da) := fun o => (hall o).2.2.2.2.2.1
        have dd6 : ∀ o : Obj, (w201.alloc o).cell? ⟨A, 0, none⟩ = some (.bool sa) := fun o => (hall o).2.2.2.2.2.2.1
        have dd7 : ∀ o : Obj, (w201.alloc o).cell? ⟨A, 1, none⟩ = some (S na) := fun o => (hall o).2.2.2.2.2.2.2.1
        have dd8 : ∀ o : Obj, (w201.alloc o).cell? ⟨A, 2, none⟩ = some (S da) := fun o => (hall o).2.2.2.2.2.2.2.2.1
        have dd9 : ∀ o : Obj, (w201.alloc o).cell? ⟨B + 1, 0, none⟩ = some (.int .i64 m0) := fun o => (hall o).2.2.2.2.2.2.2.2.2.1
        have dd10 : ∀ o : Obj, (w201.alloc o).cell? ⟨B + 1, 1, none⟩ = some (.int .i64 m1) := fun o => (hall o).2.2.2.2.2.2.2.2.2.2.1
        have dd11 : ∀ o : Obj, (w201.alloc o).cell? ⟨B, 0, none⟩ = some (.int .i64 x0) := fun o => (hall o).2.2.2.2.2.2.2.2.2.2.2.1
        have dd12 : ∀ o : Obj, (w201.alloc o).cell? ⟨B, 1, none⟩ = some (.int .i64 x1) := fun o => (hall o).2.2.2.2.2.2.2.2.2.2.2.2.1
        have dd13 : ∀ o : Obj, (w201.alloc o).cell? ⟨B, 2, none⟩ = some (.int .i64 x2) := fun o => (hall o).2.2.2.2.2.2.2.2.2.2.2.2.2
        clear hall
        have cxo := fun o : Obj => HXC.out _ (HK.out.other o)
        clear cx
        go_wp2_with fail
        clear cxo
        clear cc0 cc1 cc2 cc3 cc4 cc5 cc6 cc7 cc8 cc9 cc10 cc11 cc12 cc13 dd0 dd1 dd2 dd3 dd4 dd5 dd6 dd7 dd8 dd9 dd10 dd11 dd12 dd13
        have HK2 := Lib.hid (HK.out.new #[.bool s1, S n1, S d1] 24)
        obtain ⟨w202, hW⟩ : ∃ W, w201.alloc (.cells #[.bool s1, S n1, S d1] 24 (0, 0)) = W := ⟨_, rfl⟩
        rw [hW] at HK2 ⊢
        obtain ⟨Bb, hA⟩ : ∃ A, w201.heap.size = A := ⟨_, rfl⟩
        rw [hA] at HK2 ⊢
        clear hA hW HK
        have HK := HK2
        clear HK2
        have HF52 := Lib.hid (show ∀ W, Kq w W [(Bb, 24, [.bool s1, S n1, S d1]), (X, 53, [S P0, S (P1 ++ b :: P2), S (48 :: t)]), (Bk, 24, [.bool sa, S na, S da]), (A, 24, [.bool sa, S na, S da]), (B + 1, 48, [.int .i64 m0, .int .i64 m1]), (B, 47, [.int .i64 x0, .int .i64 x1, .int .i64 x2])] → W.cell? ⟨Bb, 0, none⟩ = some (.bool s1) ∧ W.cell? ⟨Bb, 1, none⟩ = some (S n1) ∧ W.cell? ⟨Bb, 2, none⟩ = some (S d1) ∧ W.cell? ⟨X, 0, none⟩ = some (S P0) ∧ W.cell? ⟨X, 1, none⟩ = some (S (P1 ++ b :: P2)) ∧ W.cell? ⟨X, 2, none⟩ = some (S (48 :: t)) ∧ W.cell? ⟨Bk, 0, none⟩ = some (.bool sa) ∧ W.cell? ⟨Bk, 1, none⟩ = some (S na) ∧ W.cell? ⟨Bk, 2, none⟩ = some (S da) ∧ W.cell? ⟨A, 0, none⟩ = some (.bool sa) ∧ W.cell? ⟨A, 1, none⟩ = some (S na) ∧ W.cell? ⟨A, 2, none⟩ = some (S da) ∧ W.cell? ⟨B + 1, 0, none⟩ = some (.int .i64 m0) ∧ W.cell? ⟨B + 1, 1, none⟩ = some (.int .i64 m1) ∧ W.cell? ⟨B, 0, none⟩ = some (.int .i64 x0) ∧ W.cell? ⟨B, 1, none⟩ = some (.int .i64 x1) ∧ W.cell? ⟨B, 2, none⟩ = some (.int .i64 x2) from fun W h => ⟨(h.row _ (.head _)).cell 0, (h.row _ (.head _)).cell 1, (h.row _ (.head _)).cell 2, (h.row _ (.tail _ (.head _))).cell 0, (h.row _ (.tail _ (.head _))).cell 1, (h.row _ (.tail _ (.head _))).cell 2, (h.row _ (.tail _ (.tail _ (.head _)))).cell 0, (h.row _ (.tail _ (.tail _ (.head _)))).cell 1, (h.row _ (.tail _ (.tail _ (.head _)))).cell 2, (h.row _ (.tail _ (.tail _ (.tail _ (.head _))))).cell 0, (h.row _ (.tail _ (.tail _ (.tail _ (.head _))))).cell 1, (h.row _ (.tail _ (.tail _ (.tail _ (.head _))))).cell 2, (h.row _ (.tail _ (.tail _ (.tail _ (.tail _ (.head _)))))).cell 0, (h.row _ (.tail _ (.tail _ (.tail _ (.tail _ (.head _)))))).cell 1, (h.row _ (.tail _ (.tail _ (.tail _ (.tail _ (.tail _ (.head _))))))).cell 0, (h.row _ (.tail _ (.tail _ (.tail _ (.tail _ (.tail _ (.head _))))))).cell 1, (h.row _ (.tail _ (.tail _ (.tail _ (.tail _ (.tail _ (.head _))))))).cell 2⟩)
        obtain ⟨cc0, cc1, cc2, cc3, cc4, cc5, cc6, cc7, cc8, cc9, cc10, cc11, cc12, cc13, cc14, cc15, cc16⟩ := HF52.out _ HK.out
        refine (H6.out _).mono ?_
        rintro e w203 ⟨rfl, hC⟩
        have HK2 := Lib.hid (HK.out.on hC)
        clear cc0 cc1 cc2 cc3 cc4 cc5 cc6 cc7 cc8 cc9 cc10 cc11 cc12 cc13 cc14 cc15 cc16
        clear hC HK
        have HK := HK2
        clear HK2
        obtain ⟨cc0, cc1, cc2, cc3, cc4, cc5, cc6, cc7, cc8, cc9, cc10, cc11, cc12, cc13, cc14, cc15, cc16⟩ := HF52.out _ HK.out
        have hall := fun o : Obj => HF52.out _ (HK.out.other o)
        have dd0 : ∀ o : Obj, (w203.alloc o).cell? ⟨Bb, 0, none⟩ = some (.bool s1) := fun o => (hall o).1
        have dd1 : ∀ o : Obj, (w203.alloc o).cell? ⟨Bb, 1, none⟩ = some (S n1) := fun o => (hall o).2.1
        have dd2 : ∀ o : Obj, (w203.alloc o).cell? ⟨Bb, 2, none⟩ = some (S d1) := fun o => (hall o).2.2.1
        have dd3 : ∀ o : Obj, (w203.alloc o).cell? ⟨X, 0, none⟩ = some (S P0) := fun o => (hall o).2.2.2.1
        have dd4 : ∀ o : Obj, (w203.alloc o).cell? ⟨X, 1, none⟩ = some (S (P1 ++ b :: P2)) := fun o => (hall o).2.2.2.2.1
        have dd5 : ∀ o : Obj, (w203.alloc o).cell? ⟨X, 2, none⟩ = some (S (48 :: t)) := fun o => (hall o).2.2.2.2.2.1
        have dd6 : ∀ o : Obj, (w203.alloc o).cell? ⟨Bk, 0, none⟩ = some (.bool sa) := fun o => (hall o).2.2.2.2.2.2.1
        have dd7 : ∀ o : Obj, (w203.alloc o).cell? ⟨Bk, 1, none⟩ = some (S na) := fun o => (hall o).2.2.2.2.2.2.2.1
        have dd8 : ∀ o : Obj, (w203.alloc o).cell? ⟨Bk, 2, none⟩ = some (S da) := fun o => (hall o).2.2.2.2.2.2.2.2.1
        have dd9 : ∀ o : Obj, (w203.alloc o).cell? ⟨A, 0, none⟩ = some (.bool sa) := fun o => (hall o).2.2.2.2.2.2.2.2.2.1
        have dd10 : ∀ o : Obj, (w203.alloc o).cell? ⟨A, 1, none⟩ = some (S na) := fun o => (hall o).2.2.2.2.2.2.2.2.2.2.1
        have dd11 : ∀ o : Obj, (w203.alloc o).cell? ⟨A, 2, none⟩ = some (S da) := fun o => (hall o).2.2.2.2.2.2.2.2.2.2.2.1
        have dd12 : ∀ o : Obj, (w203.alloc o).cell? ⟨B + 1, 0, none⟩ = some (.int .i64 m0) := fun o => (hall o).2.2.2.2.2.2.2.2.2.2.2.2.1
        have dd13 : ∀ o : Obj, (w203.alloc o).cell? ⟨B + 1, 1, none⟩ = some (.int .i64 m1) := fun o => (hall o).2.2.2.2.2.2.2.2.2.2.2.2.2.1
        have dd14 : ∀ o : Obj, (w203.alloc o).cell? ⟨B, 0, none⟩ = some (.int .i64 x0) := fun o => (hall o).2.2.2.2.2.2.2.2.2.2.2.2.2.2.1
        have dd15 : ∀ o : Obj, (w203.alloc o).cell? ⟨B, 1, none⟩ = some (.int .i64 x1) := fun o => (hall o).2.2.2.2.2.2.2.2.2.2.2.2.2.2.2.1
        have dd16 : ∀ o : Obj, (w203.alloc o).cell? ⟨B, 2, none⟩ = some (.int .i64 x2) := fun o => (hall o).2.2.2.2.2.2.2.2.2.2.2.2.2.2.2.2
        clear hall
        go_wp2_with fail
        clear cc0 cc1 cc2 cc3 cc4 cc5 cc6 cc7 cc8 cc9 cc10 cc11 cc12 cc13 cc14 cc15 cc16 dd0 dd1 dd2 dd3 dd4 dd5 dd6 dd7 dd8 dd9 dd10 dd11 dd12 dd13 dd14 dd15 dd16
        go_roundw
        case rel => exact ⟨i + 1, by omega, by go_num, (HK.out.other _).tail⟩
        case measure => simp [intOf]; omega
      · obtain rfl : i = 3 := by omega
        have HF71 := Lib.hid (show ∀ W, Kq w W [(X, 53, [S P0, S (P1 ++ b :: P2), S (48 :: t)]), (Bk, 24, [.bool sa, S na, S da]), (A, 24, [.bool sa, S na, S da]), (B + 1, 48, [.int .i64 m0, .int .i64 m1]), (B, 47, [.int .i64 x0, .int .i64 x1, .int .i64 x2])] → W.cell? ⟨X, 0, none⟩ = some (S P0) ∧ W.cell? ⟨X, 1, none⟩ = some (S (P1 ++ b :: P2)) ∧ W.cell? ⟨X, 2, none⟩ = some (S (48 :: t)) ∧ W.cell? ⟨Bk, 0, none⟩ = some (.bool sa) ∧ W.cell? ⟨Bk, 1, none⟩ = some (S na) ∧ W.cell? ⟨Bk, 2, none⟩ = some (S da) ∧ W.cell? ⟨A, 0, none⟩ = some (.bool sa) ∧ W.cell? ⟨A, 1, none⟩ = some (S na) ∧ W.cell? ⟨A, 2, none⟩ = some (S da) ∧ W.cell? ⟨B + 1, 0, none⟩ = some (.int .i64 m0) ∧ W.cell? ⟨B + 1, 1, none⟩ = some (.int .i64 m1) ∧ W.cell? ⟨B, 0, none⟩ = some (.int .i64 x0) ∧ W.cell? ⟨B, 1, none⟩ = some (.int .i64 x1) ∧ W.cell? ⟨B, 2, none⟩ = some (.int .i64 x2) from fun W h => ⟨(h.row _ (.head _)).cell 0, (h.row _ (.head _)).cell 1, (h.row _ (.head _)).cell 2, (h.row _ (.tail _ (.head _))).cell 0, (h.row _ (.tail _ (.head _))).cell 1, (h.row _ (.tail _ (.head _))).cell 2, (h.row _ (.tail _ (.tail _ (.head _)))).cell 0, (h.row _ (.tail _ (.tail _ (.head _)))).cell 1, (h.row _ (.tail _ (.tail _ (.head _)))).cell 2, (h.row _ (.tail _ (.tail _ (.tail _ (.head _))))).cell 0, (h.row _ (.tail _ (.tail _ (.tail _ (.head _))))).cell 1, (h.row _ (.tail _ (.tail _ (.tail _ (.tail _ (.head _)))))).cell 0, (h.row _ (.tail _ (.tail _ (.tail _ (.tail _ (.head _)))))).cell 1, (h.row _ (.tail _ (.tail _ (.tail _ (.tail _ (.head _)))))).cell 2⟩)
        obtain ⟨cc0, cc1, cc2, cc3, cc4, cc5, cc6, cc7, cc8, cc9, cc10, cc11, cc12, cc13⟩ := HF71.out _ HK.out
        go_wp2_with fail
        go_ret
        exact ⟨rfl, HK.out.ch⟩
theorem texts_core (x0 x1 x2 : Int) (sl : List UInt8) (m0 m1 : Int) (w : World) (hx0 : i64r x0) (hx1 : i64r x1) (hx2 : i64r x2) (_ : sl.length ≤ 9223372036854775807) (hm0 : i64r m0) (_ : i64r m1) (ht : Tb w) :
    Calls Tryz.prog 5 #[.agg #[.int .i64 x0, .int .i64 x1, .int .i64 x2], S sl, .agg #[.int .i64 m0, .int .i64 m1]] w (Yld w (.bool true)) := by
  have hma := fun W => made_any x0 x1 x2 W hx0 hx1 hx2
  obtain ⟨la1, la2⟩ := mdq_len x0 x1 x2
  have ra := rof_pt (mdq x0 x1 x2)
  have za := mdq_size x0 x1 x2
  obtain ⟨qa, hqa⟩ : ∃ q, mdq x0 x1 x2 = q := ⟨_, rfl⟩
  rw [hqa] at hma la1 la2 ra za
  have ia := pt_is qa
  obtain ⟨⟨sa, na, da⟩, hpa⟩ : ∃ t, pt qa = t := ⟨_, rfl⟩
  rw [hpa] at hma la1 la2 ra ia
  have ra' : ratOf sa na da = qa := ra
  simp only at la1 la2 ia
  obtain ⟨t, htx⟩ : ∃ t, rtx (pt qa) = t := ⟨_, rfl⟩
  have hlen : 0 < t.length ∧ t.length ≤ 200 := by
    have h1 := dec_bytes na
    have h2 := dec_bytes da
    have h3 : 0 < (Lib.decDigits (bv na)).length := by
      rw [Lib.decDigits]
      split <;> simp
    rw [← htx, hpa]
    unfold rtx
    simp only [List.length_append]
    have h4 : (if sa = true then [45] else ([] : List UInt8)).length ≤ 1 := by split <;> simp
    have h5 : (if da = [1] then [] else 47 :: Lib.decDigits (bv da)).length ≤ 1 + (Lib.decDigits (bv da)).length := by split <;> simp; omega
    omega
  have hdec : decR t = some (sa, na, da) := by
    rw [← htx, hpa]
    exact dec_rtx (sa, na, da) (rightR_of ia)
  have hP := C_Parse t (by omega)
  rw [hdec] at hP
  obtain ⟨k, hk⟩ : ∃ k : Nat, m0 % (t.length : Int) = (k : Int) := ⟨(m0 % (t.length : Int)).toNat, by have := Int.emod_nonneg m0 (show (t.length : Int) ≠ 0 by omega); omega⟩
  have hkl : k < t.length := by have := Int.emod_lt_of_pos m0 (show (0 : Int) < (t.length : Int) by omega); omega
  obtain ⟨b, hb⟩ : ∃ b : UInt8, IntKind.u8.wrap m1 = (b.toNat : Int) := by
    have h : IntKind.u8.wrap m1 = m1 % 256 := rfl
    refine ⟨UInt8.ofNat (m1 % 256).toNat, ?_⟩
    rw [h, UInt8.toNat_ofNat']
    omega
  exact texts_walk w ht hb hkl hlen.2 sanity_true hma (C_Text (by omega) (by omega) ra' htx) (C_rText (by omega) (by omega) ra' htx) hP (C_mod m0 _ _ (by omega) (by omega) hm0.1 hm0.2 hk)
end Go.Proofs.YtggphkpnjnpbaaaGreatDoor
