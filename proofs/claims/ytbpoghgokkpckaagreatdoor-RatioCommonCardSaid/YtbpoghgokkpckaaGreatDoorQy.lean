/- The examples of the chapter: they are as the document says. -/
import Derived.Test.YtbpoghgokkpckaaGreatDoorQx
import Derived.Test.YtbpoghgokkpckaaGreatDoorQu
namespace Go.Proofs.YtbpoghgokkpckaaGreatDoor
open Go.RowKit
/-- Blocks of one's own, wherever they lie, each an api.Rat. -/
structure Kp (w W : World) (l : List (Nat × List Value)) : Prop where
  ch : Ch w.heap.size none1 w W
  row : ∀ p ∈ l, Blk W p.1 25 p.2
theorem Kp.on {w W W' : World} {l : List (Nat × List Value)} (h : Kp w W l) (hC : Ch W.heap.size none1 W W') : Kp w W' l := ⟨h.ch.step0 hC (Nat.le_refl _), fun p hp => hC.blk (h.row p hp) (h.row p hp).lt (fun q => q)⟩
theorem Kp.drew {w W : World} {l : List (Nat × List Value)} (h : Kp w W l) : Kp w W.drew l := ⟨h.ch.drew, fun p hp => (h.row p hp).drew⟩
theorem Kp.new {w W : World} {l : List (Nat × List Value)} (h : Kp w W l) (a : Array Value) : Kp w (W.alloc (.cells a 25 (0, 0))) ((W.heap.size, a.toList) :: l) := by
  have hc : Ch W.heap.size none1 W (W.alloc (.cells a 25 (0, 0))) := (Ch.refl _ _ _).alloc (Nat.le_refl _) _
  refine ⟨h.ch.step0 hc (Nat.le_refl _), fun p hp => ?_⟩
  rcases List.mem_cons.1 hp with rfl | hp
  · exact Blk.new W a _
  · exact hc.blk (h.row p hp) (h.row p hp).lt (fun q => q)
theorem Kp.other {w W : World} {l : List (Nat × List Value)} (h : Kp w W l) (o : Obj) : Kp w (W.alloc o) l := h.on ((Ch.refl _ _ _).alloc (Nat.le_refl _) o)
theorem Kp.cells {w W : World} {l : List (Nat × List Value)} (h : Kp w W l) {g : Nat} {a b c : Value} (hm : (g, [a, b, c]) ∈ l) : W.cell? ⟨g, 0, none⟩ = some a ∧ W.cell? ⟨g, 1, none⟩ = some b ∧ W.cell? ⟨g, 2, none⟩ = some c := ⟨(h.row _ hm).cell 0, (h.row _ hm).cell 1, (h.row _ hm).cell 2⟩
theorem b63 : (-9223372036854775808 : Int) ≤ 9223372036854775807 := by decide
theorem f_12 : Ans 15 #[.int .i64 (1), .int .i64 2] (Rv false [1] [2]) := C_frac (by decide) (by decide) (by decide) i_12
theorem f_14 : Ans 15 #[.int .i64 (-1), .int .i64 4] (Rv true [1] [4]) := C_frac (by decide) (by decide) (by decide) i_14
theorem f_13 : Ans 15 #[.int .i64 (1), .int .i64 3] (Rv false [1] [3]) := C_frac (by decide) (by decide) (by decide) i_13
theorem f_n13 : Ans 15 #[.int .i64 (-1), .int .i64 3] (Rv true [1] [3]) := C_frac (by decide) (by decide) (by decide) i_n13
theorem f_01 : Ans 15 #[.int .i64 (0), .int .i64 1] (Rv false [] [1]) := C_frac (by decide) (by decide) (by decide) i_01
theorem f_n32 : Ans 15 #[.int .i64 (-3), .int .i64 2] (Rv true [3] [2]) := C_frac (by decide) (by decide) (by decide) i_n32
theorem f_16 : Ans 15 #[.int .i64 (1), .int .i64 6] (Rv false [1] [6]) := C_frac (by decide) (by decide) (by decide) i_16
theorem f_n21 : Ans 15 #[.int .i64 (-2), .int .i64 1] (Rv true [2] [1]) := C_frac (by decide) (by decide) (by decide) i_n21
theorem o_6 : Ans 13 #[.int .i64 6] (S [6]) := C_refOf (n := 6) (l := [6]) (nb_is [6] _ (by decide) (by decide)) (by decide) (by decide)
theorem o_4 : Ans 13 #[.int .i64 4] (S [4]) := C_refOf (n := 4) (l := [4]) (nb_is [4] _ (by decide) (by decide)) (by decide) (by decide)
theorem o_1 : Ans 13 #[.int .i64 1] (S [1]) := C_refOf (n := 1) (l := [1]) (nb_is [1] _ (by decide) (by decide)) (by decide) (by decide)
theorem o_0 : Ans 13 #[.int .i64 0] (S []) := C_refOf (n := 0) (l := []) nb_zero (by decide) (by decide)
theorem o_3 : Ans 13 #[.int .i64 3] (S [3]) := C_refOf (n := 3) (l := [3]) (nb_is [3] _ (by decide) (by decide)) (by decide) (by decide)
theorem o_2 : Ans 13 #[.int .i64 2] (S [2]) := C_refOf (n := 2) (l := [2]) (nb_is [2] _ (by decide) (by decide)) (by decide) (by decide)
theorem rt1 (b : UInt8) (h : b ≠ 0) : Rt [b] := .inr ⟨b, [], rfl, h⟩
theorem k_make : Ans 10 #[.bool true, S [6], S [4]] (.tuple #[Rv true [3] [2], .bool true]) := C_Make (by decide) (by decide) (rt1 6 (by decide)) (rt1 4 (by decide)) (by decide) i_mk
theorem k_make_no : Ans 10 #[.bool false, S [1], S []] (.tuple #[Rv false [] [], .bool false]) := C_Make_no (by decide) (by decide) (fun h => h.2.2 rfl)
theorem k_quo : AnsT 14 #[Rv false [1] [2], Rv true [1] [4]] (.tuple #[Rv true [2] [1], .bool true]) := C_Quo (by decide) (by decide) (by decide) (by decide) (ratOf_is i_12) (ratOf_is i_14) (by decide +kernel) i_quo
theorem k_add : AnsT 11 #[Rv false [1] [2], Rv true [1] [3]] (Rv false [1] [6]) := C_Add (by decide) (by decide) (by decide) (by decide) (ratOf_is i_12) (ratOf_is i_n13) i_sum
theorem k_text : AnsT 17 #[Rv true [3] [2]] (S [45, 51, 47, 50]) := C_Text (by decide) (by decide) (ratOf_is i_n32) (by rw [pt_of (t := (true, [3], [2])) i_n32]; exact x_n32)
theorem k_p1 : AnsT 16 #[S [54, 47, 52]] (.tuple #[Rv false [] [], .bool false]) := fun w ht => by have h := C_Parse [54, 47, 52] (by decide) w ht; rw [d_64] at h; exact h
theorem k_p2 : AnsT 16 #[S [45, 48]] (.tuple #[Rv false [] [], .bool false]) := fun w ht => by have h := C_Parse [45, 48] (by decide) w ht; rw [d_n0] at h; exact h
theorem k_p3 : AnsT 16 #[S [51, 47, 49]] (.tuple #[Rv false [] [], .bool false]) := fun w ht => by have h := C_Parse [51, 47, 49] (by decide) w ht; rw [d_31] at h; exact h
theorem k_common (W : World) (g : Nat) (hb : Blk W g 25 (rcs L3)) (ht : Tb W) : Calls Tryz.prog 6 #[.slice (some ⟨g, 0, none⟩) 3 3] W fun e w' => ∃ g2, e = .returned (.tuple #[S [6], .slice (some ⟨g2, 0, none⟩) 3 3, .bool true]) ∧ Blk w' g2 23 ([[3], [2], []].map S) ∧ Ch W.heap.size none1 W w' := by
  refine (C_Common 1 W (some ⟨g, 0, none⟩) 3 3 L3 [6] (Rs.blk hb rfl) ht (by decide) (by decide) (by decide) (by decide) l3_bad l3_neg l3_den).mono ?_
  rintro e w' ⟨g2, he, -, hB, hC⟩
  rw [l3_wh] at hB
  exact ⟨g2, he, hB, hC⟩
set_option maxRecDepth 100000 in
set_option maxHeartbeats 3200000 in
theorem sanity_true (w : World) (ht : Tb w) : Calls Tryz.prog 4 #[] w (Yld w (.bool true)) := by
  have HT := Lib.hid ht
  clear ht
  have HK := Lib.hid (show Kp w w [] from ⟨Ch.refl _ _ _, fun p hp => by simp at hp⟩)
  go_enter Tryz.func4, Tryz.ntmps4
  go_wp2_with fail
  refine (o_6 _).mono ?_
  rintro e w1 ⟨rfl, hC⟩
  have HK2 := Lib.hid (HK.out.on hC)
  clear hC HK
  have HK := HK2
  clear HK2
  go_wp2_with fail
  refine (o_4 _).mono ?_
  rintro e w2 ⟨rfl, hC⟩
  have HK2 := Lib.hid (HK.out.on hC)
  clear hC HK
  have HK := HK2
  clear HK2
  go_wp2_with fail
  refine (k_make _).mono ?_
  rintro e w3 ⟨rfl, hC⟩
  have HK2 := Lib.hid (HK.out.on hC)
  clear hC HK
  have HK := HK2
  clear HK2
  go_wp2_with fail
  have HK2 := Lib.hid (HK.out.new #[.bool true, S [3], S [2]])
  obtain ⟨w4, hW⟩ : ∃ W, w3.alloc (.cells #[.bool true, S [3], S [2]] 25 (0, 0)) = W := ⟨_, rfl⟩
  rw [hW] at HK2 ⊢
  obtain ⟨A, hA⟩ : ∃ A, w3.heap.size = A := ⟨_, rfl⟩
  rw [hA] at HK2 ⊢
  clear hA
  clear hW HK
  have HK := HK2
  clear HK2
  refine (o_1 _).mono ?_
  rintro e w5 ⟨rfl, hC⟩
  have HK2 := Lib.hid (HK.out.on hC)
  clear hC HK
  have HK := HK2
  clear HK2
  go_wp2_with fail
  refine (o_0 _).mono ?_
  rintro e w6 ⟨rfl, hC⟩
  have HK2 := Lib.hid (HK.out.on hC)
  clear hC HK
  have HK := HK2
  clear HK2
  go_wp2_with fail
  refine (k_make_no _).mono ?_
  rintro e w7 ⟨rfl, hC⟩
  have HK2 := Lib.hid (HK.out.on hC)
  clear hC HK
  have HK := HK2
  clear HK2
  go_wp2_with fail
  have HK2 := Lib.hid (HK.out.other (.cells #[.bool false, S [], S []] 25 (0, 0)))
  obtain ⟨w8, hW⟩ : ∃ W, w7.alloc (.cells #[.bool false, S [], S []] 25 (0, 0)) = W := ⟨_, rfl⟩
  rw [hW] at HK2 ⊢
  clear hW HK
  have HK := HK2
  clear HK2
  refine (f_12 _).mono ?_
  rintro e w9 ⟨rfl, hC⟩
  have HK2 := Lib.hid (HK.out.on hC)
  clear hC HK
  have HK := HK2
  clear HK2
  go_wp2_with fail
  refine (f_14 _).mono ?_
  rintro e w10 ⟨rfl, hC⟩
  have HK2 := Lib.hid (HK.out.on hC)
  clear hC HK
  have HK := HK2
  clear HK2
  go_wp2_with fail
  refine (k_quo _ (HT.out.ch HK.out.ch)).mono ?_
  rintro e w11 ⟨rfl, hC⟩
  have HK2 := Lib.hid (HK.out.on hC)
  clear hC HK
  have HK := HK2
  clear HK2
  go_wp2_with fail
  have HK2 := Lib.hid (HK.out.new #[.bool true, S [2], S [1]])
  obtain ⟨w12, hW⟩ : ∃ W, w11.alloc (.cells #[.bool true, S [2], S [1]] 25 (0, 0)) = W := ⟨_, rfl⟩
  rw [hW] at HK2 ⊢
  obtain ⟨Q, hA⟩ : ∃ A, w11.heap.size = A := ⟨_, rfl⟩
  rw [hA] at HK2 ⊢
  clear hA
  clear hW HK
  have HK := HK2
  clear HK2
  refine (f_12 _).mono ?_
  rintro e w13 ⟨rfl, hC⟩
  have HK2 := Lib.hid (HK.out.on hC)
  clear hC HK
  have HK := HK2
  clear HK2
  go_wp2_with fail
  refine (f_13 _).mono ?_
  rintro e w14 ⟨rfl, hC⟩
  have HK2 := Lib.hid (HK.out.on hC)
  clear hC HK
  have HK := HK2
  clear HK2
  go_wp2_with fail
  refine (f_01 _).mono ?_
  rintro e w15 ⟨rfl, hC⟩
  have HK2 := Lib.hid (HK.out.on hC)
  clear hC HK
  have HK := HK2
  clear HK2
  go_wp2_with fail
  have hca : Ch w15.heap.size none1 w15 (w15.alloc (.cells #[.bool false, S [1], S [2], .bool false, S [1], S [3], .bool false, S [], S [1]] 25 (0, 0))) := (Ch.refl _ _ _).alloc (Nat.le_refl _) _
  refine (k_common _ _ (Blk.new w15 #[.bool false, S [1], S [2], .bool false, S [1], S [3], .bool false, S [], S [1]] 25) (HT.out.ch (HK.out.on hca).ch)).mono ?_
  rintro e w16 ⟨g, rfl, hN, hC⟩
  have HK2 := Lib.hid ((HK.out.on hca).on hC)
  have HN := Lib.hid hN
  clear hC HK hca hN
  have HK := HK2
  clear HK2
  go_wp2_with fail
  refine (k_p1 _ (HT.out.ch HK.out.ch)).mono ?_
  rintro e w17 ⟨rfl, hC⟩
  have HK2 := Lib.hid (HK.out.on hC)
  have HN2 := Lib.hid (hC.blk HN.out (Blk.lt HN.out) (fun q => q))
  clear HN
  have HN := HN2
  clear HN2
  clear hC HK
  have HK := HK2
  clear HK2
  go_wp2_with fail
  have HK2 := Lib.hid (HK.out.other (.cells #[.bool false, S [], S []] 25 (0, 0)))
  have HN2 := Lib.hid (HN.out.alloc (.cells #[.bool false, S [], S []] 25 (0, 0)))
  obtain ⟨w18, hW⟩ : ∃ W, w17.alloc (.cells #[.bool false, S [], S []] 25 (0, 0)) = W := ⟨_, rfl⟩
  rw [hW] at HK2 HN2 ⊢
  clear HN
  have HN := HN2
  clear HN2
  clear hW HK
  have HK := HK2
  clear HK2
  refine (k_p2 _ (HT.out.ch HK.out.ch)).mono ?_
  rintro e w19 ⟨rfl, hC⟩
  have HK2 := Lib.hid (HK.out.on hC)
  have HN2 := Lib.hid (hC.blk HN.out (Blk.lt HN.out) (fun q => q))
  clear HN
  have HN := HN2
  clear HN2
  clear hC HK
  have HK := HK2
  clear HK2
  go_wp2_with fail
  have HK2 := Lib.hid (HK.out.other (.cells #[.bool false, S [], S []] 25 (0, 0)))
  have HN2 := Lib.hid (HN.out.alloc (.cells #[.bool false, S [], S []] 25 (0, 0)))
  obtain ⟨w20, hW⟩ : ∃ W, w19.alloc (.cells #[.bool false, S [], S []] 25 (0, 0)) = W := ⟨_, rfl⟩
  rw [hW] at HK2 HN2 ⊢
  clear HN
  have HN := HN2
  clear HN2
  clear hW HK
  have HK := HK2
  clear HK2
  refine (k_p3 _ (HT.out.ch HK.out.ch)).mono ?_
  rintro e w21 ⟨rfl, hC⟩
  have HK2 := Lib.hid (HK.out.on hC)
  have HN2 := Lib.hid (hC.blk HN.out (Blk.lt HN.out) (fun q => q))
  clear HN
  have HN := HN2
  clear HN2
  clear hC HK
  have HK := HK2
  clear HK2
  go_wp2_with fail
  have HK2 := Lib.hid (HK.out.other (.cells #[.bool false, S [], S []] 25 (0, 0)))
  have HN2 := Lib.hid (HN.out.alloc (.cells #[.bool false, S [], S []] 25 (0, 0)))
  obtain ⟨w22, hW⟩ : ∃ W, w21.alloc (.cells #[.bool false, S [], S []] 25 (0, 0)) = W := ⟨_, rfl⟩
  rw [hW] at HK2 HN2 ⊢
  clear HN
  have HN := HN2
  clear HN2
  clear hW HK
  have HK := HK2
  clear HK2
  obtain ⟨a0, a1, a2⟩ := HK.out.cells (g := A) (a := .bool true) (b := S [3]) (c := S [2]) (by simp)
  obtain ⟨q0, q1, q2⟩ := HK.out.cells (g := Q) (a := .bool true) (b := S [2]) (c := S [1]) (by simp)
  clear a0 a1 a2 q0 q1 q2
  have hcell : ∀ W, Kp w W [(Q, [.bool true, S [2], S [1]]), (A, [.bool true, S [3], S [2]])] → W.cell? ⟨A, 0, none⟩ = some (.bool true) ∧ W.cell? ⟨A, 1, none⟩ = some (S [3]) ∧ W.cell? ⟨A, 2, none⟩ = some (S [2]) ∧ W.cell? ⟨Q, 0, none⟩ = some (.bool true) ∧ W.cell? ⟨Q, 1, none⟩ = some (S [2]) ∧ W.cell? ⟨Q, 2, none⟩ = some (S [1]) := fun W h => by
    obtain ⟨a0, a1, a2⟩ := h.cells (g := A) (a := .bool true) (b := S [3]) (c := S [2]) (by simp)
    obtain ⟨q0, q1, q2⟩ := h.cells (g := Q) (a := .bool true) (b := S [2]) (c := S [1]) (by simp)
    exact ⟨a0, a1, a2, q0, q1, q2⟩
  have HCL := Lib.hid hcell
  clear hcell
  have HKD := Lib.hid HK.out.drew
  have HND := Lib.hid (Blk.drew HN.out)
  clear HK HN
  have HK := HKD
  have HN := HND
  clear HKD HND
  go_region_held3 (fun w' => w'.cell? ⟨A, 0, none⟩ = some (.bool true) ∧ w'.cell? ⟨A, 1, none⟩ = some (S [3]) ∧ w'.cell? ⟨A, 2, none⟩ = some (S [2]) ∧ w'.cell? ⟨Q, 0, none⟩ = some (.bool true) ∧ w'.cell? ⟨Q, 1, none⟩ = some (S [2]) ∧ w'.cell? ⟨Q, 2, none⟩ = some (S [1]))
    (first
      | (with_reducible exact HCL.out _ HK.out)
      | go_keep)
    (first
      | (go_at_call 15; with_reducible refine (f_n32 _).mono ?_; rintro e wq ⟨rfl, hCq⟩; have HK2 := Lib.hid (HK.out.on hCq); have HN2 := Lib.hid (hCq.blk HN.out (Blk.lt HN.out) (fun q => q)); clear hCq HK HN; have HK := HK2; have HN := HN2; clear HK2 HN2)
      | (go_at_call 15; with_reducible refine (f_12 _).mono ?_; rintro e wq ⟨rfl, hCq⟩; have HK2 := Lib.hid (HK.out.on hCq); have HN2 := Lib.hid (hCq.blk HN.out (Blk.lt HN.out) (fun q => q)); clear hCq HK HN; have HK := HK2; have HN := HN2; clear HK2 HN2)
      | (go_at_call 15; with_reducible refine (f_n13 _).mono ?_; rintro e wq ⟨rfl, hCq⟩; have HK2 := Lib.hid (HK.out.on hCq); have HN2 := Lib.hid (hCq.blk HN.out (Blk.lt HN.out) (fun q => q)); clear hCq HK HN; have HK := HK2; have HN := HN2; clear HK2 HN2)
      | (go_at_call 15; with_reducible refine (f_16 _).mono ?_; rintro e wq ⟨rfl, hCq⟩; have HK2 := Lib.hid (HK.out.on hCq); have HN2 := Lib.hid (hCq.blk HN.out (Blk.lt HN.out) (fun q => q)); clear hCq HK HN; have HK := HK2; have HN := HN2; clear HK2 HN2)
      | (go_at_call 15; with_reducible refine (f_n21 _).mono ?_; rintro e wq ⟨rfl, hCq⟩; have HK2 := Lib.hid (HK.out.on hCq); have HN2 := Lib.hid (hCq.blk HN.out (Blk.lt HN.out) (fun q => q)); clear hCq HK HN; have HK := HK2; have HN := HN2; clear HK2 HN2)
      | (go_at_call 11; with_reducible refine (k_add _ (HT.out.ch HK.out.ch)).mono ?_; rintro e wq ⟨rfl, hCq⟩; have HK2 := Lib.hid (HK.out.on hCq); have HN2 := Lib.hid (hCq.blk HN.out (Blk.lt HN.out) (fun q => q)); clear hCq HK HN; have HK := HK2; have HN := HN2; clear HK2 HN2))
  go_wp2_with fail
  obtain ⟨w23, hwq⟩ : ∃ W, wq = W := ⟨_, rfl⟩
  subst hwq
  refine (o_6 _).mono ?_
  rintro e w901 ⟨rfl, hC⟩
  have HK2 := Lib.hid (HK.out.on hC)
  have HN2 := Lib.hid (hC.blk HN.out (Blk.lt HN.out) (fun q => q))
  clear HN
  have HN := HN2
  clear HN2
  clear hC HK
  have HK := HK2
  clear HK2
  go_wp2_with fail
  refine (o_3 _).mono ?_
  rintro e w902 ⟨rfl, hC⟩
  have HK2 := Lib.hid (HK.out.on hC)
  have HN2 := Lib.hid (hC.blk HN.out (Blk.lt HN.out) (fun q => q))
  clear HN
  have HN := HN2
  clear HN2
  clear hC HK
  have HK := HK2
  clear HK2
  go_wp2_with fail
  refine (o_2 _).mono ?_
  rintro e w903 ⟨rfl, hC⟩
  have HK2 := Lib.hid (HK.out.on hC)
  have HN2 := Lib.hid (hC.blk HN.out (Blk.lt HN.out) (fun q => q))
  clear HN
  have HN := HN2
  clear HN2
  clear hC HK
  have HK := HK2
  clear HK2
  go_wp2_with fail
  refine (o_0 _).mono ?_
  rintro e w904 ⟨rfl, hC⟩
  have HK2 := Lib.hid (HK.out.on hC)
  have HN2 := Lib.hid (hC.blk HN.out (Blk.lt HN.out) (fun q => q))
  clear HN
  have HN := HN2
  clear HN2
  clear hC HK
  have HK := HK2
  clear HK2
  go_wp2_with fail
  have hca : Ch w904.heap.size none1 w904 (w904.alloc (.cells #[S [3], S [2], S []] 23 (0, 0))) := (Ch.refl _ _ _).alloc (Nat.le_refl _) _
  have HK2 := Lib.hid (HK.out.on hca)
  refine (same_true _ (some ⟨g, 0, none⟩) (some ⟨w904.heap.size, 0, none⟩) 3 3 3 [[3], [2], []] (Vs.blk (Blk.alloc HN.out _) rfl) (Vs.blk (Blk.new w904 #[S [3], S [2], S []] 23) rfl) (by decide)).mono ?_
  rintro e wz ⟨rfl, hC⟩
  have HK3 := Lib.hid (HK2.out.on hC)
  clear hC HK HK2 hca HN
  have HK := HK3
  clear HK3
  go_wp2_with fail
  refine (f_n32 _).mono ?_
  rintro e w905 ⟨rfl, hC⟩
  have HK2 := Lib.hid (HK.out.on hC)
  clear hC HK
  have HK := HK2
  clear HK2
  go_wp2_with fail
  refine (k_text _ (HT.out.ch HK.out.ch)).mono ?_
  rintro e w906 ⟨rfl, hC⟩
  have HK2 := Lib.hid (HK.out.on hC)
  clear hC HK
  have HK := HK2
  clear HK2
  go_wp2_with fail
  go_ret
  exact ⟨rfl, HK.out.ch⟩
end Go.Proofs.YtbpoghgokkpckaaGreatDoor
