/- Package money: the examples of the chapter: they are as the document says. -/
import Derived.Test.YtkeomlpecjjhiaaGreatDoorAv
import Derived.Test.YtkeomlpecjjhiaaGreatDoorAu
import Derived.Test.YtkeomlpecjjhiaaGreatDoorAw
namespace Go.Proofs.YtkeomlpecjjhiaaGreatDoor
open Go.RowKit
theorem srv_const (f : Nat → Nat) (n : Nat) (h : ∀ x y, x < n → y < n → f x = f y) : srv f n = List.range n := by
 unfold srv
 refine List.mergeSort_of_pairwise ?_
 rw [List.pairwise_iff_getElem]
 intro i j hi hj hij
 rw [List.length_range] at hi hj
 rw [List.getElem_range, List.getElem_range, Bool.not_eq_true', ltp_not]
 have := h i j hi hj
 omega
theorem Rs.opened {w : World} {p : Option Addr} {n : Nat} {l : List T3} (h : Rs w p n l) (hn : 0 < n) : ∃ g o t pre post, p = some ⟨g, o, Option.none⟩ ∧ Blk w g t (pre ++ rcs l ++ post) ∧ pre.length = o ∧ l.length = n := by
 obtain ⟨g, o, rfl⟩ := h.addr hn
 obtain ⟨_, t, pre, post, hb, hl⟩ := h.at' _ rfl
 exact ⟨g, o, t, pre, post, rfl, hb, hl, h.len⟩
theorem Rs.closed {w : World} {g o n : Nat} {t : TypeId} {pre post : List Value} {l : List T3} (hb : Blk w g t (pre ++ rcs l ++ post)) (ho : pre.length = o) (hn : l.length = n) : Rs w (some ⟨g, o, Option.none⟩) n l :=
 ⟨hn, fun e => by simp at e, fun a ha => by
  obtain rfl := Option.some.inj ha
  exact ⟨rfl, t, pre, post, hb, ho⟩⟩
abbrev t1 : T3 := (false, [1], [1])
abbrev t0 : T3 := (false, [], [1])
theorem w_111 : whl [t1, t1, t1] = [1, 1, 1] := by decide +kernel
theorem w_11 : whl [t1, t1] = [1, 1] := by decide +kernel
theorem p_111 : partsOf 100 [1, 1, 1] = [34, 33, 33] := by
 unfold partsOf
 rw [srv_const _ _ (fun x y hx hy => by
  have : ∀ k, k < 3 → (rss 100 3 [1, 1, 1]).getD k 0 = 1 := by decide +kernel
  show (rss 100 3 [1, 1, 1]).getD x 0 = (rss 100 3 [1, 1, 1]).getD y 0
  rw [this x hx, this y hy])]
 decide +kernel
theorem p_11 : partsOf 1 [1, 1] = [1, 0] := by
 unfold partsOf
 rw [srv_const _ _ (fun x y hx hy => by
  have : ∀ k, k < 2 → (rss 1 2 [1, 1]).getD k 0 = 1 := by decide +kernel
  show (rss 1 2 [1, 1]).getD x 0 = (rss 1 2 [1, 1]).getD y 0
  rw [this x hx, this y hy])]
 decide +kernel
abbrev J3 : List T3 := [(false, [17], [50]), (false, [33], [100]), (false, [33], [100])]
abbrev J2 : List T3 := [(true, [1], [100]), (false, [], [1])]
theorem q_is (s : Bool) (n : Nat) (t : T3) (h : Is (mq s n 100) t.1 t.2.1 t.2.2) : pt (mq s (bv (nb n)) 100) = t := by
 rw [bv_nb]
 exact pt_of h
theorem l_111 : splitL (some 100) [t1, t1, t1] = J3 := by
 have e : splitL (some 100) [t1, t1, t1] = amts (decide ((100 : Int) < 0)) ((partsOf (100 : Int).natAbs (whl [t1, t1, t1])).map nb) := if_pos (e := ([] : List T3)) (show splitB (some 100) [t1, t1, t1] = true by decide +kernel)
 rw [e, show (100 : Int).natAbs = 100 from rfl, w_111, p_111]
 show [pt (mq false (bv (nb 34)) 100), pt (mq false (bv (nb 33)) 100), pt (mq false (bv (nb 33)) 100)] = _
 rw [q_is false 34 (false, [17], [50]) (kis (by decide +kernel) (by decide +kernel) (by decide +kernel) (by decide) (by decide)), q_is false 33 (false, [33], [100]) (kis (by decide +kernel) (by decide +kernel) (by decide +kernel) (by decide) (by decide))]
theorem l_11 : splitL (some (-1)) [t1, t1] = J2 := by
 have e : splitL (some (-1)) [t1, t1] = amts (decide ((-1 : Int) < 0)) ((partsOf (-1 : Int).natAbs (whl [t1, t1])).map nb) := if_pos (e := ([] : List T3)) (show splitB (some (-1)) [t1, t1] = true by decide +kernel)
 rw [e, show (-1 : Int).natAbs = 1 from rfl, w_11, p_11]
 show [pt (mq true (bv (nb 1)) 100), pt (mq true (bv (nb 0)) 100)] = _
 rw [q_is true 1 (true, [1], [100]) (kis (by decide +kernel) (by decide +kernel) (by decide +kernel) (by decide) (by decide)), q_is true 0 (false, [], [1]) (kis (by decide +kernel) (by decide +kernel) (by decide +kernel) (by decide) (by decide))]
theorem k_split1 (W : World) (g : Nat) (hb : Blk W g 26 (rcs [t1, t1, t1])) (ht : Tm W) : Calls Tryz.prog 19 #[Rv false [1] [1], .slice (some ⟨g, 0, none⟩) 3 3] W fun e w' => ∃ g o c t pre post, e = .returned (.tuple #[.slice (some ⟨g, o, none⟩) 3 c, .bool true]) ∧ Blk w' g t (pre ++ rcs J3 ++ post) ∧ pre.length = o ∧ Ch W.heap.size none1 W w' := by
 refine (split_any 1 (o := (some 100)) [t1, t1, t1] (some ⟨g, 0, none⟩) 3 3 W ht (Rs.blk (l := [t1, t1, t1]) (n := 3) hb rfl) (by decide) (by decide) (by decide) (by decide +kernel) (by decide) (by decide) (by decide)).mono ?_
 rintro e w' ⟨p, n, c, he, hR, hC⟩
 rw [show splitB (some 100) [t1, t1, t1] = true by decide +kernel] at he
 rw [l_111] at hR
 obtain ⟨g2, o, t, pre, post, rfl, hB, ho, hn⟩ := hR.opened (by rw [← hR.len]; decide)
 obtain rfl : 3 = n := hn
 exact ⟨g2, o, c, t, pre, post, he, hB, ho, hC⟩
theorem k_split2 (W : World) (g : Nat) (hb : Blk W g 26 (rcs [t1, t1, t1])) (ht : Tm W) : Calls Tryz.prog 19 #[Rv true [1] [100], .slice (some ⟨g, 0, none⟩) 2 3] W fun e w' => ∃ g o c t pre post, e = .returned (.tuple #[.slice (some ⟨g, o, none⟩) 2 c, .bool true]) ∧ Blk w' g t (pre ++ rcs J2 ++ post) ∧ pre.length = o ∧ Ch W.heap.size none1 W w' := by
 refine (split_any 1 (o := (some (-1))) [t1, t1] (some ⟨g, 0, none⟩) 2 3 W ht ((Rs.blk (l := [t1, t1, t1]) (n := 3) hb rfl).take 2 (by decide)) (by decide) (by decide) (by decide) (by decide +kernel) (by decide) (by decide) (by decide)).mono ?_
 rintro e w' ⟨p, n, c, he, hR, hC⟩
 rw [show splitB (some (-1)) [t1, t1] = true by decide +kernel] at he
 rw [l_11] at hR
 obtain ⟨g2, o, t, pre, post, rfl, hB, ho, hn⟩ := hR.opened (by rw [← hR.len]; decide)
 obtain rfl : 2 = n := hn
 exact ⟨g2, o, c, t, pre, post, he, hB, ho, hC⟩
theorem k_split3 (W : World) (g : Nat) (hb : Blk W g 26 (rcs [t1, t1, t1])) (ht : Tm W) : Calls Tryz.prog 19 #[Rv false [1] [3], .slice (some ⟨g, 0, none⟩) 3 3] W fun e w' => ∃ p n c, e = .returned (.tuple #[.slice p n c, .bool false]) ∧ Ch W.heap.size none1 W w' := by
 refine (split_any 1 (o := none) [t1, t1, t1] (some ⟨g, 0, none⟩) 3 3 W ht (Rs.blk (l := [t1, t1, t1]) (n := 3) hb rfl) (by decide) (by decide) (by decide) (by decide +kernel) (by decide) (by decide) (by decide)).mono ?_
 rintro e w' ⟨p, n, c, he, hR, hC⟩
 rw [show splitB none [t1, t1, t1] = false by decide +kernel] at he
 exact ⟨p, n, c, he, hC⟩
theorem k_split4 (W : World) (g : Nat) (hb : Blk W g 26 (rcs [t0])) (ht : Tm W) : Calls Tryz.prog 19 #[Rv false [1] [1], .slice (some ⟨g, 0, none⟩) 1 1] W fun e w' => ∃ p n c, e = .returned (.tuple #[.slice p n c, .bool false]) ∧ Ch W.heap.size none1 W w' := by
 refine (split_any 1 (o := (some 100)) [t0] (some ⟨g, 0, none⟩) 1 1 W ht (Rs.blk (l := [t0]) (n := 1) hb rfl) (by decide) (by decide) (by decide) (by decide +kernel) (by decide) (by decide) (by decide)).mono ?_
 rintro e w' ⟨p, n, c, he, hR, hC⟩
 rw [show splitB (some 100) [t0] = false by decide +kernel] at he
 exact ⟨p, n, c, he, hC⟩
theorem k_text1 : AnsM 30 #[Rv false [25] [2]] (.tuple #[S [36, 49, 50, 46, 53, 48], .bool true]) := C_mText_yes (c := 1250) (by decide) (by decide) (by decide +kernel) (by decide +kernel)
theorem k_text2 : AnsM 30 #[Rv true [1] [20]] (.tuple #[S [36, 45, 48, 46, 48, 53], .bool true]) := C_mText_yes (c := -5) (by decide) (by decide) (by decide +kernel) (by decide +kernel)
theorem k_parse1 : AnsM 31 #[S [36, 49, 50, 46, 53]] (.tuple #[Rv false [] [], .bool false]) := C_mParse_ne (c := 125) (by decide) (by kernel_rfl) (by decide +kernel)
theorem k_parse2 : AnsM 31 #[S [36, 45, 48, 46, 48, 48]] (.tuple #[Rv false [] [], .bool false]) := C_mParse_ne (c := 0) (by decide) (by kernel_rfl) (by decide +kernel)
set_option maxRecDepth 100000 in
set_option maxHeartbeats 6400000 in
theorem sanity4 (w : World) (ht : Tm w) : Calls Tryz.prog 11 #[] w (Yld w (.bool true)) := by
 have HT := Lib.hid ht
 clear ht
 have HK := Lib.hid (Kq.nil w)
 go_enter Tryz.func11, Tryz.ntmps11
 go_wp2_with fail
 refine (f_r25_2 _).mono ?_
 rintro e w1 ⟨rfl, hC⟩
 replace HK := Lib.hid (HK.out.on hC)
 clear hC
 go_wp2_with fail
 refine (k_cents1 _ (HT.out.ch HK.out.ch)).mono ?_
 rintro e w2 ⟨rfl, hC⟩
 replace HK := Lib.hid (HK.out.on hC)
 clear hC
 go_wp2_with fail
 refine (f_r1_3 _).mono ?_
 rintro e w3 ⟨rfl, hC⟩
 replace HK := Lib.hid (HK.out.on hC)
 clear hC
 go_wp2_with fail
 refine (k_cents2 _ (HT.out.ch HK.out.ch)).mono ?_
 rintro e w4 ⟨rfl, hC⟩
 replace HK := Lib.hid (HK.out.on hC)
 clear hC
 go_wp2_with fail
 refine (k_of _ (HT.out.ch HK.out.ch)).mono ?_
 rintro e w5 ⟨rfl, hC⟩
 replace HK := Lib.hid (HK.out.on hC)
 clear hC
 go_wp2_with fail
 refine (f_r25_2 _).mono ?_
 rintro e w6 ⟨rfl, hC⟩
 replace HK := Lib.hid (HK.out.on hC)
 clear hC
 go_wp2_with fail
 refine (f_r7_3 _).mono ?_
 rintro e w7 ⟨rfl, hC⟩
 replace HK := Lib.hid (HK.out.on hC)
 clear hC
 go_wp2_with fail
 refine (f_r1_2 _).mono ?_
 rintro e w8 ⟨rfl, hC⟩
 replace HK := Lib.hid (HK.out.on hC)
 clear hC
 go_wp2_with fail
 refine (k_down _ (HT.out.ch HK.out.ch)).mono ?_
 rintro e w9 ⟨rfl, hC⟩
 replace HK := Lib.hid (HK.out.on hC)
 clear hC
 go_wp2_with fail
 have HK2 := Lib.hid (HK.out.new #[.bool false, S [2], S [1]] 26)
 obtain ⟨w10, hW⟩ : ∃ W, w9.alloc (.cells #[.bool false, S [2], S [1]] 26 (0, 0)) = W := ⟨_, rfl⟩
 rw [hW] at HK2 ⊢
 obtain ⟨A1, hA⟩ : ∃ A, w9.heap.size = A := ⟨_, rfl⟩
 rw [hA] at HK2 ⊢
 clear hA
 clear hW HK
 have HK := HK2
 clear HK2
 refine (f_r7_3 _).mono ?_
 rintro e w11 ⟨rfl, hC⟩
 replace HK := Lib.hid (HK.out.on hC)
 clear hC
 go_wp2_with fail
 refine (f_r1_2 _).mono ?_
 rintro e w12 ⟨rfl, hC⟩
 replace HK := Lib.hid (HK.out.on hC)
 clear hC
 go_wp2_with fail
 refine (k_up _ (HT.out.ch HK.out.ch)).mono ?_
 rintro e w13 ⟨rfl, hC⟩
 replace HK := Lib.hid (HK.out.on hC)
 clear hC
 go_wp2_with fail
 have HK2 := Lib.hid (HK.out.new #[.bool false, S [5], S [2]] 26)
 obtain ⟨w14, hW⟩ : ∃ W, w13.alloc (.cells #[.bool false, S [5], S [2]] 26 (0, 0)) = W := ⟨_, rfl⟩
 rw [hW] at HK2 ⊢
 obtain ⟨A2, hA⟩ : ∃ A, w13.heap.size = A := ⟨_, rfl⟩
 rw [hA] at HK2 ⊢
 clear hA
 clear hW HK
 have HK := HK2
 clear HK2
 refine (f_r7_3 _).mono ?_
 rintro e w15 ⟨rfl, hC⟩
 replace HK := Lib.hid (HK.out.on hC)
 clear hC
 go_wp2_with fail
 refine (f_r1_2 _).mono ?_
 rintro e w16 ⟨rfl, hC⟩
 replace HK := Lib.hid (HK.out.on hC)
 clear hC
 go_wp2_with fail
 refine (k_near1 _ (HT.out.ch HK.out.ch)).mono ?_
 rintro e w17 ⟨rfl, hC⟩
 replace HK := Lib.hid (HK.out.on hC)
 clear hC
 go_wp2_with fail
 have HK2 := Lib.hid (HK.out.new #[.bool false, S [5], S [2]] 26)
 obtain ⟨w18, hW⟩ : ∃ W, w17.alloc (.cells #[.bool false, S [5], S [2]] 26 (0, 0)) = W := ⟨_, rfl⟩
 rw [hW] at HK2 ⊢
 obtain ⟨A3, hA⟩ : ∃ A, w17.heap.size = A := ⟨_, rfl⟩
 rw [hA] at HK2 ⊢
 clear hA
 clear hW HK
 have HK := HK2
 clear HK2
 refine (f_r5_4 _).mono ?_
 rintro e w19 ⟨rfl, hC⟩
 replace HK := Lib.hid (HK.out.on hC)
 clear hC
 go_wp2_with fail
 refine (f_r1_2 _).mono ?_
 rintro e w20 ⟨rfl, hC⟩
 replace HK := Lib.hid (HK.out.on hC)
 clear hC
 go_wp2_with fail
 refine (k_near2 _ (HT.out.ch HK.out.ch)).mono ?_
 rintro e w21 ⟨rfl, hC⟩
 replace HK := Lib.hid (HK.out.on hC)
 clear hC
 go_wp2_with fail
 have HK2 := Lib.hid (HK.out.new #[.bool false, S [3], S [2]] 26)
 obtain ⟨w22, hW⟩ : ∃ W, w21.alloc (.cells #[.bool false, S [3], S [2]] 26 (0, 0)) = W := ⟨_, rfl⟩
 rw [hW] at HK2 ⊢
 obtain ⟨A4, hA⟩ : ∃ A, w21.heap.size = A := ⟨_, rfl⟩
 rw [hA] at HK2 ⊢
 clear hA
 clear hW HK
 have HK := HK2
 clear HK2
 refine (f_rn5_4 _).mono ?_
 rintro e w23 ⟨rfl, hC⟩
 replace HK := Lib.hid (HK.out.on hC)
 clear hC
 go_wp2_with fail
 refine (f_r1_2 _).mono ?_
 rintro e w24 ⟨rfl, hC⟩
 replace HK := Lib.hid (HK.out.on hC)
 clear hC
 go_wp2_with fail
 refine (k_near3 _ (HT.out.ch HK.out.ch)).mono ?_
 rintro e w25 ⟨rfl, hC⟩
 replace HK := Lib.hid (HK.out.on hC)
 clear hC
 go_wp2_with fail
 have HK2 := Lib.hid (HK.out.new #[.bool true, S [1], S [1]] 26)
 obtain ⟨w26, hW⟩ : ∃ W, w25.alloc (.cells #[.bool true, S [1], S [1]] 26 (0, 0)) = W := ⟨_, rfl⟩
 rw [hW] at HK2 ⊢
 obtain ⟨A5, hA⟩ : ∃ A, w25.heap.size = A := ⟨_, rfl⟩
 rw [hA] at HK2 ⊢
 clear hA
 clear hW HK
 have HK := HK2
 clear HK2
 refine (f_r1_1 _).mono ?_
 rintro e w27 ⟨rfl, hC⟩
 replace HK := Lib.hid (HK.out.on hC)
 clear hC
 go_wp2_with fail
 refine (f_r0_1 _).mono ?_
 rintro e w28 ⟨rfl, hC⟩
 replace HK := Lib.hid (HK.out.on hC)
 clear hC
 go_wp2_with fail
 refine (k_down_no _ (HT.out.ch HK.out.ch)).mono ?_
 rintro e w29 ⟨rfl, hC⟩
 replace HK := Lib.hid (HK.out.on hC)
 clear hC
 go_wp2_with fail
 have HK2 := Lib.hid (HK.out.other (.cells #[.bool false, S [], S []] 26 (0, 0)))
 obtain ⟨w30, hW⟩ : ∃ W, w29.alloc (.cells #[.bool false, S [], S []] 26 (0, 0)) = W := ⟨_, rfl⟩
 rw [hW] at HK2 ⊢
 clear hW HK
 have HK := HK2
 clear HK2
 have HF1 := Lib.hid (show ∀ W, Kq w W [(A5, 26, [.bool true, S [1], S [1]]), (A4, 26, [.bool false, S [3], S [2]]), (A3, 26, [.bool false, S [5], S [2]]), (A2, 26, [.bool false, S [5], S [2]]), (A1, 26, [.bool false, S [2], S [1]])] → W.cell? ⟨A5, 0, none⟩ = some (.bool true) ∧ W.cell? ⟨A5, 1, none⟩ = some (S [1]) ∧ W.cell? ⟨A5, 2, none⟩ = some (S [1]) ∧ W.cell? ⟨A4, 0, none⟩ = some (.bool false) ∧ W.cell? ⟨A4, 1, none⟩ = some (S [3]) ∧ W.cell? ⟨A4, 2, none⟩ = some (S [2]) ∧ W.cell? ⟨A3, 0, none⟩ = some (.bool false) ∧ W.cell? ⟨A3, 1, none⟩ = some (S [5]) ∧ W.cell? ⟨A3, 2, none⟩ = some (S [2]) ∧ W.cell? ⟨A2, 0, none⟩ = some (.bool false) ∧ W.cell? ⟨A2, 1, none⟩ = some (S [5]) ∧ W.cell? ⟨A2, 2, none⟩ = some (S [2]) ∧ W.cell? ⟨A1, 0, none⟩ = some (.bool false) ∧ W.cell? ⟨A1, 1, none⟩ = some (S [2]) ∧ W.cell? ⟨A1, 2, none⟩ = some (S [1]) from fun W h => ⟨(h.row _ mm0).cell 0, (h.row _ mm0).cell 1, (h.row _ mm0).cell 2, (h.row _ mm1).cell 0, (h.row _ mm1).cell 1, (h.row _ mm1).cell 2, (h.row _ mm2).cell 0, (h.row _ mm2).cell 1, (h.row _ mm2).cell 2, (h.row _ mm3).cell 0, (h.row _ mm3).cell 1, (h.row _ mm3).cell 2, (h.row _ mm4).cell 0, (h.row _ mm4).cell 1, (h.row _ mm4).cell 2⟩)
 obtain ⟨cc0, cc1, cc2, cc3, cc4, cc5, cc6, cc7, cc8, cc9, cc10, cc11, cc12, cc13, cc14⟩ := HF1.out _ HK.out
 clear cc0 cc1 cc2 cc3 cc4 cc5 cc6 cc7 cc8 cc9 cc10 cc11 cc12 cc13 cc14
 replace HK := Lib.hid HK.out.drew
 go_region_held3 (fun w' => w'.cell? ⟨A5, 0, none⟩ = some (.bool true) ∧ w'.cell? ⟨A5, 1, none⟩ = some (S [1]) ∧ w'.cell? ⟨A5, 2, none⟩ = some (S [1]) ∧ w'.cell? ⟨A4, 0, none⟩ = some (.bool false) ∧ w'.cell? ⟨A4, 1, none⟩ = some (S [3]) ∧ w'.cell? ⟨A4, 2, none⟩ = some (S [2]) ∧ w'.cell? ⟨A3, 0, none⟩ = some (.bool false) ∧ w'.cell? ⟨A3, 1, none⟩ = some (S [5]) ∧ w'.cell? ⟨A3, 2, none⟩ = some (S [2]) ∧ w'.cell? ⟨A2, 0, none⟩ = some (.bool false) ∧ w'.cell? ⟨A2, 1, none⟩ = some (S [5]) ∧ w'.cell? ⟨A2, 2, none⟩ = some (S [2]) ∧ w'.cell? ⟨A1, 0, none⟩ = some (.bool false) ∧ w'.cell? ⟨A1, 1, none⟩ = some (S [2]) ∧ w'.cell? ⟨A1, 2, none⟩ = some (S [1]))
  (first
   | (with_reducible exact HF1.out _ HK.out)
   | go_keep)
  (first
   | (go_at_call 38; with_reducible refine (f_r2_1 _).mono ?_; rintro e wq ⟨rfl, hCq⟩; replace HK := Lib.hid (HK.out.on hCq); clear hCq)
   | (go_at_call 38; with_reducible refine (f_r5_2 _).mono ?_; rintro e wq ⟨rfl, hCq⟩; replace HK := Lib.hid (HK.out.on hCq); clear hCq)
   | (go_at_call 38; with_reducible refine (f_r3_2 _).mono ?_; rintro e wq ⟨rfl, hCq⟩; replace HK := Lib.hid (HK.out.on hCq); clear hCq)
   | (go_at_call 38; with_reducible refine (f_rn1_1 _).mono ?_; rintro e wq ⟨rfl, hCq⟩; replace HK := Lib.hid (HK.out.on hCq); clear hCq))
 obtain ⟨cc0, cc1, cc2, cc3, cc4, cc5, cc6, cc7, cc8, cc9, cc10, cc11, cc12, cc13, cc14⟩ := HF1.out _ HK.out
 clear cc0 cc1 cc2 cc3 cc4 cc5 cc6 cc7 cc8 cc9 cc10 cc11 cc12 cc13 cc14
 replace HK := Lib.hid (show Kq w _ [] from ⟨HK.out.ch, fun p hp => by cases hp⟩)
 go_wp2_with fail
 refine (f_r1_1 _).mono ?_
 rintro e w31 ⟨rfl, hC⟩
 replace HK := Lib.hid (HK.out.on hC)
 clear hC
 go_wp2_with fail
 refine (f_r1_1 _).mono ?_
 rintro e w32 ⟨rfl, hC⟩
 replace HK := Lib.hid (HK.out.on hC)
 clear hC
 go_wp2_with fail
 refine (f_r1_1 _).mono ?_
 rintro e w33 ⟨rfl, hC⟩
 replace HK := Lib.hid (HK.out.on hC)
 clear hC
 go_wp2_with fail
 have HK2 := Lib.hid (HK.out.new #[.bool false, S [1], S [1], .bool false, S [1], S [1], .bool false, S [1], S [1]] 26)
 obtain ⟨w34, hW⟩ : ∃ W, w33.alloc (.cells #[.bool false, S [1], S [1], .bool false, S [1], S [1], .bool false, S [1], S [1]] 26 (0, 0)) = W := ⟨_, rfl⟩
 rw [hW] at HK2 ⊢
 obtain ⟨O, hA⟩ : ∃ A, w33.heap.size = A := ⟨_, rfl⟩
 rw [hA] at HK2 ⊢
 clear hA
 clear hW HK
 have HK := HK2
 clear HK2
 refine (f_r1_1 _).mono ?_
 rintro e w35 ⟨rfl, hC⟩
 replace HK := Lib.hid (HK.out.on hC)
 clear hC
 go_wp2_with fail
 refine (k_split1 _ _ (HK.out.row _ mm0) (HT.out.ch HK.out.ch)).mono ?_
 rintro e w36 ⟨g1, o1, c1, ty1, pre1, post1, rfl, hB, ho, hC⟩
 have HK2 := Lib.hid ((HK.out.on hC).add hB)
 have HO1 := Lib.hid ho
 clear hC HK hB ho
 have HK := HK2
 clear HK2
 go_wp2_with fail
 have HB15 := Lib.hid (show ∀ W, Kq w W [(g1, ty1, pre1 ++ rcs J3 ++ post1), (O, 26, [.bool false, S [1], S [1], .bool false, S [1], S [1], .bool false, S [1], S [1]])] → Blk W O 26 (rcs [t1, t1, t1]) from fun W h => h.row _ mm1)
 have HS15 := Lib.hid (fun (W : World) (h : Kq w W [(g1, ty1, pre1 ++ rcs J3 ++ post1), (O, 26, [.bool false, S [1], S [1], .bool false, S [1], S [1], .bool false, S [1], S [1]])]) => k_split2 W O (HB15.out W h) (HT.out.ch h.ch))
 clear HB15
 replace HK := Lib.hid HK.out.drew
 go_region_held3 (fun _ => True)
  (exact trivial)
  (first
   | (go_at_call 38; with_reducible refine (f_rn1_100 _).mono ?_; rintro e wq ⟨rfl, hCq⟩; replace HK := Lib.hid (HK.out.on hCq); clear hCq)
   | (go_at_call 19; with_reducible refine (HS15.out _ HK.out).mono ?_; rintro e wq ⟨g2, o2, c2, ty2, pre2, post2, rfl, hB, ho, hCq⟩; have HK2 := Lib.hid ((HK.out.on hCq).add hB); have HO2 := Lib.hid ho; clear hCq hB ho HK; have HK := HK2; clear HK2))
 go_wp2_with fail
 refine (f_r1_3 _).mono ?_
 rintro e w37 ⟨rfl, hC⟩
 replace HK := Lib.hid (HK.out.on hC)
 clear hC
 go_wp2_with fail
 refine (k_split3 _ _ (HK.out.row _ mm2) (HT.out.ch HK.out.ch)).mono ?_
 rintro e w38 ⟨p3, n3, c3, rfl, hC⟩
 replace HK := Lib.hid (HK.out.on hC)
 clear hC
 go_wp2_with fail
 refine (f_r1_1 _).mono ?_
 rintro e w39 ⟨rfl, hC⟩
 replace HK := Lib.hid (HK.out.on hC)
 clear hC
 go_wp2_with fail
 refine (f_r0_1 _).mono ?_
 rintro e w40 ⟨rfl, hC⟩
 replace HK := Lib.hid (HK.out.on hC)
 clear hC
 go_wp2_with fail
 have HK2 := Lib.hid (HK.out.new #[.bool false, S [], S [1]] 26)
 obtain ⟨w41, hW⟩ : ∃ W, w40.alloc (.cells #[.bool false, S [], S [1]] 26 (0, 0)) = W := ⟨_, rfl⟩
 rw [hW] at HK2 ⊢
 obtain ⟨O2, hA⟩ : ∃ A, w40.heap.size = A := ⟨_, rfl⟩
 rw [hA] at HK2 ⊢
 clear hA
 clear hW HK
 have HK := HK2
 clear HK2
 refine (k_split4 _ _ (HK.out.row _ mm0) (HT.out.ch HK.out.ch)).mono ?_
 rintro e w42 ⟨p4, n4, c4, rfl, hC⟩
 replace HK := Lib.hid (HK.out.on hC)
 clear hC
 go_wp2_with fail
 refine (f_r17_50 _).mono ?_
 rintro e w43 ⟨rfl, hC⟩
 replace HK := Lib.hid (HK.out.on hC)
 clear hC
 go_wp2_with fail
 refine (f_r33_100 _).mono ?_
 rintro e w44 ⟨rfl, hC⟩
 replace HK := Lib.hid (HK.out.on hC)
 clear hC
 go_wp2_with fail
 refine (f_r33_100 _).mono ?_
 rintro e w45 ⟨rfl, hC⟩
 replace HK := Lib.hid (HK.out.on hC)
 clear hC
 go_wp2_with fail
 have HK2 := Lib.hid (HK.out.new #[.bool false, S [17], S [50], .bool false, S [33], S [100], .bool false, S [33], S [100]] 26)
 obtain ⟨w46, hW⟩ : ∃ W, w45.alloc (.cells #[.bool false, S [17], S [50], .bool false, S [33], S [100], .bool false, S [33], S [100]] 26 (0, 0)) = W := ⟨_, rfl⟩
 rw [hW] at HK2 ⊢
 obtain ⟨S1, hA⟩ : ∃ A, w45.heap.size = A := ⟨_, rfl⟩
 rw [hA] at HK2 ⊢
 clear hA
 clear hW HK
 have HK := HK2
 clear HK2
 refine (same4_true _ (some ⟨g1, o1, none⟩) (some ⟨S1, 0, none⟩) 3 c1 3 J3 (Rs.closed (HK.out.row _ mm3) HO1.out rfl) (Rs.blk (HK.out.row _ mm0) rfl) (by decide)).mono ?_
 rintro e w47 ⟨rfl, hC⟩
 replace HK := Lib.hid (HK.out.on hC)
 clear hC
 go_wp2_with fail
 refine (f_rn1_100 _).mono ?_
 rintro e w48 ⟨rfl, hC⟩
 replace HK := Lib.hid (HK.out.on hC)
 clear hC
 go_wp2_with fail
 refine (f_r0_1 _).mono ?_
 rintro e w49 ⟨rfl, hC⟩
 replace HK := Lib.hid (HK.out.on hC)
 clear hC
 go_wp2_with fail
 have HK2 := Lib.hid (HK.out.new #[.bool true, S [1], S [100], .bool false, S [], S [1]] 26)
 obtain ⟨w50, hW⟩ : ∃ W, w49.alloc (.cells #[.bool true, S [1], S [100], .bool false, S [], S [1]] 26 (0, 0)) = W := ⟨_, rfl⟩
 rw [hW] at HK2 ⊢
 obtain ⟨S2, hA⟩ : ∃ A, w49.heap.size = A := ⟨_, rfl⟩
 rw [hA] at HK2 ⊢
 clear hA
 clear hW HK
 have HK := HK2
 clear HK2
 refine (same4_true _ (some ⟨g2, o2, none⟩) (some ⟨S2, 0, none⟩) 2 c2 2 J2 (Rs.closed (HK.out.row _ mm3) HO2.out rfl) (Rs.blk (HK.out.row _ mm0) rfl) (by decide)).mono ?_
 rintro e w51 ⟨rfl, hC⟩
 replace HK := Lib.hid (HK.out.on hC)
 clear hC
 go_wp2_with fail
 refine (f_r25_2 _).mono ?_
 rintro e w52 ⟨rfl, hC⟩
 replace HK := Lib.hid (HK.out.on hC)
 clear hC
 go_wp2_with fail
 refine (k_text1 _ (HT.out.ch HK.out.ch)).mono ?_
 rintro e w53 ⟨rfl, hC⟩
 replace HK := Lib.hid (HK.out.on hC)
 clear hC
 go_wp2_with fail
 refine (f_rn1_20 _).mono ?_
 rintro e w54 ⟨rfl, hC⟩
 replace HK := Lib.hid (HK.out.on hC)
 clear hC
 go_wp2_with fail
 refine (k_text2 _ (HT.out.ch HK.out.ch)).mono ?_
 rintro e w55 ⟨rfl, hC⟩
 replace HK := Lib.hid (HK.out.on hC)
 clear hC
 go_wp2_with fail
 refine (k_parse1 _ (HT.out.ch HK.out.ch)).mono ?_
 rintro e w56 ⟨rfl, hC⟩
 replace HK := Lib.hid (HK.out.on hC)
 clear hC
 go_wp2_with fail
 have HK2 := Lib.hid (HK.out.other (.cells #[.bool false, S [], S []] 26 (0, 0)))
 obtain ⟨w57, hW⟩ : ∃ W, w56.alloc (.cells #[.bool false, S [], S []] 26 (0, 0)) = W := ⟨_, rfl⟩
 rw [hW] at HK2 ⊢
 clear hW HK
 have HK := HK2
 clear HK2
 refine (k_parse2 _ (HT.out.ch HK.out.ch)).mono ?_
 rintro e w58 ⟨rfl, hC⟩
 replace HK := Lib.hid (HK.out.on hC)
 clear hC
 go_wp2_with fail
 have HK2 := Lib.hid (HK.out.other (.cells #[.bool false, S [], S []] 26 (0, 0)))
 obtain ⟨w59, hW⟩ : ∃ W, w58.alloc (.cells #[.bool false, S [], S []] 26 (0, 0)) = W := ⟨_, rfl⟩
 rw [hW] at HK2 ⊢
 clear hW HK
 have HK := HK2
 clear HK2
 refine (f_r1_3 _).mono ?_
 rintro e w60 ⟨rfl, hC⟩
 replace HK := Lib.hid (HK.out.on hC)
 clear hC
 go_wp2_with fail
 refine (k_fits _ (HT.out.ch HK.out.ch)).mono ?_
 rintro e w61 ⟨rfl, hC⟩
 replace HK := Lib.hid (HK.out.on hC)
 clear hC
 go_wp2_with fail
 go_ret
 exact ⟨rfl, HK.out.ch⟩
end Go.Proofs.YtkeomlpecjjhiaaGreatDoor
