/- The reference of layer 4: Up, Near. -/
import Derived.Test.YtkeomlpecjjhiaaGreatDoorIb
import Derived.Test.YtkeomlpecjjhiaaGreatDoorWy
namespace Go.Proofs.YtkeomlpecjjhiaaGreatDoor
open Go.RowKit
set_option maxRecDepth 100000
set_option maxHeartbeats 6400000 in
theorem up_walk {s t s1 s2 r ok : Bool} {n d m e n1 d1 n2 d2 k f : List UInt8} (h1 : Ans 85 #[Rv s n d] (.bool true)) (h2 : Ans 44 #[Rv s n d] (Rv s1 n1 d1)) (h3 : AnsM 46 #[Rv s1 n1 d1, Rv t m e] (.tuple #[Rv s2 n2 d2, .bool ok])) (h4 : (ok = true ∧ Ans 44 #[Rv s2 n2 d2] (Rv r k f)) ∨ (ok = false ∧ r = false ∧ k = [] ∧ f = [])) : AnsM 47 #[Rv s n d, Rv t m e] (.tuple #[Rv r k f, .bool ok]) := fun w ht => by
 have H1 := Lib.hid h1
 have H2 := Lib.hid h2
 have H3 := Lib.hid h3
 have HDD := Lib.hid h4
 clear h1 h2 h3 h4
 have HT := Lib.hid ht
 have HK := Lib.hid ((((Kq.nil w).new #[.bool s, S n, S d] 26).new #[.bool t, S m, S e] 26).new #[.bool false, S [], S []] 26)
 rw [World.size_alloc, World.size_alloc] at HK
 obtain ⟨B, hB⟩ : ∃ B, w.heap.size = B := ⟨_, rfl⟩
 rw [hB] at HK
 have HBB := Lib.hid hB
 clear ht
 have HF1 := Lib.hid (show ∀ W, Kq w W [(B + 1 + 1, 26, [.bool false, S [], S []]), (B + 1, 26, [.bool t, S m, S e]), (B, 26, [.bool s, S n, S d])] → W.cell? ⟨B + 1 + 1, 0, none⟩ = some (.bool false) ∧ W.cell? ⟨B + 1 + 1, 1, none⟩ = some (S []) ∧ W.cell? ⟨B + 1 + 1, 2, none⟩ = some (S []) ∧ W.cell? ⟨B + 1, 0, none⟩ = some (.bool t) ∧ W.cell? ⟨B + 1, 1, none⟩ = some (S m) ∧ W.cell? ⟨B + 1, 2, none⟩ = some (S e) ∧ W.cell? ⟨B, 0, none⟩ = some (.bool s) ∧ W.cell? ⟨B, 1, none⟩ = some (S n) ∧ W.cell? ⟨B, 2, none⟩ = some (S d) from fun W h => ⟨(h.row _ mm0).cell 0, (h.row _ mm0).cell 1, (h.row _ mm0).cell 2, (h.row _ mm1).cell 0, (h.row _ mm1).cell 1, (h.row _ mm1).cell 2, (h.row _ mm2).cell 0, (h.row _ mm2).cell 1, (h.row _ mm2).cell 2⟩)
 obtain ⟨cc0, cc1, cc2, cc3, cc4, cc5, cc6, cc7, cc8⟩ := HF1.out _ HK.out
 go_enter Tryz.func47, Tryz.ntmps47
 go_wp2_with fail
 clear hB
 refine (H1.out _).mono ?_
 rintro e w1 ⟨rfl, hC⟩
 replace HK := Lib.hid (HK.out.on hC)
 clear hC cc0 cc1 cc2 cc3 cc4 cc5 cc6 cc7 cc8
 obtain ⟨cc0, cc1, cc2, cc3, cc4, cc5, cc6, cc7, cc8⟩ := HF1.out _ HK.out
 go_wp2_with fail
 clear cc0 cc1 cc2 cc3 cc4 cc5 cc6 cc7 cc8
 replace HK := Lib.hid HK.out.drew
 refine wp_region_held_drew (S := fun w' => w'.cell? ⟨B + 1 + 1, 0, none⟩ = some (.bool false) ∧ w'.cell? ⟨B + 1 + 1, 1, none⟩ = some (S []) ∧ w'.cell? ⟨B + 1 + 1, 2, none⟩ = some (S []) ∧ w'.cell? ⟨B + 1, 0, none⟩ = some (.bool t) ∧ w'.cell? ⟨B + 1, 1, none⟩ = some (S m) ∧ w'.cell? ⟨B + 1, 2, none⟩ = some (S e) ∧ w'.cell? ⟨B, 0, none⟩ = some (.bool s) ∧ w'.cell? ⟨B, 1, none⟩ = some (S n) ∧ w'.cell? ⟨B, 2, none⟩ = some (S d)) (by kernel_rfl) ?_ (fun hHeld => ?_)
 ·(try dsimp only); exact HF1.out _ HK.out
 refine tk 0 (v := ?_) hHeld ?_ ?_
 rotate_left 1
 ·intro _ hw; (try dsimp only at hw); go_simp; try with_reducible rfl
 (try simp only [Act.put, List.setIfInBounds_toArray, List.set_cons_zero, List.set_cons_succ])
 refine tk 2 (v := ?_) hHeld ?_ ?_
 rotate_left 1
 ·intro _ hw; (try dsimp only at hw); go_simp; try with_reducible rfl
 (try simp only [Act.put, List.setIfInBounds_toArray, List.set_cons_zero, List.set_cons_succ])
 generalize hX : @wpAnyH _ _ _ _ _ = X
 have hXi : ∀ f l a W, X f l a W → wpAnyH _ _ _ _ _ f l a W := fun f l a W h => by rw [hX]; exact h
 have hXo : ∀ f l a W, wpAnyH _ _ _ _ _ f l a W → X f l a W := fun f l a W h => by rw [← hX]; exact h
 have HXI := Lib.hid hXi
 have HXO := Lib.hid hXo
 clear hXi hXo hX hHeld
 have HK0 := HK
 clear HK
 have LS2_0 : ∀ (pd : Nat) (W : World), Kq w W [(B + 1 + 1, 26, [.bool false, S [], S []]), (B + 1, 26, [.bool t, S m, S e]), (B, 26, [.bool s, S n, S d])] → Blk W pd 26 [.bool false, S [], S []] → B + 1 + 1 < pd → X 2 #[true, true, true, true, true, true, true, true, false, false] { tmps := #[Rv s n d, Rv t m e, .pointer (some ⟨B, 0, none⟩), .pointer (some ⟨B + 1, 0, none⟩), .pointer (some ⟨B + 1 + 1, 0, none⟩), .bool false, .bool true, .pointer (some ⟨pd, 0, none⟩), undef, Rv s n d, .bool true, .bool true, .bool false, undef, .tuple #[Rv s2 n2 d2, .bool ok], Rv s n d, Rv s1 n1 d1, Rv t m e, .tuple #[Rv s2 n2 d2, .bool ok], Rv s2 n2 d2, .bool ok, undef, undef, undef, undef, undef], defers := [] } W := by
  intro pd W hK0 bpd gpd
  have HK := Lib.hid hK0
  clear hK0
  have hHeld := HF1.out _ HK.out
  refine HXO.out _ _ _ _ ?_
  replace HK := Lib.hid (HK.out.add bpd)
  clear bpd
  have e0 := (HK.out.row _ mm0).cell 0
  have f0 := (HK.out.row _ mm0).frozen 0
  have e1 := (HK.out.row _ mm0).cell 1
  have f1 := (HK.out.row _ mm0).frozen 1
  have e2 := (HK.out.row _ mm0).cell 2
  have f2 := (HK.out.row _ mm0).frozen 2
  simp only [List.getElem?_cons_zero, List.getElem?_cons_succ] at e0 e1 e2
  refine wpAnyH_ready (rs := [8]) (by kernel_rfl) (by simp) ?_
  refine AllReadyH.cons (at_list rfl) (fun K hK => ?_) AllReadyH.nil
  go_simp
  clear hHeld e0 e1 e2 f0 f1 f2
  have HKp := Lib.hid (Kq.sub (l' := [(pd, 26, [.bool false, S [], S []]), (B + 1 + 1, 26, [.bool false, S [], S []]), (B + 1, 26, [.bool t, S m, S e]), (B, 26, [.bool s, S n, S d])]) HK.out (by intro p hp; simp only [List.mem_cons, List.not_mem_nil, or_false] at hp ⊢; rcases hp with rfl | rfl | rfl | rfl <;> simp))
  have HKq := Lib.hid (HKp.out.put3 (by have := HBB.out; omega) (by intro p hp; simp only [List.mem_cons, List.not_mem_nil, or_false] at hp; rcases hp with rfl | rfl | rfl <;> (simp only; omega)) (.bool s2) (S n2) (S d2))
  have HK2 := Lib.hid (Kq.sub (l' := [(pd, 26, [.bool s2, S n2, S d2]), (B + 1 + 1, 26, [.bool false, S [], S []]), (B + 1, 26, [.bool t, S m, S e]), (B, 26, [.bool s, S n, S d])]) HKq.out (by intro p hp; simp only [List.mem_cons, List.not_mem_nil, or_false] at hp ⊢; rcases hp with rfl | rfl | rfl | rfl <;> simp))
  refine hK.out _ _ ?_ (fun hHeld => ?_)
  ·(try dsimp only); exact HF1.out _ (Kq.sub HK2.out (by intro p hp; simp only [List.mem_cons, List.not_mem_nil, or_false] at hp ⊢; rcases hp with rfl | rfl | rfl <;> simp))
  clear hK K HK HKp HKq
  have HK := HK2
  clear HK2
  (try simp only [List.setIfInBounds_toArray, List.set_cons_zero, List.set_cons_succ])
  refine tk 9 (v := ?_) hHeld ?_ ?_
  rotate_left 1
  ·intro _ hw; (try dsimp only at hw); go_simp; try with_reducible rfl
  (try simp only [Act.put, List.setIfInBounds_toArray, List.set_cons_zero, List.set_cons_succ])
  refine wpAnyH_done (by kernel_rfl) ?_ _
  clear hHeld
  rcases HDD.out with ⟨rfl, H40⟩ | ⟨rfl, rfl, rfl, rfl⟩
  ·clear HDD
   have H4 := Lib.hid H40
   clear H40
   have HF72 := Lib.hid (show ∀ W, Kq w W [(pd, 26, [.bool s2, S n2, S d2]), (B + 1 + 1, 26, [.bool false, S [], S []]), (B + 1, 26, [.bool t, S m, S e]), (B, 26, [.bool s, S n, S d])] → W.cell? ⟨pd, 0, none⟩ = some (.bool s2) ∧ W.cell? ⟨pd, 1, none⟩ = some (S n2) ∧ W.cell? ⟨pd, 2, none⟩ = some (S d2) ∧ W.cell? ⟨B + 1 + 1, 0, none⟩ = some (.bool false) ∧ W.cell? ⟨B + 1 + 1, 1, none⟩ = some (S []) ∧ W.cell? ⟨B + 1 + 1, 2, none⟩ = some (S []) ∧ W.cell? ⟨B + 1, 0, none⟩ = some (.bool t) ∧ W.cell? ⟨B + 1, 1, none⟩ = some (S m) ∧ W.cell? ⟨B + 1, 2, none⟩ = some (S e) ∧ W.cell? ⟨B, 0, none⟩ = some (.bool s) ∧ W.cell? ⟨B, 1, none⟩ = some (S n) ∧ W.cell? ⟨B, 2, none⟩ = some (S d) from fun W h => ⟨(h.row _ mm0).cell 0, (h.row _ mm0).cell 1, (h.row _ mm0).cell 2, (h.row _ mm1).cell 0, (h.row _ mm1).cell 1, (h.row _ mm1).cell 2, (h.row _ mm2).cell 0, (h.row _ mm2).cell 1, (h.row _ mm2).cell 2, (h.row _ mm3).cell 0, (h.row _ mm3).cell 1, (h.row _ mm3).cell 2⟩)
   obtain ⟨cc0, cc1, cc2, cc3, cc4, cc5, cc6, cc7, cc8, cc9, cc10, cc11⟩ := HF72.out _ HK.out
   go_wp2_with fail
   refine (H4.out _).mono ?_
   rintro e w52 ⟨rfl, hC⟩
   replace HK := Lib.hid (HK.out.on hC)
   clear hC cc0 cc1 cc2 cc3 cc4 cc5 cc6 cc7 cc8 cc9 cc10 cc11
   obtain ⟨cc0, cc1, cc2, cc3, cc4, cc5, cc6, cc7, cc8, cc9, cc10, cc11⟩ := HF72.out _ HK.out
   clear cc0 cc1 cc2 cc3 cc4 cc5 cc6 cc7 cc8 cc9 cc10 cc11
   have e0 := (HK.out.row _ mm1).cell 0
   have e1 := (HK.out.row _ mm1).cell 1
   have e2 := (HK.out.row _ mm1).cell 2
   have f0 := (HK.out.row _ mm1).frozen 0
   have f1 := (HK.out.row _ mm1).frozen 1
   have f2 := (HK.out.row _ mm1).frozen 2
   simp only [List.getElem?_cons_zero, List.getElem?_cons_succ] at e0 e1 e2
   go_wp2_with fail
   have hp := HK.out.put (g := B + 1 + 1) mm1 (by have := HBB.out; omega) (.bool r) (S k) (S f)
   refine bodyPost_ret (results_cell_row_tmp (P := Tryz.prog) rfl _ _ (B + 1 + 1) 26 _ (0, 0) _ rfl hp.1 Tryz.underlying26 rfl (by kernel_rfl)) rfl ?_
   exact ⟨rfl, hp.2⟩
  ·clear HDD
   have HF72 := Lib.hid (show ∀ W, Kq w W [(pd, 26, [.bool s2, S n2, S d2]), (B + 1 + 1, 26, [.bool false, S [], S []]), (B + 1, 26, [.bool t, S m, S e]), (B, 26, [.bool s, S n, S d])] → W.cell? ⟨pd, 0, none⟩ = some (.bool s2) ∧ W.cell? ⟨pd, 1, none⟩ = some (S n2) ∧ W.cell? ⟨pd, 2, none⟩ = some (S d2) ∧ W.cell? ⟨B + 1 + 1, 0, none⟩ = some (.bool false) ∧ W.cell? ⟨B + 1 + 1, 1, none⟩ = some (S []) ∧ W.cell? ⟨B + 1 + 1, 2, none⟩ = some (S []) ∧ W.cell? ⟨B + 1, 0, none⟩ = some (.bool t) ∧ W.cell? ⟨B + 1, 1, none⟩ = some (S m) ∧ W.cell? ⟨B + 1, 2, none⟩ = some (S e) ∧ W.cell? ⟨B, 0, none⟩ = some (.bool s) ∧ W.cell? ⟨B, 1, none⟩ = some (S n) ∧ W.cell? ⟨B, 2, none⟩ = some (S d) from fun W h => ⟨(h.row _ mm0).cell 0, (h.row _ mm0).cell 1, (h.row _ mm0).cell 2, (h.row _ mm1).cell 0, (h.row _ mm1).cell 1, (h.row _ mm1).cell 2, (h.row _ mm2).cell 0, (h.row _ mm2).cell 1, (h.row _ mm2).cell 2, (h.row _ mm3).cell 0, (h.row _ mm3).cell 1, (h.row _ mm3).cell 2⟩)
   obtain ⟨cc0, cc1, cc2, cc3, cc4, cc5, cc6, cc7, cc8, cc9, cc10, cc11⟩ := HF72.out _ HK.out
   clear cc0 cc1 cc2 cc3 cc4 cc5 cc6 cc7 cc8 cc9 cc10 cc11
   have e0 := (HK.out.row _ mm1).cell 0
   have e1 := (HK.out.row _ mm1).cell 1
   have e2 := (HK.out.row _ mm1).cell 2
   have f0 := (HK.out.row _ mm1).frozen 0
   have f1 := (HK.out.row _ mm1).frozen 1
   have f2 := (HK.out.row _ mm1).frozen 2
   simp only [List.getElem?_cons_zero, List.getElem?_cons_succ] at e0 e1 e2
   go_wp2_with fail
   have hp := HK.out.put (g := B + 1 + 1) mm1 (by have := HBB.out; omega) (.bool false) (S []) (S [])
   refine bodyPost_ret (results_cell_row_tmp (P := Tryz.prog) rfl _ _ (B + 1 + 1) 26 _ (0, 0) _ rfl hp.1 Tryz.underlying26 rfl (by kernel_rfl)) rfl ?_
   exact ⟨rfl, hp.2⟩
 have LS1_0 : ∀ (pd : Nat) (W : World), Kq w W [(B + 1 + 1, 26, [.bool false, S [], S []]), (B + 1, 26, [.bool t, S m, S e]), (B, 26, [.bool s, S n, S d])] → Blk W pd 26 [.bool false, S [], S []] → B + 1 + 1 < pd → X 6 #[true, true, true, false, false, false, false, true, false, false] { tmps := #[Rv s n d, Rv t m e, .pointer (some ⟨B, 0, none⟩), .pointer (some ⟨B + 1, 0, none⟩), .pointer (some ⟨B + 1 + 1, 0, none⟩), .bool false, .bool true, .pointer (some ⟨pd, 0, none⟩), undef, Rv s n d, .bool true, .bool true, .bool false, undef, undef, Rv s n d, Rv s1 n1 d1, Rv t m e, undef, undef, undef, undef, undef, undef, undef, undef], defers := [] } W := by
  intro pd W hK0 bpd gpd
  have HK := Lib.hid hK0
  clear hK0
  have hHeld := HF1.out _ HK.out
  refine HXO.out _ _ _ _ ?_
  refine wpAnyH_ready (rs := [3]) (by kernel_rfl) (by simp) ?_
  refine AllReadyH.cons (at_list rfl) (fun K hK => ?_) (AllReadyH.nil)
  ·go_simp
   go_at_call 46
   with_reducible refine (H3.out _ (HT.out.ch HK.out.ch)).mono ?_
   rintro e wq ⟨rfl, hCq⟩
   have HK2 := Lib.hid (HK.out.on hCq)
   clear hHeld
   first | (refine hK.out _ _ ?_ (fun hHeld => ?_)) | (go_wp2_with fail; refine hK.out _ _ ?_ (fun hHeld => ?_))
   ·(try dsimp only); exact HF1.out _ HK2.out
   (try simp only [List.setIfInBounds_toArray, List.set_cons_zero, List.set_cons_succ])
   refine tk 4 (v := ?_) hHeld ?_ ?_
   rotate_left 1
   ·intro _ hw; (try dsimp only at hw); go_simp; try with_reducible rfl
   (try simp only [Act.put, List.setIfInBounds_toArray, List.set_cons_zero, List.set_cons_succ])
   refine tk 5 (v := ?_) hHeld ?_ ?_
   rotate_left 1
   ·intro _ hw; (try dsimp only at hw); go_simp; try with_reducible rfl
   (try simp only [Act.put, List.setIfInBounds_toArray, List.set_cons_zero, List.set_cons_succ])
   refine tk 6 (v := ?_) hHeld ?_ ?_
   rotate_left 1
   ·intro _ hw; (try dsimp only at hw); go_simp; try with_reducible rfl
   (try simp only [Act.put, List.setIfInBounds_toArray, List.set_cons_zero, List.set_cons_succ])
   exact HXI.out _ _ _ _ (LS2_0 _ _ HK2.out (hCq.blk bpd (Blk.lt bpd) (fun q => q)) gpd)
 have LS2_ : ∀ (W : World), Kq w W [(B + 1 + 1, 26, [.bool false, S [], S []]), (B + 1, 26, [.bool t, S m, S e]), (B, 26, [.bool s, S n, S d])] → X 3 #[true, true, true, true, true, true, true, false, false, false] { tmps := #[Rv s n d, Rv t m e, .pointer (some ⟨B, 0, none⟩), .pointer (some ⟨B + 1, 0, none⟩), .pointer (some ⟨B + 1 + 1, 0, none⟩), .bool false, .bool true, undef, undef, Rv s n d, .bool true, .bool true, .bool false, undef, .tuple #[Rv s2 n2 d2, .bool ok], Rv s n d, Rv s1 n1 d1, Rv t m e, .tuple #[Rv s2 n2 d2, .bool ok], Rv s2 n2 d2, .bool ok, undef, undef, undef, undef, undef], defers := [] } W := by
  intro  W hK0
  have HK := Lib.hid hK0
  clear hK0
  have hHeld := HF1.out _ HK.out
  refine HXO.out _ _ _ _ ?_
  refine wpAnyH_ready (rs := [7]) (by kernel_rfl) (by simp) ?_
  refine AllReadyH.cons (at_list rfl) (fun K hK => ?_) (AllReadyH.nil)
  ·go_simp
   have HK2 := Lib.hid (HK.out.other (.cells #[.bool false, S [], S []] 26 (0, 0)))
   have nB := Blk.new W #[.bool false, S [], S []] 26
   have nG : B + 1 + 1 < W.heap.size := (HK.out.row _ mm0).lt
   clear hHeld
   refine hK.out _ _ ?_ (fun hHeld => ?_)
   ·(try dsimp only); exact HF1.out _ HK2.out
   (try simp only [List.setIfInBounds_toArray, List.set_cons_zero, List.set_cons_succ])
   exact HXI.out _ _ _ _ (LS2_0 _ _ HK2.out nB nG)
 have LS0_0 : ∀ (pd : Nat) (W : World), Kq w W [(B + 1 + 1, 26, [.bool false, S [], S []]), (B + 1, 26, [.bool t, S m, S e]), (B, 26, [.bool s, S n, S d])] → Blk W pd 26 [.bool false, S [], S []] → B + 1 + 1 < pd → X 7 #[true, false, true, false, false, false, false, true, false, false] { tmps := #[Rv s n d, Rv t m e, .pointer (some ⟨B, 0, none⟩), .pointer (some ⟨B + 1, 0, none⟩), .pointer (some ⟨B + 1 + 1, 0, none⟩), .bool false, .bool true, .pointer (some ⟨pd, 0, none⟩), undef, Rv s n d, .bool true, .bool true, .bool false, undef, undef, Rv s n d, undef, Rv t m e, undef, undef, undef, undef, undef, undef, undef, undef], defers := [] } W := by
  intro pd W hK0 bpd gpd
  have HK := Lib.hid hK0
  clear hK0
  have hHeld := HF1.out _ HK.out
  refine HXO.out _ _ _ _ ?_
  refine wpAnyH_ready (rs := [1]) (by kernel_rfl) (by simp) ?_
  refine AllReadyH.cons (at_list rfl) (fun K hK => ?_) (AllReadyH.nil)
  ·go_simp
   go_at_call 44
   with_reducible refine (H2.out _).mono ?_
   rintro e wq ⟨rfl, hCq⟩
   have HK2 := Lib.hid (HK.out.on hCq)
   clear hHeld
   first | (refine hK.out _ _ ?_ (fun hHeld => ?_)) | (go_wp2_with fail; refine hK.out _ _ ?_ (fun hHeld => ?_))
   ·(try dsimp only); exact HF1.out _ HK2.out
   (try simp only [List.setIfInBounds_toArray, List.set_cons_zero, List.set_cons_succ])
   exact HXI.out _ _ _ _ (LS1_0 _ _ HK2.out (hCq.blk bpd (Blk.lt bpd) (fun q => q)) gpd)
 have LS1_ : ∀ (W : World), Kq w W [(B + 1 + 1, 26, [.bool false, S [], S []]), (B + 1, 26, [.bool t, S m, S e]), (B, 26, [.bool s, S n, S d])] → X 7 #[true, true, true, false, false, false, false, false, false, false] { tmps := #[Rv s n d, Rv t m e, .pointer (some ⟨B, 0, none⟩), .pointer (some ⟨B + 1, 0, none⟩), .pointer (some ⟨B + 1 + 1, 0, none⟩), .bool false, .bool true, undef, undef, Rv s n d, .bool true, .bool true, .bool false, undef, undef, Rv s n d, Rv s1 n1 d1, Rv t m e, undef, undef, undef, undef, undef, undef, undef, undef], defers := [] } W := by
  intro  W hK0
  have HK := Lib.hid hK0
  clear hK0
  have hHeld := HF1.out _ HK.out
  refine HXO.out _ _ _ _ ?_
  refine wpAnyH_ready (rs := [3, 7]) (by kernel_rfl) (by simp) ?_
  refine AllReadyH.cons (at_list rfl) (fun K hK => ?_) (AllReadyH.cons (at_list rfl) (fun K hK => ?_) (AllReadyH.nil))
  ·go_simp
   go_at_call 46
   with_reducible refine (H3.out _ (HT.out.ch HK.out.ch)).mono ?_
   rintro e wq ⟨rfl, hCq⟩
   have HK2 := Lib.hid (HK.out.on hCq)
   clear hHeld
   first | (refine hK.out _ _ ?_ (fun hHeld => ?_)) | (go_wp2_with fail; refine hK.out _ _ ?_ (fun hHeld => ?_))
   ·(try dsimp only); exact HF1.out _ HK2.out
   (try simp only [List.setIfInBounds_toArray, List.set_cons_zero, List.set_cons_succ])
   refine tk 4 (v := ?_) hHeld ?_ ?_
   rotate_left 1
   ·intro _ hw; (try dsimp only at hw); go_simp; try with_reducible rfl
   (try simp only [Act.put, List.setIfInBounds_toArray, List.set_cons_zero, List.set_cons_succ])
   refine tk 5 (v := ?_) hHeld ?_ ?_
   rotate_left 1
   ·intro _ hw; (try dsimp only at hw); go_simp; try with_reducible rfl
   (try simp only [Act.put, List.setIfInBounds_toArray, List.set_cons_zero, List.set_cons_succ])
   refine tk 6 (v := ?_) hHeld ?_ ?_
   rotate_left 1
   ·intro _ hw; (try dsimp only at hw); go_simp; try with_reducible rfl
   (try simp only [Act.put, List.setIfInBounds_toArray, List.set_cons_zero, List.set_cons_succ])
   exact HXI.out _ _ _ _ (LS2_ _ HK2.out)
  ·go_simp
   have HK2 := Lib.hid (HK.out.other (.cells #[.bool false, S [], S []] 26 (0, 0)))
   have nB := Blk.new W #[.bool false, S [], S []] 26
   have nG : B + 1 + 1 < W.heap.size := (HK.out.row _ mm0).lt
   clear hHeld
   refine hK.out _ _ ?_ (fun hHeld => ?_)
   ·(try dsimp only); exact HF1.out _ HK2.out
   (try simp only [List.setIfInBounds_toArray, List.set_cons_zero, List.set_cons_succ])
   exact HXI.out _ _ _ _ (LS1_0 _ _ HK2.out nB nG)
 have LS0_ : ∀ (W : World), Kq w W [(B + 1 + 1, 26, [.bool false, S [], S []]), (B + 1, 26, [.bool t, S m, S e]), (B, 26, [.bool s, S n, S d])] → X 8 #[true, false, true, false, false, false, false, false, false, false] { tmps := #[Rv s n d, Rv t m e, .pointer (some ⟨B, 0, none⟩), .pointer (some ⟨B + 1, 0, none⟩), .pointer (some ⟨B + 1 + 1, 0, none⟩), .bool false, .bool true, undef, undef, Rv s n d, .bool true, .bool true, .bool false, undef, undef, Rv s n d, undef, Rv t m e, undef, undef, undef, undef, undef, undef, undef, undef], defers := [] } W := by
  intro  W hK0
  have HK := Lib.hid hK0
  clear hK0
  have hHeld := HF1.out _ HK.out
  refine HXO.out _ _ _ _ ?_
  refine wpAnyH_ready (rs := [1, 7]) (by kernel_rfl) (by simp) ?_
  refine AllReadyH.cons (at_list rfl) (fun K hK => ?_) (AllReadyH.cons (at_list rfl) (fun K hK => ?_) (AllReadyH.nil))
  ·go_simp
   go_at_call 44
   with_reducible refine (H2.out _).mono ?_
   rintro e wq ⟨rfl, hCq⟩
   have HK2 := Lib.hid (HK.out.on hCq)
   clear hHeld
   first | (refine hK.out _ _ ?_ (fun hHeld => ?_)) | (go_wp2_with fail; refine hK.out _ _ ?_ (fun hHeld => ?_))
   ·(try dsimp only); exact HF1.out _ HK2.out
   (try simp only [List.setIfInBounds_toArray, List.set_cons_zero, List.set_cons_succ])
   exact HXI.out _ _ _ _ (LS1_ _ HK2.out)
  ·go_simp
   have HK2 := Lib.hid (HK.out.other (.cells #[.bool false, S [], S []] 26 (0, 0)))
   have nB := Blk.new W #[.bool false, S [], S []] 26
   have nG : B + 1 + 1 < W.heap.size := (HK.out.row _ mm0).lt
   clear hHeld
   refine hK.out _ _ ?_ (fun hHeld => ?_)
   ·(try dsimp only); exact HF1.out _ HK2.out
   (try simp only [List.setIfInBounds_toArray, List.set_cons_zero, List.set_cons_succ])
   exact HXI.out _ _ _ _ (LS0_0 _ _ HK2.out nB nG)
 exact LS0_ _ HK0.out
set_option maxHeartbeats 6400000 in
theorem C_rUp_no {s t : Bool} {n d m e : List UInt8} (hn : n.length ≤ 70) (hd : d.length ≤ 70) (hm : m.length ≤ 70) (he : e.length ≤ 70) (hb : canB s n d t m e = false) : AnsM 47 #[Rv s n d, Rv t m e] (.tuple #[Rv false [] [], .bool false]) := fun w ht => by
 obtain ⟨r1, hr1⟩ : ∃ r, rightR s n d = r := ⟨_, rfl⟩
 have H1 := Lib.hid (C_rRight (s := s) (n := n) (d := d) (by omega) (by omega) hr1)
 cases r1 with
 | false =>
  clear hb hr1 hn hd hm he
  have HT := Lib.hid ht
  have HK := Lib.hid ((((Kq.nil w).new #[.bool s, S n, S d] 26).new #[.bool t, S m, S e] 26).new #[.bool false, S [], S []] 26)
  rw [World.size_alloc, World.size_alloc] at HK
  obtain ⟨B, hB⟩ : ∃ B, w.heap.size = B := ⟨_, rfl⟩
  rw [hB] at HK
  have HBB := Lib.hid hB
  clear ht
  have HF1 := Lib.hid (show ∀ W, Kq w W [(B + 1 + 1, 26, [.bool false, S [], S []]), (B + 1, 26, [.bool t, S m, S e]), (B, 26, [.bool s, S n, S d])] → W.cell? ⟨B + 1 + 1, 0, none⟩ = some (.bool false) ∧ W.cell? ⟨B + 1 + 1, 1, none⟩ = some (S []) ∧ W.cell? ⟨B + 1 + 1, 2, none⟩ = some (S []) ∧ W.cell? ⟨B + 1, 0, none⟩ = some (.bool t) ∧ W.cell? ⟨B + 1, 1, none⟩ = some (S m) ∧ W.cell? ⟨B + 1, 2, none⟩ = some (S e) ∧ W.cell? ⟨B, 0, none⟩ = some (.bool s) ∧ W.cell? ⟨B, 1, none⟩ = some (S n) ∧ W.cell? ⟨B, 2, none⟩ = some (S d) from fun W h => ⟨(h.row _ mm0).cell 0, (h.row _ mm0).cell 1, (h.row _ mm0).cell 2, (h.row _ mm1).cell 0, (h.row _ mm1).cell 1, (h.row _ mm1).cell 2, (h.row _ mm2).cell 0, (h.row _ mm2).cell 1, (h.row _ mm2).cell 2⟩)
  obtain ⟨cc0, cc1, cc2, cc3, cc4, cc5, cc6, cc7, cc8⟩ := HF1.out _ HK.out
  go_enter Tryz.func47, Tryz.ntmps47
  go_wp2_with fail
  clear hB
  refine (H1.out _).mono ?_
  rintro e w1 ⟨rfl, hC⟩
  replace HK := Lib.hid (HK.out.on hC)
  clear hC cc0 cc1 cc2 cc3 cc4 cc5 cc6 cc7 cc8
  obtain ⟨cc0, cc1, cc2, cc3, cc4, cc5, cc6, cc7, cc8⟩ := HF1.out _ HK.out
  clear cc0 cc1 cc2 cc3 cc4 cc5 cc6 cc7 cc8
  have e0 := (HK.out.row _ mm0).cell 0
  have e1 := (HK.out.row _ mm0).cell 1
  have e2 := (HK.out.row _ mm0).cell 2
  have f0 := (HK.out.row _ mm0).frozen 0
  have f1 := (HK.out.row _ mm0).frozen 1
  have f2 := (HK.out.row _ mm0).frozen 2
  simp only [List.getElem?_cons_zero, List.getElem?_cons_succ] at e0 e1 e2
  go_wp2_with fail
  have hp := HK.out.put (g := B + 1 + 1) mm0 (by have := HBB.out; omega) (.bool false) (S []) (S [])
  refine bodyPost_ret (results_cell_row_tmp (P := Tryz.prog) rfl _ _ (B + 1 + 1) 26 _ (0, 0) _ rfl hp.1 Tryz.underlying26 rfl (by kernel_rfl)) rfl ?_
  exact ⟨rfl, hp.2⟩
 | true =>
  obtain ⟨a, ra⟩ : ∃ a, ratOf s n d = a := ⟨_, rfl⟩
  have za : Szq a 70 := by rw [← ra]; exact Szq.of_len hn hd (by omega)
  obtain ⟨s1, n1, d1, i1⟩ := Is.ex (-a)
  obtain ⟨l1, l2⟩ := za.neg.len i1
  have H2 := Lib.hid (C_rNeg (s := s) (n := n) (d := d) (by omega) (by omega) ra i1)
  have hb2 : canB s1 n1 d1 t m e = false := by
   unfold canB at hb ⊢
   rw [hr1] at hb
   rw [rightR_of i1]
   exact hb
  have H3 := Lib.hid (C_rDown_no (s := s1) (n := n1) (d := d1) (t := t) (m := m) (e := e) (by omega) (by omega) (by omega) (by omega) hb2)
  exact up_walk H1.out H2.out H3.out (.inr ⟨rfl, rfl, rfl, rfl⟩) w ht
set_option maxHeartbeats 6400000 in
theorem C_rUp {s t : Bool} {n d m e : List UInt8} {r : Bool} {k f : List UInt8} {a b : Rat} (hn : n.length ≤ 70) (hd : d.length ≤ 70) (hm : m.length ≤ 70) (he : e.length ≤ 70) (hb : canB s n d t m e = true) (ra : ratOf s n d = a) (rb : ratOf t m e = b) (ic : Is (upQ a b) r k f) : AnsM 47 #[Rv s n d, Rv t m e] (.tuple #[Rv r k f, .bool true]) := fun w ht => by
 obtain ⟨hr1, hr2, hk⟩ := can_both hb
 have hpos := (can_pos hb).2
 rw [rb] at hpos
 have hne : b ≠ 0 := Ne.symm (Rat.ne_of_lt hpos)
 have H1 := Lib.hid (C_rRight (s := s) (n := n) (d := d) (by omega) (by omega) hr1)
 have za : Szq a 70 := by rw [← ra]; exact Szq.of_len hn hd (by omega)
 have zb : Szq b 70 := by rw [← rb]; exact Szq.of_len hm he (by omega)
 obtain ⟨s1, n1, d1, i1⟩ := Is.ex (-a)
 obtain ⟨s2, n2, d2, i2⟩ := Is.ex (downQ (-a) b)
 obtain ⟨l1, l2⟩ := za.neg.len i1
 obtain ⟨l3, l4⟩ := (downQ_size za.neg zb hne).len i2
 have hb2 : canB s1 n1 d1 t m e = true := by
  unfold canB
  rw [rightR_of i1, hk]
  rfl
 have H2 := Lib.hid (C_rNeg (s := s) (n := n) (d := d) (by omega) (by omega) ra i1)
 have H3 := Lib.hid (C_rDown (s := s1) (n := n1) (d := d1) (t := t) (m := m) (e := e) (by omega) (by omega) (by omega) (by omega) hb2 (ratOf_is i1) rb i2)
 have H4 := Lib.hid (C_rNeg (s := s2) (n := n2) (d := d2) (by omega) (by omega) (ratOf_is i2) (by rw [← upQ_neg hpos]; exact ic))
 exact up_walk H1.out H2.out H3.out (.inl ⟨rfl, H4.out⟩) w ht
set_option maxHeartbeats 6400000 in
theorem near_walk {s t s1 s2 r ok : Bool} {n d m e n1 d1 n2 d2 k f : List UInt8} (h1 : Ans 85 #[Rv s n d] (.bool true)) (h2 : Ans 85 #[Rv t m e] (.bool true)) (h3 : Ans 17 #[.int .i64 2] (Rv false [2] [1])) (h4 : Ans 26 #[Rv t m e, Rv false [2] [1]] (.tuple #[Rv s1 n1 d1, .bool true])) (h5 : Ans 32 #[Rv s n d, Rv s1 n1 d1] (Rv s2 n2 d2)) (h6 : AnsM 46 #[Rv s2 n2 d2, Rv t m e] (.tuple #[Rv r k f, .bool ok])) : AnsM 48 #[Rv s n d, Rv t m e] (.tuple #[Rv r k f, .bool ok]) := fun w ht => by
 have H1 := Lib.hid h1
 have H2 := Lib.hid h2
 have H3 := Lib.hid h3
 have H4 := Lib.hid h4
 have H5 := Lib.hid h5
 have H6 := Lib.hid h6
 clear h1 h2 h3 h4 h5 h6
 have HT := Lib.hid ht
 have HK := Lib.hid ((((Kq.nil w).new #[.bool s, S n, S d] 26).new #[.bool t, S m, S e] 26).new #[.bool false, S [], S []] 26)
 rw [World.size_alloc, World.size_alloc] at HK
 obtain ⟨B, hB⟩ : ∃ B, w.heap.size = B := ⟨_, rfl⟩
 rw [hB] at HK
 have HBB := Lib.hid hB
 clear ht
 have HF1 := Lib.hid (show ∀ W, Kq w W [(B + 1 + 1, 26, [.bool false, S [], S []]), (B + 1, 26, [.bool t, S m, S e]), (B, 26, [.bool s, S n, S d])] → W.cell? ⟨B + 1 + 1, 0, none⟩ = some (.bool false) ∧ W.cell? ⟨B + 1 + 1, 1, none⟩ = some (S []) ∧ W.cell? ⟨B + 1 + 1, 2, none⟩ = some (S []) ∧ W.cell? ⟨B + 1, 0, none⟩ = some (.bool t) ∧ W.cell? ⟨B + 1, 1, none⟩ = some (S m) ∧ W.cell? ⟨B + 1, 2, none⟩ = some (S e) ∧ W.cell? ⟨B, 0, none⟩ = some (.bool s) ∧ W.cell? ⟨B, 1, none⟩ = some (S n) ∧ W.cell? ⟨B, 2, none⟩ = some (S d) from fun W h => ⟨(h.row _ mm0).cell 0, (h.row _ mm0).cell 1, (h.row _ mm0).cell 2, (h.row _ mm1).cell 0, (h.row _ mm1).cell 1, (h.row _ mm1).cell 2, (h.row _ mm2).cell 0, (h.row _ mm2).cell 1, (h.row _ mm2).cell 2⟩)
 obtain ⟨cc0, cc1, cc2, cc3, cc4, cc5, cc6, cc7, cc8⟩ := HF1.out _ HK.out
 go_enter Tryz.func48, Tryz.ntmps48
 go_wp2_with fail
 clear hB
 refine (H1.out _).mono ?_
 rintro e w1 ⟨rfl, hC⟩
 replace HK := Lib.hid (HK.out.on hC)
 clear hC cc0 cc1 cc2 cc3 cc4 cc5 cc6 cc7 cc8
 obtain ⟨cc0, cc1, cc2, cc3, cc4, cc5, cc6, cc7, cc8⟩ := HF1.out _ HK.out
 go_wp2_with fail
 refine (H2.out _).mono ?_
 rintro e w2 ⟨rfl, hC⟩
 replace HK := Lib.hid (HK.out.on hC)
 clear hC cc0 cc1 cc2 cc3 cc4 cc5 cc6 cc7 cc8
 obtain ⟨cc0, cc1, cc2, cc3, cc4, cc5, cc6, cc7, cc8⟩ := HF1.out _ HK.out
 go_wp2_with fail
 clear cc0 cc1 cc2 cc3 cc4 cc5 cc6 cc7 cc8
 replace HK := Lib.hid HK.out.drew
 refine wp_region_held_drew (S := fun w' => w'.cell? ⟨B + 1 + 1, 0, none⟩ = some (.bool false) ∧ w'.cell? ⟨B + 1 + 1, 1, none⟩ = some (S []) ∧ w'.cell? ⟨B + 1 + 1, 2, none⟩ = some (S []) ∧ w'.cell? ⟨B + 1, 0, none⟩ = some (.bool t) ∧ w'.cell? ⟨B + 1, 1, none⟩ = some (S m) ∧ w'.cell? ⟨B + 1, 2, none⟩ = some (S e) ∧ w'.cell? ⟨B, 0, none⟩ = some (.bool s) ∧ w'.cell? ⟨B, 1, none⟩ = some (S n) ∧ w'.cell? ⟨B, 2, none⟩ = some (S d)) (by kernel_rfl) ?_ (fun hHeld => ?_)
 ·(try dsimp only); exact HF1.out _ HK.out
 refine tk 0 (v := ?_) hHeld ?_ ?_
 rotate_left 1
 ·intro _ hw; (try dsimp only at hw); go_simp; try with_reducible rfl
 (try simp only [Act.put, List.setIfInBounds_toArray, List.set_cons_zero, List.set_cons_succ])
 generalize hX : @wpAnyH _ _ _ _ _ = X
 have hXi : ∀ f l a W, X f l a W → wpAnyH _ _ _ _ _ f l a W := fun f l a W h => by rw [hX]; exact h
 have hXo : ∀ f l a W, wpAnyH _ _ _ _ _ f l a W → X f l a W := fun f l a W h => by rw [← hX]; exact h
 have HXI := Lib.hid hXi
 have HXO := Lib.hid hXo
 clear hXi hXo hX hHeld
 have HK0 := HK
 clear HK
 have LS2_0 : ∀ (pd : Nat) (W : World), Kq w W [(B + 1 + 1, 26, [.bool false, S [], S []]), (B + 1, 26, [.bool t, S m, S e]), (B, 26, [.bool s, S n, S d])] → Blk W pd 26 [.bool false, S [], S []] → B + 1 + 1 < pd → X 2 #[true, true, true, true, true, true, true, false, false] { tmps := #[Rv s n d, Rv t m e, .pointer (some ⟨B, 0, none⟩), .pointer (some ⟨B + 1, 0, none⟩), .pointer (some ⟨B + 1 + 1, 0, none⟩), .bool false, .bool true, .bool true, .pointer (some ⟨pd, 0, none⟩), undef, Rv s n d, .bool true, Rv t m e, .bool true, .bool true, .bool false, .bool false, .bool true, .bool false, .bool false, undef, .tuple #[Rv s1 n1 d1, .bool true], Rv t m e, Rv false [2] [1], .tuple #[Rv s1 n1 d1, .bool true], Rv s1 n1 d1, .bool true, undef, undef, undef, undef, undef, undef, undef], defers := [] } W := by
  intro pd W hK0 bpd gpd
  have HK := Lib.hid hK0
  clear hK0
  have hHeld := HF1.out _ HK.out
  refine HXO.out _ _ _ _ ?_
  replace HK := Lib.hid (HK.out.add bpd)
  clear bpd
  have e0 := (HK.out.row _ mm0).cell 0
  have f0 := (HK.out.row _ mm0).frozen 0
  have e1 := (HK.out.row _ mm0).cell 1
  have f1 := (HK.out.row _ mm0).frozen 1
  have e2 := (HK.out.row _ mm0).cell 2
  have f2 := (HK.out.row _ mm0).frozen 2
  simp only [List.getElem?_cons_zero, List.getElem?_cons_succ] at e0 e1 e2
  refine wpAnyH_ready (rs := [7]) (by kernel_rfl) (by simp) ?_
  refine AllReadyH.cons (at_list rfl) (fun K hK => ?_) AllReadyH.nil
  go_simp
  clear hHeld e0 e1 e2 f0 f1 f2
  have HKp := Lib.hid (Kq.sub (l' := [(pd, 26, [.bool false, S [], S []]), (B + 1 + 1, 26, [.bool false, S [], S []]), (B + 1, 26, [.bool t, S m, S e]), (B, 26, [.bool s, S n, S d])]) HK.out (by intro p hp; simp only [List.mem_cons, List.not_mem_nil, or_false] at hp ⊢; rcases hp with rfl | rfl | rfl | rfl <;> simp))
  have HKq := Lib.hid (HKp.out.put3 (by have := HBB.out; omega) (by intro p hp; simp only [List.mem_cons, List.not_mem_nil, or_false] at hp; rcases hp with rfl | rfl | rfl <;> (simp only; omega)) (.bool s1) (S n1) (S d1))
  have HK2 := Lib.hid (Kq.sub (l' := [(pd, 26, [.bool s1, S n1, S d1]), (B + 1 + 1, 26, [.bool false, S [], S []]), (B + 1, 26, [.bool t, S m, S e]), (B, 26, [.bool s, S n, S d])]) HKq.out (by intro p hp; simp only [List.mem_cons, List.not_mem_nil, or_false] at hp ⊢; rcases hp with rfl | rfl | rfl | rfl <;> simp))
  refine hK.out _ _ ?_ (fun hHeld => ?_)
  ·(try dsimp only); exact HF1.out _ (Kq.sub HK2.out (by intro p hp; simp only [List.mem_cons, List.not_mem_nil, or_false] at hp ⊢; rcases hp with rfl | rfl | rfl <;> simp))
  clear hK K HK HKp HKq
  have HK := HK2
  clear HK2
  (try simp only [List.setIfInBounds_toArray, List.set_cons_zero, List.set_cons_succ])
  refine tk 8 (v := ?_) hHeld ?_ ?_
  rotate_left 1
  ·intro _ hw; (try dsimp only at hw); go_simp; try with_reducible rfl
  (try simp only [Act.put, List.setIfInBounds_toArray, List.set_cons_zero, List.set_cons_succ])
  refine wpAnyH_done (by kernel_rfl) ?_ _
  clear hHeld
  have HF52 := Lib.hid (show ∀ W, Kq w W [(pd, 26, [.bool s1, S n1, S d1]), (B + 1 + 1, 26, [.bool false, S [], S []]), (B + 1, 26, [.bool t, S m, S e]), (B, 26, [.bool s, S n, S d])] → W.cell? ⟨pd, 0, none⟩ = some (.bool s1) ∧ W.cell? ⟨pd, 1, none⟩ = some (S n1) ∧ W.cell? ⟨pd, 2, none⟩ = some (S d1) ∧ W.cell? ⟨B + 1 + 1, 0, none⟩ = some (.bool false) ∧ W.cell? ⟨B + 1 + 1, 1, none⟩ = some (S []) ∧ W.cell? ⟨B + 1 + 1, 2, none⟩ = some (S []) ∧ W.cell? ⟨B + 1, 0, none⟩ = some (.bool t) ∧ W.cell? ⟨B + 1, 1, none⟩ = some (S m) ∧ W.cell? ⟨B + 1, 2, none⟩ = some (S e) ∧ W.cell? ⟨B, 0, none⟩ = some (.bool s) ∧ W.cell? ⟨B, 1, none⟩ = some (S n) ∧ W.cell? ⟨B, 2, none⟩ = some (S d) from fun W h => ⟨(h.row _ mm0).cell 0, (h.row _ mm0).cell 1, (h.row _ mm0).cell 2, (h.row _ mm1).cell 0, (h.row _ mm1).cell 1, (h.row _ mm1).cell 2, (h.row _ mm2).cell 0, (h.row _ mm2).cell 1, (h.row _ mm2).cell 2, (h.row _ mm3).cell 0, (h.row _ mm3).cell 1, (h.row _ mm3).cell 2⟩)
  obtain ⟨cc0, cc1, cc2, cc3, cc4, cc5, cc6, cc7, cc8, cc9, cc10, cc11⟩ := HF52.out _ HK.out
  go_wp2_with fail
  clear cc0 cc1 cc2 cc3 cc4 cc5 cc6 cc7 cc8 cc9 cc10 cc11
  replace HK := Lib.hid HK.out.drew
  have HN0 := Lib.hid (show B ≠ B + 1 + 1 by omega)
  have HN1 := Lib.hid (show pd ≠ B + 1 + 1 by omega)
  have HN2 := Lib.hid (show B + 1 ≠ B + 1 + 1 by omega)
  have HCC := Lib.hid (show ∀ W, Kq w W [(pd, 26, [.bool s1, S n1, S d1]), (B + 1 + 1, 26, [.bool false, S [], S []]), (B + 1, 26, [.bool t, S m, S e]), (B, 26, [.bool s, S n, S d])] → W.cell? ⟨B, 0, none⟩ = some (.bool s) ∧ W.cell? ⟨B, 1, none⟩ = some (S n) ∧ W.cell? ⟨B, 2, none⟩ = some (S d) ∧ W.cell? ⟨pd, 0, none⟩ = some (.bool s1) ∧ W.cell? ⟨pd, 1, none⟩ = some (S n1) ∧ W.cell? ⟨pd, 2, none⟩ = some (S d1) ∧ W.cell? ⟨B + 1, 0, none⟩ = some (.bool t) ∧ W.cell? ⟨B + 1, 1, none⟩ = some (S m) ∧ W.cell? ⟨B + 1, 2, none⟩ = some (S e) from fun W h => ⟨(h.row _ mm3).cell 0, (h.row _ mm3).cell 1, (h.row _ mm3).cell 2, (h.row _ mm0).cell 0, (h.row _ mm0).cell 1, (h.row _ mm0).cell 2, (h.row _ mm2).cell 0, (h.row _ mm2).cell 1, (h.row _ mm2).cell 2⟩)
  go_region_held3 (fun w' => w'.cell? ⟨B, 0, none⟩ = some (.bool s) ∧ w'.cell? ⟨B, 1, none⟩ = some (S n) ∧ w'.cell? ⟨B, 2, none⟩ = some (S d) ∧ w'.cell? ⟨pd, 0, none⟩ = some (.bool s1) ∧ w'.cell? ⟨pd, 1, none⟩ = some (S n1) ∧ w'.cell? ⟨pd, 2, none⟩ = some (S d1) ∧ w'.cell? ⟨B + 1, 0, none⟩ = some (.bool t) ∧ w'.cell? ⟨B + 1, 1, none⟩ = some (S m) ∧ w'.cell? ⟨B + 1, 2, none⟩ = some (S e))
   (first
    | (with_reducible exact HCC.out _ HK.out)
    | (exact ⟨(HK.out.cellsp (g := B) (r := B + 1 + 1) mm3 HN0.out _ _ _).1, (HK.out.cellsp (g := B) (r := B + 1 + 1) mm3 HN0.out _ _ _).2.1, (HK.out.cellsp (g := B) (r := B + 1 + 1) mm3 HN0.out _ _ _).2.2, (HK.out.cellsp (g := pd) (r := B + 1 + 1) mm0 HN1.out _ _ _).1, (HK.out.cellsp (g := pd) (r := B + 1 + 1) mm0 HN1.out _ _ _).2.1, (HK.out.cellsp (g := pd) (r := B + 1 + 1) mm0 HN1.out _ _ _).2.2, (HK.out.cellsp (g := B + 1) (r := B + 1 + 1) mm2 HN2.out _ _ _).1, (HK.out.cellsp (g := B + 1) (r := B + 1 + 1) mm2 HN2.out _ _ _).2.1, (HK.out.cellsp (g := B + 1) (r := B + 1 + 1) mm2 HN2.out _ _ _).2.2⟩)
    | go_keep)
   (first
    | (go_at_call 32; (with_reducible refine (H5.out _).mono ?_); rintro e wq ⟨rfl, hCq⟩; replace HK := Lib.hid (HK.out.on hCq); clear hCq)
    | (go_at_call 46; (with_reducible refine (H6.out _ (HT.out.ch HK.out.ch)).mono ?_); rintro e wq ⟨rfl, hCq⟩; replace HK := Lib.hid (HK.out.on hCq); clear hCq; have e0 := (HK.out.row _ mm1).cell 0; have e1 := (HK.out.row _ mm1).cell 1; have e2 := (HK.out.row _ mm1).cell 2; have f0 := (HK.out.row _ mm1).frozen 0; have f1 := (HK.out.row _ mm1).frozen 1; have f2 := (HK.out.row _ mm1).frozen 2; simp only [List.getElem?_cons_zero, List.getElem?_cons_succ] at e0 e1 e2))
  go_wp2_with fail
  have hp := HK.out.put (g := B + 1 + 1) mm1 (by have := HBB.out; omega) (.bool r) (S k) (S f)
  refine bodyPost_ret (results_cell_row_tmp (P := Tryz.prog) rfl _ _ (B + 1 + 1) 26 _ (0, 0) _ rfl hp.1 Tryz.underlying26 rfl (by kernel_rfl)) rfl ?_
  exact ⟨rfl, hp.2⟩
 have LS1_0 : ∀ (pd : Nat) (W : World), Kq w W [(B + 1 + 1, 26, [.bool false, S [], S []]), (B + 1, 26, [.bool t, S m, S e]), (B, 26, [.bool s, S n, S d])] → Blk W pd 26 [.bool false, S [], S []] → B + 1 + 1 < pd → X 6 #[true, true, false, false, false, false, true, false, false] { tmps := #[Rv s n d, Rv t m e, .pointer (some ⟨B, 0, none⟩), .pointer (some ⟨B + 1, 0, none⟩), .pointer (some ⟨B + 1 + 1, 0, none⟩), .bool false, .bool true, .bool true, .pointer (some ⟨pd, 0, none⟩), undef, Rv s n d, .bool true, Rv t m e, .bool true, .bool true, .bool false, .bool false, .bool true, .bool false, .bool false, undef, undef, Rv t m e, Rv false [2] [1], undef, undef, undef, undef, undef, undef, undef, undef, undef, undef], defers := [] } W := by
  intro pd W hK0 bpd gpd
  have HK := Lib.hid hK0
  clear hK0
  have hHeld := HF1.out _ HK.out
  refine HXO.out _ _ _ _ ?_
  refine wpAnyH_ready (rs := [2]) (by kernel_rfl) (by simp) ?_
  refine AllReadyH.cons (at_list rfl) (fun K hK => ?_) (AllReadyH.nil)
  ·go_simp
   go_at_call 26
   with_reducible refine (H4.out _).mono ?_
   rintro e wq ⟨rfl, hCq⟩
   have HK2 := Lib.hid (HK.out.on hCq)
   clear hHeld
   first | (refine hK.out _ _ ?_ (fun hHeld => ?_)) | (go_wp2_with fail; refine hK.out _ _ ?_ (fun hHeld => ?_))
   ·(try dsimp only); exact HF1.out _ HK2.out
   (try simp only [List.setIfInBounds_toArray, List.set_cons_zero, List.set_cons_succ])
   refine tk 3 (v := ?_) hHeld ?_ ?_
   rotate_left 1
   ·intro _ hw; (try dsimp only at hw); go_simp; try with_reducible rfl
   (try simp only [Act.put, List.setIfInBounds_toArray, List.set_cons_zero, List.set_cons_succ])
   refine tk 4 (v := ?_) hHeld ?_ ?_
   rotate_left 1
   ·intro _ hw; (try dsimp only at hw); go_simp; try with_reducible rfl
   (try simp only [Act.put, List.setIfInBounds_toArray, List.set_cons_zero, List.set_cons_succ])
   refine tk 5 (v := ?_) hHeld ?_ ?_
   rotate_left 1
   ·intro _ hw; (try dsimp only at hw); go_simp; try with_reducible rfl
   (try simp only [Act.put, List.setIfInBounds_toArray, List.set_cons_zero, List.set_cons_succ])
   exact HXI.out _ _ _ _ (LS2_0 _ _ HK2.out (hCq.blk bpd (Blk.lt bpd) (fun q => q)) gpd)
 have LS2_ : ∀ (W : World), Kq w W [(B + 1 + 1, 26, [.bool false, S [], S []]), (B + 1, 26, [.bool t, S m, S e]), (B, 26, [.bool s, S n, S d])] → X 3 #[true, true, true, true, true, true, false, false, false] { tmps := #[Rv s n d, Rv t m e, .pointer (some ⟨B, 0, none⟩), .pointer (some ⟨B + 1, 0, none⟩), .pointer (some ⟨B + 1 + 1, 0, none⟩), .bool false, .bool true, .bool true, undef, undef, Rv s n d, .bool true, Rv t m e, .bool true, .bool true, .bool false, .bool false, .bool true, .bool false, .bool false, undef, .tuple #[Rv s1 n1 d1, .bool true], Rv t m e, Rv false [2] [1], .tuple #[Rv s1 n1 d1, .bool true], Rv s1 n1 d1, .bool true, undef, undef, undef, undef, undef, undef, undef], defers := [] } W := by
  intro  W hK0
  have HK := Lib.hid hK0
  clear hK0
  have hHeld := HF1.out _ HK.out
  refine HXO.out _ _ _ _ ?_
  refine wpAnyH_ready (rs := [6]) (by kernel_rfl) (by simp) ?_
  refine AllReadyH.cons (at_list rfl) (fun K hK => ?_) (AllReadyH.nil)
  ·go_simp
   have HK2 := Lib.hid (HK.out.other (.cells #[.bool false, S [], S []] 26 (0, 0)))
   have nB := Blk.new W #[.bool false, S [], S []] 26
   have nG : B + 1 + 1 < W.heap.size := (HK.out.row _ mm0).lt
   clear hHeld
   refine hK.out _ _ ?_ (fun hHeld => ?_)
   ·(try dsimp only); exact HF1.out _ HK2.out
   (try simp only [List.setIfInBounds_toArray, List.set_cons_zero, List.set_cons_succ])
   exact HXI.out _ _ _ _ (LS2_0 _ _ HK2.out nB nG)
 have LS0_0 : ∀ (pd : Nat) (W : World), Kq w W [(B + 1 + 1, 26, [.bool false, S [], S []]), (B + 1, 26, [.bool t, S m, S e]), (B, 26, [.bool s, S n, S d])] → Blk W pd 26 [.bool false, S [], S []] → B + 1 + 1 < pd → X 7 #[true, false, false, false, false, false, true, false, false] { tmps := #[Rv s n d, Rv t m e, .pointer (some ⟨B, 0, none⟩), .pointer (some ⟨B + 1, 0, none⟩), .pointer (some ⟨B + 1 + 1, 0, none⟩), .bool false, .bool true, .bool true, .pointer (some ⟨pd, 0, none⟩), undef, Rv s n d, .bool true, Rv t m e, .bool true, .bool true, .bool false, .bool false, .bool true, .bool false, .bool false, undef, undef, Rv t m e, undef, undef, undef, undef, undef, undef, undef, undef, undef, undef, undef], defers := [] } W := by
  intro pd W hK0 bpd gpd
  have HK := Lib.hid hK0
  clear hK0
  have hHeld := HF1.out _ HK.out
  refine HXO.out _ _ _ _ ?_
  refine wpAnyH_ready (rs := [1]) (by kernel_rfl) (by simp) ?_
  refine AllReadyH.cons (at_list rfl) (fun K hK => ?_) (AllReadyH.nil)
  ·go_simp
   go_at_call 17
   with_reducible refine (H3.out _).mono ?_
   rintro e wq ⟨rfl, hCq⟩
   have HK2 := Lib.hid (HK.out.on hCq)
   clear hHeld
   first | (refine hK.out _ _ ?_ (fun hHeld => ?_)) | (go_wp2_with fail; refine hK.out _ _ ?_ (fun hHeld => ?_))
   ·(try dsimp only); exact HF1.out _ HK2.out
   (try simp only [List.setIfInBounds_toArray, List.set_cons_zero, List.set_cons_succ])
   exact HXI.out _ _ _ _ (LS1_0 _ _ HK2.out (hCq.blk bpd (Blk.lt bpd) (fun q => q)) gpd)
 have LS1_ : ∀ (W : World), Kq w W [(B + 1 + 1, 26, [.bool false, S [], S []]), (B + 1, 26, [.bool t, S m, S e]), (B, 26, [.bool s, S n, S d])] → X 7 #[true, true, false, false, false, false, false, false, false] { tmps := #[Rv s n d, Rv t m e, .pointer (some ⟨B, 0, none⟩), .pointer (some ⟨B + 1, 0, none⟩), .pointer (some ⟨B + 1 + 1, 0, none⟩), .bool false, .bool true, .bool true, undef, undef, Rv s n d, .bool true, Rv t m e, .bool true, .bool true, .bool false, .bool false, .bool true, .bool false, .bool false, undef, undef, Rv t m e, Rv false [2] [1], undef, undef, undef, undef, undef, undef, undef, undef, undef, undef], defers := [] } W := by
  intro  W hK0
  have HK := Lib.hid hK0
  clear hK0
  have hHeld := HF1.out _ HK.out
  refine HXO.out _ _ _ _ ?_
  refine wpAnyH_ready (rs := [2, 6]) (by kernel_rfl) (by simp) ?_
  refine AllReadyH.cons (at_list rfl) (fun K hK => ?_) (AllReadyH.cons (at_list rfl) (fun K hK => ?_) (AllReadyH.nil))
  ·go_simp
   go_at_call 26
   with_reducible refine (H4.out _).mono ?_
   rintro e wq ⟨rfl, hCq⟩
   have HK2 := Lib.hid (HK.out.on hCq)
   clear hHeld
   first | (refine hK.out _ _ ?_ (fun hHeld => ?_)) | (go_wp2_with fail; refine hK.out _ _ ?_ (fun hHeld => ?_))
   ·(try dsimp only); exact HF1.out _ HK2.out
   (try simp only [List.setIfInBounds_toArray, List.set_cons_zero, List.set_cons_succ])
   refine tk 3 (v := ?_) hHeld ?_ ?_
   rotate_left 1
   ·intro _ hw; (try dsimp only at hw); go_simp; try with_reducible rfl
   (try simp only [Act.put, List.setIfInBounds_toArray, List.set_cons_zero, List.set_cons_succ])
   refine tk 4 (v := ?_) hHeld ?_ ?_
   rotate_left 1
   ·intro _ hw; (try dsimp only at hw); go_simp; try with_reducible rfl
   (try simp only [Act.put, List.setIfInBounds_toArray, List.set_cons_zero, List.set_cons_succ])
   refine tk 5 (v := ?_) hHeld ?_ ?_
   rotate_left 1
   ·intro _ hw; (try dsimp only at hw); go_simp; try with_reducible rfl
   (try simp only [Act.put, List.setIfInBounds_toArray, List.set_cons_zero, List.set_cons_succ])
   exact HXI.out _ _ _ _ (LS2_ _ HK2.out)
  ·go_simp
   have HK2 := Lib.hid (HK.out.other (.cells #[.bool false, S [], S []] 26 (0, 0)))
   have nB := Blk.new W #[.bool false, S [], S []] 26
   have nG : B + 1 + 1 < W.heap.size := (HK.out.row _ mm0).lt
   clear hHeld
   refine hK.out _ _ ?_ (fun hHeld => ?_)
   ·(try dsimp only); exact HF1.out _ HK2.out
   (try simp only [List.setIfInBounds_toArray, List.set_cons_zero, List.set_cons_succ])
   exact HXI.out _ _ _ _ (LS1_0 _ _ HK2.out nB nG)
 have LS0_ : ∀ (W : World), Kq w W [(B + 1 + 1, 26, [.bool false, S [], S []]), (B + 1, 26, [.bool t, S m, S e]), (B, 26, [.bool s, S n, S d])] → X 8 #[true, false, false, false, false, false, false, false, false] { tmps := #[Rv s n d, Rv t m e, .pointer (some ⟨B, 0, none⟩), .pointer (some ⟨B + 1, 0, none⟩), .pointer (some ⟨B + 1 + 1, 0, none⟩), .bool false, .bool true, .bool true, undef, undef, Rv s n d, .bool true, Rv t m e, .bool true, .bool true, .bool false, .bool false, .bool true, .bool false, .bool false, undef, undef, Rv t m e, undef, undef, undef, undef, undef, undef, undef, undef, undef, undef, undef], defers := [] } W := by
  intro  W hK0
  have HK := Lib.hid hK0
  clear hK0
  have hHeld := HF1.out _ HK.out
  refine HXO.out _ _ _ _ ?_
  refine wpAnyH_ready (rs := [1, 6]) (by kernel_rfl) (by simp) ?_
  refine AllReadyH.cons (at_list rfl) (fun K hK => ?_) (AllReadyH.cons (at_list rfl) (fun K hK => ?_) (AllReadyH.nil))
  ·go_simp
   go_at_call 17
   with_reducible refine (H3.out _).mono ?_
   rintro e wq ⟨rfl, hCq⟩
   have HK2 := Lib.hid (HK.out.on hCq)
   clear hHeld
   first | (refine hK.out _ _ ?_ (fun hHeld => ?_)) | (go_wp2_with fail; refine hK.out _ _ ?_ (fun hHeld => ?_))
   ·(try dsimp only); exact HF1.out _ HK2.out
   (try simp only [List.setIfInBounds_toArray, List.set_cons_zero, List.set_cons_succ])
   exact HXI.out _ _ _ _ (LS1_ _ HK2.out)
  ·go_simp
   have HK2 := Lib.hid (HK.out.other (.cells #[.bool false, S [], S []] 26 (0, 0)))
   have nB := Blk.new W #[.bool false, S [], S []] 26
   have nG : B + 1 + 1 < W.heap.size := (HK.out.row _ mm0).lt
   clear hHeld
   refine hK.out _ _ ?_ (fun hHeld => ?_)
   ·(try dsimp only); exact HF1.out _ HK2.out
   (try simp only [List.setIfInBounds_toArray, List.set_cons_zero, List.set_cons_succ])
   exact HXI.out _ _ _ _ (LS0_0 _ _ HK2.out nB nG)
 exact LS0_ _ HK0.out
set_option maxHeartbeats 6400000 in
theorem C_rNear_bad {s t : Bool} {n d m e : List UInt8} (hn : n.length ≤ 60) (hd : d.length ≤ 60) (hm : m.length ≤ 60) (he : e.length ≤ 60) (hb : rightR s n d = false ∨ rightR t m e = false) : AnsM 48 #[Rv s n d, Rv t m e] (.tuple #[Rv false [] [], .bool false]) := fun w ht => by
 obtain ⟨r1, hr1⟩ : ∃ r, rightR s n d = r := ⟨_, rfl⟩
 obtain ⟨r2, hr2⟩ : ∃ r, rightR t m e = r := ⟨_, rfl⟩
 have H1 := Lib.hid (C_rRight (s := s) (n := n) (d := d) (by omega) (by omega) hr1)
 have H2 := Lib.hid (C_rRight (s := t) (n := m) (d := e) (by omega) (by omega) hr2)
 rw [hr1, hr2] at hb
 clear hr1 hr2 hn hd hm he
 cases r1 with
 | false =>
  clear hb
  have HT := Lib.hid ht
  have HK := Lib.hid ((((Kq.nil w).new #[.bool s, S n, S d] 26).new #[.bool t, S m, S e] 26).new #[.bool false, S [], S []] 26)
  rw [World.size_alloc, World.size_alloc] at HK
  obtain ⟨B, hB⟩ : ∃ B, w.heap.size = B := ⟨_, rfl⟩
  rw [hB] at HK
  have HBB := Lib.hid hB
  clear ht
  have HF1 := Lib.hid (show ∀ W, Kq w W [(B + 1 + 1, 26, [.bool false, S [], S []]), (B + 1, 26, [.bool t, S m, S e]), (B, 26, [.bool s, S n, S d])] → W.cell? ⟨B + 1 + 1, 0, none⟩ = some (.bool false) ∧ W.cell? ⟨B + 1 + 1, 1, none⟩ = some (S []) ∧ W.cell? ⟨B + 1 + 1, 2, none⟩ = some (S []) ∧ W.cell? ⟨B + 1, 0, none⟩ = some (.bool t) ∧ W.cell? ⟨B + 1, 1, none⟩ = some (S m) ∧ W.cell? ⟨B + 1, 2, none⟩ = some (S e) ∧ W.cell? ⟨B, 0, none⟩ = some (.bool s) ∧ W.cell? ⟨B, 1, none⟩ = some (S n) ∧ W.cell? ⟨B, 2, none⟩ = some (S d) from fun W h => ⟨(h.row _ mm0).cell 0, (h.row _ mm0).cell 1, (h.row _ mm0).cell 2, (h.row _ mm1).cell 0, (h.row _ mm1).cell 1, (h.row _ mm1).cell 2, (h.row _ mm2).cell 0, (h.row _ mm2).cell 1, (h.row _ mm2).cell 2⟩)
  obtain ⟨cc0, cc1, cc2, cc3, cc4, cc5, cc6, cc7, cc8⟩ := HF1.out _ HK.out
  go_enter Tryz.func48, Tryz.ntmps48
  go_wp2_with fail
  clear hB
  refine (H1.out _).mono ?_
  rintro e w1 ⟨rfl, hC⟩
  replace HK := Lib.hid (HK.out.on hC)
  clear hC cc0 cc1 cc2 cc3 cc4 cc5 cc6 cc7 cc8
  obtain ⟨cc0, cc1, cc2, cc3, cc4, cc5, cc6, cc7, cc8⟩ := HF1.out _ HK.out
  go_wp2_with fail
  refine (H2.out _).mono ?_
  rintro e w2 ⟨rfl, hC⟩
  replace HK := Lib.hid (HK.out.on hC)
  clear hC cc0 cc1 cc2 cc3 cc4 cc5 cc6 cc7 cc8
  obtain ⟨cc0, cc1, cc2, cc3, cc4, cc5, cc6, cc7, cc8⟩ := HF1.out _ HK.out
  clear cc0 cc1 cc2 cc3 cc4 cc5 cc6 cc7 cc8
  have e0 := (HK.out.row _ mm0).cell 0
  have e1 := (HK.out.row _ mm0).cell 1
  have e2 := (HK.out.row _ mm0).cell 2
  have f0 := (HK.out.row _ mm0).frozen 0
  have f1 := (HK.out.row _ mm0).frozen 1
  have f2 := (HK.out.row _ mm0).frozen 2
  simp only [List.getElem?_cons_zero, List.getElem?_cons_succ] at e0 e1 e2
  go_wp2_with fail
  have hp := HK.out.put (g := B + 1 + 1) mm0 (by have := HBB.out; omega) (.bool false) (S []) (S [])
  refine bodyPost_ret (results_cell_row_tmp (P := Tryz.prog) rfl _ _ (B + 1 + 1) 26 _ (0, 0) _ rfl hp.1 Tryz.underlying26 rfl (by kernel_rfl)) rfl ?_
  exact ⟨rfl, hp.2⟩
 | true =>
  obtain rfl : r2 = false := by simpa using hb
  clear hb
  have HT := Lib.hid ht
  have HK := Lib.hid ((((Kq.nil w).new #[.bool s, S n, S d] 26).new #[.bool t, S m, S e] 26).new #[.bool false, S [], S []] 26)
  rw [World.size_alloc, World.size_alloc] at HK
  obtain ⟨B, hB⟩ : ∃ B, w.heap.size = B := ⟨_, rfl⟩
  rw [hB] at HK
  have HBB := Lib.hid hB
  clear ht
  have HF1 := Lib.hid (show ∀ W, Kq w W [(B + 1 + 1, 26, [.bool false, S [], S []]), (B + 1, 26, [.bool t, S m, S e]), (B, 26, [.bool s, S n, S d])] → W.cell? ⟨B + 1 + 1, 0, none⟩ = some (.bool false) ∧ W.cell? ⟨B + 1 + 1, 1, none⟩ = some (S []) ∧ W.cell? ⟨B + 1 + 1, 2, none⟩ = some (S []) ∧ W.cell? ⟨B + 1, 0, none⟩ = some (.bool t) ∧ W.cell? ⟨B + 1, 1, none⟩ = some (S m) ∧ W.cell? ⟨B + 1, 2, none⟩ = some (S e) ∧ W.cell? ⟨B, 0, none⟩ = some (.bool s) ∧ W.cell? ⟨B, 1, none⟩ = some (S n) ∧ W.cell? ⟨B, 2, none⟩ = some (S d) from fun W h => ⟨(h.row _ mm0).cell 0, (h.row _ mm0).cell 1, (h.row _ mm0).cell 2, (h.row _ mm1).cell 0, (h.row _ mm1).cell 1, (h.row _ mm1).cell 2, (h.row _ mm2).cell 0, (h.row _ mm2).cell 1, (h.row _ mm2).cell 2⟩)
  obtain ⟨cc0, cc1, cc2, cc3, cc4, cc5, cc6, cc7, cc8⟩ := HF1.out _ HK.out
  go_enter Tryz.func48, Tryz.ntmps48
  go_wp2_with fail
  clear hB
  refine (H1.out _).mono ?_
  rintro e w1 ⟨rfl, hC⟩
  replace HK := Lib.hid (HK.out.on hC)
  clear hC cc0 cc1 cc2 cc3 cc4 cc5 cc6 cc7 cc8
  obtain ⟨cc0, cc1, cc2, cc3, cc4, cc5, cc6, cc7, cc8⟩ := HF1.out _ HK.out
  go_wp2_with fail
  refine (H2.out _).mono ?_
  rintro e w2 ⟨rfl, hC⟩
  replace HK := Lib.hid (HK.out.on hC)
  clear hC cc0 cc1 cc2 cc3 cc4 cc5 cc6 cc7 cc8
  obtain ⟨cc0, cc1, cc2, cc3, cc4, cc5, cc6, cc7, cc8⟩ := HF1.out _ HK.out
  clear cc0 cc1 cc2 cc3 cc4 cc5 cc6 cc7 cc8
  have e0 := (HK.out.row _ mm0).cell 0
  have e1 := (HK.out.row _ mm0).cell 1
  have e2 := (HK.out.row _ mm0).cell 2
  have f0 := (HK.out.row _ mm0).frozen 0
  have f1 := (HK.out.row _ mm0).frozen 1
  have f2 := (HK.out.row _ mm0).frozen 2
  simp only [List.getElem?_cons_zero, List.getElem?_cons_succ] at e0 e1 e2
  go_wp2_with fail
  have hp := HK.out.put (g := B + 1 + 1) mm0 (by have := HBB.out; omega) (.bool false) (S []) (S [])
  refine bodyPost_ret (results_cell_row_tmp (P := Tryz.prog) rfl _ _ (B + 1 + 1) 26 _ (0, 0) _ rfl hp.1 Tryz.underlying26 rfl (by kernel_rfl)) rfl ?_
  exact ⟨rfl, hp.2⟩
set_option maxHeartbeats 6400000 in
theorem C_rNear_no {s t : Bool} {n d m e : List UInt8} {a b : Rat} (hn : n.length ≤ 60) (hd : d.length ≤ 60) (hm : m.length ≤ 60) (he : e.length ≤ 60) (hr1 : rightR s n d = true) (hr2 : rightR t m e = true) (ra : ratOf s n d = a) (rb : ratOf t m e = b) (hb : canB s n d t m e = false) : AnsM 48 #[Rv s n d, Rv t m e] (.tuple #[Rv false [] [], .bool false]) := fun w ht => by
 have H1 := Lib.hid (C_rRight (s := s) (n := n) (d := d) (by omega) (by omega) hr1)
 have H2 := Lib.hid (C_rRight (s := t) (n := m) (d := e) (by omega) (by omega) hr2)
 have za : Szq a 60 := by rw [← ra]; exact Szq.of_len hn hd (by omega)
 have zb : Szq b 60 := by rw [← rb]; exact Szq.of_len hm he (by omega)
 have z2 : Szq (2 : Rat) 1 := by constructor <;> decide +kernel
 have h2 : (2 : Rat) ≠ 0 := by decide +kernel
 have i2 : Is (2 : Rat) false [2] [1] := ⟨by decide +kernel, by decide +kernel, by decide +kernel⟩
 obtain ⟨s1, n1, d1, i1⟩ := Is.ex (b / 2)
 obtain ⟨s2, n2, d2, i3⟩ := Is.ex (a + b / 2)
 obtain ⟨l1, l2⟩ := (zb.div z2 h2).len i1
 obtain ⟨l3, l4⟩ := (za.add (zb.div z2 h2)).len i3
 have H3 := Lib.hid (C_rOf 2 (by decide) (by decide) (show nb (2 : Int).natAbs = [2] from nb_is [2] _ (by decide) (by decide)))
 rw [show decide ((2 : Int) < 0) = false from rfl] at H3
 have H4 := Lib.hid (C_rQuo (s := t) (n := m) (d := e) (t := false) (m := [2]) (e := [1]) (by omega) (by omega) (by decide) (by decide) rb (ratOf_is i2) h2 i1)
 have H5 := Lib.hid (C_rAdd (s := s) (n := n) (d := d) (t := s1) (m := n1) (e := d1) (by omega) (by omega) (by omega) (by omega) ra (ratOf_is i1) i3)
 have hb2 : canB s2 n2 d2 t m e = false := by
  unfold canB at hb ⊢
  rw [hr1] at hb
  rw [rightR_of i3]
  exact hb
 have H6 := Lib.hid (C_rDown_no (s := s2) (n := n2) (d := d2) (t := t) (m := m) (e := e) (by omega) (by omega) (by omega) (by omega) hb2)
 exact near_walk H1.out H2.out H3.out H4.out H5.out H6.out w ht
set_option maxHeartbeats 6400000 in
theorem C_rNear {s t : Bool} {n d m e : List UInt8} {r : Bool} {k f : List UInt8} {a b : Rat} (hn : n.length ≤ 60) (hd : d.length ≤ 60) (hm : m.length ≤ 60) (he : e.length ≤ 60) (hb : canB s n d t m e = true) (ra : ratOf s n d = a) (rb : ratOf t m e = b) (ic : Is (nearQ a b) r k f) : AnsM 48 #[Rv s n d, Rv t m e] (.tuple #[Rv r k f, .bool true]) := fun w ht => by
 obtain ⟨hr1, hr2, hk⟩ := can_both hb
 have H1 := Lib.hid (C_rRight (s := s) (n := n) (d := d) (by omega) (by omega) hr1)
 have H2 := Lib.hid (C_rRight (s := t) (n := m) (d := e) (by omega) (by omega) hr2)
 have za : Szq a 60 := by rw [← ra]; exact Szq.of_len hn hd (by omega)
 have zb : Szq b 60 := by rw [← rb]; exact Szq.of_len hm he (by omega)
 have z2 : Szq (2 : Rat) 1 := by constructor <;> decide +kernel
 have h2 : (2 : Rat) ≠ 0 := by decide +kernel
 have i2 : Is (2 : Rat) false [2] [1] := ⟨by decide +kernel, by decide +kernel, by decide +kernel⟩
 obtain ⟨s1, n1, d1, i1⟩ := Is.ex (b / 2)
 obtain ⟨s2, n2, d2, i3⟩ := Is.ex (a + b / 2)
 obtain ⟨l1, l2⟩ := (zb.div z2 h2).len i1
 obtain ⟨l3, l4⟩ := (za.add (zb.div z2 h2)).len i3
 have H3 := Lib.hid (C_rOf 2 (by decide) (by decide) (show nb (2 : Int).natAbs = [2] from nb_is [2] _ (by decide) (by decide)))
 rw [show decide ((2 : Int) < 0) = false from rfl] at H3
 have H4 := Lib.hid (C_rQuo (s := t) (n := m) (d := e) (t := false) (m := [2]) (e := [1]) (by omega) (by omega) (by decide) (by decide) rb (ratOf_is i2) h2 i1)
 have H5 := Lib.hid (C_rAdd (s := s) (n := n) (d := d) (t := s1) (m := n1) (e := d1) (by omega) (by omega) (by omega) (by omega) ra (ratOf_is i1) i3)
 have hb2 : canB s2 n2 d2 t m e = true := by
  unfold canB
  rw [rightR_of i3, hk]
  rfl
 have H6 := Lib.hid (C_rDown (s := s2) (n := n2) (d := d2) (t := t) (m := m) (e := e) (by omega) (by omega) (by omega) (by omega) hb2 (ratOf_is i3) rb (by rw [← nearQ_half]; exact ic))
 exact near_walk H1.out H2.out H3.out H4.out H5.out H6.out w ht
end Go.Proofs.YtkeomlpecjjhiaaGreatDoor
