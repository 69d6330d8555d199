/- MoneyRounds: the walk; the reference's Of. -/
import Derived.Test.YtnblmmhpndnjcaaGreatDoorAz
import Derived.Test.YtnblmmhpndnjcaaGreatDoorAx
namespace Go.Proofs.YtnblmmhpndnjcaaGreatDoor
open Go.RowKit
set_option maxRecDepth 100000 in
set_option maxHeartbeats 12800000 in
theorem C_r4Of {c : Int} {r : Bool} {k f : List UInt8} (h1 : -9223372036854775808 ≤ c) (h2 : c ≤ 9223372036854775807) (ic : Is ((c : Rat) * (1 / 100)) r k f) : AnsM 14 #[.int .i64 c] (Rv r k f) := fun w ht => by
  obtain ⟨x, hx⟩ : ∃ x, nb c.natAbs = x := ⟨_, rfl⟩
  obtain ⟨M, hM⟩ : ∃ M, M = 8 := ⟨_, rfl⟩
  have lx := nbl' M hx (Nat.lt_of_lt_of_le (show c.natAbs < 256 ^ 8 by have : (256 : Nat) ^ 8 = 18446744073709551616 := rfl; omega) (Nat.pow_le_pow_right (by decide) (by omega)))
  have H1 := Lib.hid (C_rOf c h1 h2 hx)
  have hr := ratOf_is (Is.int c hx)
  obtain ⟨s, hs⟩ : ∃ s, decide (c < 0) = s := ⟨_, rfl⟩
  rw [hs] at H1 hr
  have H2 := Lib.hid C_rcent
  have H3 := Lib.hid (C_rMul (s := s) (n := x) (d := [1]) (t := false) (m := [1]) (e := [100]) (by omega) (by decide) (by decide) (by decide) hr (ratOf_is cent_is) ic)
  clear hx hM lx hr hs ic
  have HT := Lib.hid ht
  have HK := Lib.hid ((Kq.nil w).new #[.bool false, S [], S []] 26)
  obtain ⟨B, hB⟩ : ∃ B, w.heap.size = B := ⟨_, rfl⟩
  rw [hB] at HK
  have HBB := Lib.hid hB
  clear ht
  have HF1 := Lib.hid (show ∀ W, Kq w W [(B, 26, [.bool false, S [], S []])] → W.cell? ⟨B, 0, none⟩ = some (.bool false) ∧ W.cell? ⟨B, 1, none⟩ = some (S []) ∧ W.cell? ⟨B, 2, none⟩ = some (S []) from fun W h => ⟨(h.row _ (.head _)).cell 0, (h.row _ (.head _)).cell 1, (h.row _ (.head _)).cell 2⟩)
  obtain ⟨cc0, cc1, cc2⟩ := HF1.out _ HK.out
  go_enter Tryz.func14, Tryz.ntmps14
  go_wp2_with fail
  clear hB
  refine (H1.out _).mono ?_
  rintro e w1 ⟨rfl, hC⟩
  have HK2 := Lib.hid (HK.out.on hC)
  clear cc0 cc1 cc2
  clear hC HK
  have HK := HK2
  clear HK2
  obtain ⟨cc0, cc1, cc2⟩ := HF1.out _ HK.out
  go_wp2_with fail
  refine (H2.out _ (HT.out.ch HK.out.ch)).mono ?_
  rintro e w2 ⟨rfl, hC⟩
  have HK2 := Lib.hid (HK.out.on hC)
  clear cc0 cc1 cc2
  clear hC HK
  have HK := HK2
  clear HK2
  obtain ⟨cc0, cc1, cc2⟩ := HF1.out _ HK.out
  go_wp2_with fail
  refine (H3.out _).mono ?_
  rintro e w3 ⟨rfl, hC⟩
  have HK2 := Lib.hid (HK.out.on hC)
  clear cc0 cc1 cc2
  clear hC HK
  have HK := HK2
  clear HK2
  obtain ⟨cc0, cc1, cc2⟩ := HF1.out _ HK.out
  clear cc0 cc1 cc2
  have e0 := (HK.out.row _ (.head _)).cell 0
  have e1 := (HK.out.row _ (.head _)).cell 1
  have e2 := (HK.out.row _ (.head _)).cell 2
  have f0 := (HK.out.row _ (.head _)).frozen 0
  have f1 := (HK.out.row _ (.head _)).frozen 1
  have f2 := (HK.out.row _ (.head _)).frozen 2
  simp only [List.getElem?_cons_zero, List.getElem?_cons_succ] at e0 e1 e2
  go_wp2_with fail
  have hp := HK.out.put (g := B) (.head _) (by have := HBB.out; omega) (.bool r) (S k) (S f)
  refine bodyPost_ret (results_cell_row (P := Tryz.prog) rfl _ _ (B) 26 _ (0, 0) _ rfl hp.1 Tryz.underlying26 rfl (by kernel_rfl)) rfl ?_
  exact ⟨rfl, hp.2⟩
set_option maxRecDepth 100000 in
set_option maxHeartbeats 12800000 in
theorem rounds_law {x0 x1 x2 z0 z1 z2 m : Int} {sa st sv sw sp : Bool} {na da nt dt nv dv nw dw np dp : List UInt8} (w : World) (ht : Tm w) (hmw : IntKind.i64.wrap m = m)
    (hH0 : AnsM 11 #[] (.bool true)) (hH1 : Ans 12 #[.agg #[.int .i64 x0, .int .i64 x1, .int .i64 x2]] (Rv sa na da)) (hH2 : AnsM 13 #[.agg #[.int .i64 z0, .int .i64 z1, .int .i64 z2]] (Rv st nt dt)) (hG1 : AnsM 15 #[Rv sv nv dv, Rv st nt dt] (.bool true)) (hG2 : AnsM 15 #[Rv st nt dt, Rv sv nv dv] (.bool true)) (hG3 : AnsM 15 #[Rv sp np dp, Rv st nt dt] (.bool true)) (hG4 : Ans 17 #[.int .i64 m] (Rv sw nw dw)) (hG5 : Ans 16 #[Rv st nt dt, Rv sw nw dw] (Rv sp np dp)) (hHCS : (m.tmod 3 = 0 ∧ AnsM 14 #[.int .i64 x0] (Rv sv nv dv)) ∨ ((∃ r, m.tmod 3 = r ∧ ¬ r = 0) ∧ sv = sa ∧ nv = na ∧ dv = da)) :
    Calls Tryz.prog 3 #[.agg #[.int .i64 x0, .int .i64 x1, .int .i64 x2], .agg #[.int .i64 z0, .int .i64 z1, .int .i64 z2], .int .u8 m] w (Yld w (.bool true)) := by
  have H0 := Lib.hid hH0
  have H1 := Lib.hid hH1
  have H2 := Lib.hid hH2
  have G1 := Lib.hid hG1
  have G2 := Lib.hid hG2
  have G3 := Lib.hid hG3
  have G4 := Lib.hid hG4
  have G5 := Lib.hid hG5
  have HCS := Lib.hid hHCS
  have HT := Lib.hid ht
  have HMW := Lib.hid hmw
  clear ht hmw hH0 hH1 hH2 hG1 hG2 hG3 hG4 hG5 hHCS
  have HK := Lib.hid (((Kq.nil w).new #[.int .i64 x0, .int .i64 x1, .int .i64 x2] 22).new #[.int .i64 z0, .int .i64 z1, .int .i64 z2] 22)
  rw [World.size_alloc] at HK
  obtain ⟨B, hB⟩ : ∃ B, w.heap.size = B := ⟨_, rfl⟩
  rw [hB] at HK
  have HBB := Lib.hid hB
  have HF1 := Lib.hid (show ∀ W, Kq w W [(B + 1, 22, [.int .i64 z0, .int .i64 z1, .int .i64 z2]), (B, 22, [.int .i64 x0, .int .i64 x1, .int .i64 x2])] → W.cell? ⟨B + 1, 0, none⟩ = some (.int .i64 z0) ∧ W.cell? ⟨B + 1, 1, none⟩ = some (.int .i64 z1) ∧ W.cell? ⟨B + 1, 2, none⟩ = some (.int .i64 z2) ∧ W.cell? ⟨B, 0, none⟩ = some (.int .i64 x0) ∧ W.cell? ⟨B, 1, none⟩ = some (.int .i64 x1) ∧ W.cell? ⟨B, 2, none⟩ = some (.int .i64 x2) from fun W h => ⟨(h.row _ (.head _)).cell 0, (h.row _ (.head _)).cell 1, (h.row _ (.head _)).cell 2, (h.row _ (.tail _ (.head _))).cell 0, (h.row _ (.tail _ (.head _))).cell 1, (h.row _ (.tail _ (.head _))).cell 2⟩)
  obtain ⟨cc0, cc1, cc2, cc3, cc4, cc5⟩ := HF1.out _ HK.out
  go_enter Tryz.func3, Tryz.ntmps3
  go_wp2_with fail
  refine (H0.out _ (HT.out.ch HK.out.ch)).mono ?_
  rintro e w1 ⟨rfl, hC⟩
  have HK2 := Lib.hid (HK.out.on hC)
  clear cc0 cc1 cc2 cc3 cc4 cc5
  clear hC HK
  have HK := HK2
  clear HK2
  obtain ⟨cc0, cc1, cc2, cc3, cc4, cc5⟩ := HF1.out _ HK.out
  go_wp2_with fail
  clear cc0 cc1 cc2 cc3 cc4 cc5
  have HKD := Lib.hid HK.out.drew
  clear HK
  have HK := HKD
  clear HKD
  refine wp_region_held_drew (S := fun w' => w'.cell? ⟨B + 1, 0, none⟩ = some (.int .i64 z0) ∧ w'.cell? ⟨B + 1, 1, none⟩ = some (.int .i64 z1) ∧ w'.cell? ⟨B + 1, 2, none⟩ = some (.int .i64 z2) ∧ w'.cell? ⟨B, 0, none⟩ = some (.int .i64 x0) ∧ w'.cell? ⟨B, 1, none⟩ = some (.int .i64 x1) ∧ w'.cell? ⟨B, 2, none⟩ = some (.int .i64 x2)) (by kernel_rfl) ?_ (fun hHeld => ?_)
  · (try dsimp only); exact HF1.out _ HK.out
  refine tk 0 (v := ?_) hHeld ?_ ?_
  rotate_left 1
  · intro _ hw; (try dsimp only at hw); go_simp; try with_reducible rfl
  (try simp only [Act.put, List.setIfInBounds_toArray, List.set_cons_zero, List.set_cons_succ])
  refine tk 2 (v := ?_) hHeld ?_ ?_
  rotate_left 1
  · intro _ hw; (try dsimp only at hw); go_simp; try with_reducible rfl
  (try simp only [Act.put, List.setIfInBounds_toArray, List.set_cons_zero, List.set_cons_succ])
  generalize hX : @wpAnyH _ _ _ _ _ = X
  have hXi : ∀ f l a W, X f l a W → wpAnyH _ _ _ _ _ f l a W := fun f l a W h => by rw [hX]; exact h
  have hXo : ∀ f l a W, wpAnyH _ _ _ _ _ f l a W → X f l a W := fun f l a W h => by rw [← hX]; exact h
  have HXI := Lib.hid hXi
  have HXO := Lib.hid hXo
  clear hXi hXo hX hHeld
  have HK0 := HK
  clear HK
  have LS2_01 : ∀ (pa pt : Nat) (W : World), Kq w W [(B + 1, 22, [.int .i64 z0, .int .i64 z1, .int .i64 z2]), (B, 22, [.int .i64 x0, .int .i64 x1, .int .i64 x2])] → Blk W pa 26 [.bool false, S [], S []] → Blk W pt 26 [.bool false, S [], S []] → B + 1 < pa → B + 1 < pt → pa ≠ pt → X 2 #[true, true, true, true, true, true, false, false] { tmps := #[.agg #[.int .i64 x0, .int .i64 x1, .int .i64 x2], .agg #[.int .i64 z0, .int .i64 z1, .int .i64 z2], .int .u8 m, .pointer (some ⟨B, 0, none⟩), .pointer (some ⟨B + 1, 0, none⟩), undef, .bool false, .bool true, .pointer (some ⟨pa, 0, none⟩), .pointer (some ⟨pt, 0, none⟩), .bool true, .agg #[.int .i64 x0, .int .i64 x1, .int .i64 x2], Rv sa na da, .agg #[.int .i64 z0, .int .i64 z1, .int .i64 z2], Rv st nt dt, undef, undef, undef, undef, undef, undef, undef, undef, undef, undef, undef, undef, undef, undef, undef, undef, undef, undef, undef, undef, undef, undef, undef, undef, undef, undef], defers := [] } W := by
    intro pa pt W hK0 bpa bpt gpa gpt dpapt
    have HK := Lib.hid hK0
    clear hK0
    have hHeld := HF1.out _ HK.out
    refine HXO.out _ _ _ _ ?_
    have HK2 := Lib.hid ((HK.out.add bpt).add bpa)
    clear HK
    have HK := HK2
    clear HK2
    clear bpa bpt
    have e0 := (HK.out.row _ (.head _)).cell 0
    have f0 := (HK.out.row _ (.head _)).frozen 0
    have e1 := (HK.out.row _ (.head _)).cell 1
    have f1 := (HK.out.row _ (.head _)).frozen 1
    have e2 := (HK.out.row _ (.head _)).cell 2
    have f2 := (HK.out.row _ (.head _)).frozen 2
    simp only [List.getElem?_cons_zero, List.getElem?_cons_succ] at e0 e1 e2
    refine wpAnyH_ready (rs := [6]) (by kernel_rfl) (by simp) ?_
    refine AllReadyH.cons (at_list rfl) (fun K hK => ?_) AllReadyH.nil
    go_simp
    clear hHeld e0 e1 e2 f0 f1 f2
    have HKp := Lib.hid (Kq.sub (l' := [(pa, 26, [.bool false, S [], S []]), (pt, 26, [.bool false, S [], S []]), (B + 1, 22, [.int .i64 z0, .int .i64 z1, .int .i64 z2]), (B, 22, [.int .i64 x0, .int .i64 x1, .int .i64 x2])]) HK.out (by intro p hp; simp only [List.mem_cons, List.not_mem_nil, or_false] at hp ⊢; rcases hp with rfl | rfl | rfl | rfl <;> simp))
    have HKq := Lib.hid (HKp.out.put3 (by have := HBB.out; omega) (by intro p hp; simp only [List.mem_cons, List.not_mem_nil, or_false] at hp; rcases hp with rfl | rfl | rfl <;> (simp only; omega)) (.bool sa) (S na) (S da))
    have HK2 := Lib.hid (Kq.sub (l' := [(pa, 26, [.bool sa, S na, S da]), (pt, 26, [.bool false, S [], S []]), (B + 1, 22, [.int .i64 z0, .int .i64 z1, .int .i64 z2]), (B, 22, [.int .i64 x0, .int .i64 x1, .int .i64 x2])]) HKq.out (by intro p hp; simp only [List.mem_cons, List.not_mem_nil, or_false] at hp ⊢; rcases hp with rfl | rfl | rfl | rfl <;> simp))
    refine hK.out _ _ ?_ (fun hHeld => ?_)
    · (try dsimp only); exact HF1.out _ (Kq.sub HK2.out (by intro p hp; simp only [List.mem_cons, List.not_mem_nil, or_false] at hp ⊢; rcases hp with rfl | rfl <;> simp))
    clear hK K HK HKp HKq
    have HK := HK2
    clear HK2
    (try simp only [List.setIfInBounds_toArray, List.set_cons_zero, List.set_cons_succ])
    have e0 := (HK.out.row _ (.tail _ (.head _))).cell 0
    have f0 := (HK.out.row _ (.tail _ (.head _))).frozen 0
    have e1 := (HK.out.row _ (.tail _ (.head _))).cell 1
    have f1 := (HK.out.row _ (.tail _ (.head _))).frozen 1
    have e2 := (HK.out.row _ (.tail _ (.head _))).cell 2
    have f2 := (HK.out.row _ (.tail _ (.head _))).frozen 2
    simp only [List.getElem?_cons_zero, List.getElem?_cons_succ] at e0 e1 e2
    refine wpAnyH_ready (rs := [7]) (by kernel_rfl) (by simp) ?_
    refine AllReadyH.cons (at_list rfl) (fun K hK => ?_) AllReadyH.nil
    go_simp
    clear hHeld e0 e1 e2 f0 f1 f2
    have HKp := Lib.hid (Kq.sub (l' := [(pt, 26, [.bool false, S [], S []]), (pa, 26, [.bool sa, S na, S da]), (B + 1, 22, [.int .i64 z0, .int .i64 z1, .int .i64 z2]), (B, 22, [.int .i64 x0, .int .i64 x1, .int .i64 x2])]) HK.out (by intro p hp; simp only [List.mem_cons, List.not_mem_nil, or_false] at hp ⊢; rcases hp with rfl | rfl | rfl | rfl <;> simp))
    have HKq := Lib.hid (HKp.out.put3 (by have := HBB.out; omega) (by intro p hp; simp only [List.mem_cons, List.not_mem_nil, or_false] at hp; rcases hp with rfl | rfl | rfl <;> (simp only; omega)) (.bool st) (S nt) (S dt))
    have HK2 := Lib.hid (Kq.sub (l' := [(pa, 26, [.bool sa, S na, S da]), (pt, 26, [.bool st, S nt, S dt]), (B + 1, 22, [.int .i64 z0, .int .i64 z1, .int .i64 z2]), (B, 22, [.int .i64 x0, .int .i64 x1, .int .i64 x2])]) HKq.out (by intro p hp; simp only [List.mem_cons, List.not_mem_nil, or_false] at hp ⊢; rcases hp with rfl | rfl | rfl | rfl <;> simp))
    refine hK.out _ _ ?_ (fun hHeld => ?_)
    · (try dsimp only); exact HF1.out _ (Kq.sub HK2.out (by intro p hp; simp only [List.mem_cons, List.not_mem_nil, or_false] at hp ⊢; rcases hp with rfl | rfl <;> simp))
    clear hK K HK HKp HKq
    have HK := HK2
    clear HK2
    (try simp only [List.setIfInBounds_toArray, List.set_cons_zero, List.set_cons_succ])
    refine wpAnyH_done (by kernel_rfl) ?_ _
    clear hHeld
    rcases HCS.out with ⟨h3, HO0⟩ | ⟨⟨r, h3, h4⟩, rfl, rfl, rfl⟩
    · clear HCS
      have HO := Lib.hid HO0
      clear HO0
      have HF72 := Lib.hid (show ∀ W, Kq w W [(pa, 26, [.bool sa, S na, S da]), (pt, 26, [.bool st, S nt, S dt]), (B + 1, 22, [.int .i64 z0, .int .i64 z1, .int .i64 z2]), (B, 22, [.int .i64 x0, .int .i64 x1, .int .i64 x2])] → W.cell? ⟨pa, 0, none⟩ = some (.bool sa) ∧ W.cell? ⟨pa, 1, none⟩ = some (S na) ∧ W.cell? ⟨pa, 2, none⟩ = some (S da) ∧ W.cell? ⟨pt, 0, none⟩ = some (.bool st) ∧ W.cell? ⟨pt, 1, none⟩ = some (S nt) ∧ W.cell? ⟨pt, 2, none⟩ = some (S dt) ∧ W.cell? ⟨B + 1, 0, none⟩ = some (.int .i64 z0) ∧ W.cell? ⟨B + 1, 1, none⟩ = some (.int .i64 z1) ∧ W.cell? ⟨B + 1, 2, none⟩ = some (.int .i64 z2) ∧ W.cell? ⟨B, 0, none⟩ = some (.int .i64 x0) ∧ W.cell? ⟨B, 1, none⟩ = some (.int .i64 x1) ∧ W.cell? ⟨B, 2, none⟩ = some (.int .i64 x2) from fun W h => ⟨(h.row _ (.head _)).cell 0, (h.row _ (.head _)).cell 1, (h.row _ (.head _)).cell 2, (h.row _ (.tail _ (.head _))).cell 0, (h.row _ (.tail _ (.head _))).cell 1, (h.row _ (.tail _ (.head _))).cell 2, (h.row _ (.tail _ (.tail _ (.head _)))).cell 0, (h.row _ (.tail _ (.tail _ (.head _)))).cell 1, (h.row _ (.tail _ (.tail _ (.head _)))).cell 2, (h.row _ (.tail _ (.tail _ (.tail _ (.head _))))).cell 0, (h.row _ (.tail _ (.tail _ (.tail _ (.head _))))).cell 1, (h.row _ (.tail _ (.tail _ (.tail _ (.head _))))).cell 2⟩)
      obtain ⟨cc0, cc1, cc2, cc3, cc4, cc5, cc6, cc7, cc8, cc9, cc10, cc11⟩ := HF72.out _ HK.out
      go_wp2_with fail
      refine (HO.out _ (HT.out.ch HK.out.ch)).mono ?_
      rintro e w52 ⟨rfl, hC⟩
      have HK2 := Lib.hid (HK.out.on hC)
      clear cc0 cc1 cc2 cc3 cc4 cc5 cc6 cc7 cc8 cc9 cc10 cc11
      clear hC HK
      have HK := HK2
      clear HK2
      obtain ⟨cc0, cc1, cc2, cc3, cc4, cc5, cc6, cc7, cc8, cc9, cc10, cc11⟩ := HF72.out _ HK.out
      clear cc0 cc1 cc2 cc3 cc4 cc5 cc6 cc7 cc8 cc9 cc10 cc11
      have f0 := (HK.out.row _ (.head _)).frozen 0
      have f1 := (HK.out.row _ (.head _)).frozen 1
      have f2 := (HK.out.row _ (.head _)).frozen 2
      obtain ⟨cc0, cc1, cc2, cc3, cc4, cc5, cc6, cc7, cc8, cc9, cc10, cc11⟩ := HF72.out _ HK.out
      go_wp2_with fail
      clear f0 f1 f2
      clear cc0 cc1 cc2 cc3 cc4 cc5 cc6 cc7 cc8 cc9 cc10 cc11
      have HKp := Lib.hid (Kq.sub (l' := [(pa, 26, [.bool sa, S na, S da]), (pt, 26, [.bool st, S nt, S dt]), (B + 1, 22, [.int .i64 z0, .int .i64 z1, .int .i64 z2]), (B, 22, [.int .i64 x0, .int .i64 x1, .int .i64 x2])]) HK.out (by intro p hp; simp only [List.mem_cons, List.not_mem_nil, or_false] at hp ⊢; rcases hp with rfl | rfl | rfl | rfl <;> simp))
      have HK2 := Lib.hid (HKp.out.put3 (by have := HBB.out; omega) (fun p hp => by simp only [List.mem_cons, List.not_mem_nil, or_false] at hp; rcases hp with rfl | rfl | rfl <;> (show _ ≠ _; simp only; omega)) (.bool sv) (S nv) (S dv))
      clear HK HKp
      have HK := HK2
      clear HK2
      obtain ⟨VV, hVV⟩ : ∃ V, (((w52.setCell ⟨pa, 0, none⟩ (.bool sv)).setCell ⟨pa, 1, none⟩ (S nv)).setCell ⟨pa, 2, none⟩ (S dv)) = V := ⟨_, rfl⟩
      rw [hVV] at HK ⊢
      clear hVV
      have HF73 := Lib.hid (show ∀ W, Kq w W [(pa, 26, [.bool sv, S nv, S dv]), (pt, 26, [.bool st, S nt, S dt]), (B + 1, 22, [.int .i64 z0, .int .i64 z1, .int .i64 z2]), (B, 22, [.int .i64 x0, .int .i64 x1, .int .i64 x2])] → W.cell? ⟨pa, 0, none⟩ = some (.bool sv) ∧ W.cell? ⟨pa, 1, none⟩ = some (S nv) ∧ W.cell? ⟨pa, 2, none⟩ = some (S dv) ∧ W.cell? ⟨pt, 0, none⟩ = some (.bool st) ∧ W.cell? ⟨pt, 1, none⟩ = some (S nt) ∧ W.cell? ⟨pt, 2, none⟩ = some (S dt) ∧ W.cell? ⟨B + 1, 0, none⟩ = some (.int .i64 z0) ∧ W.cell? ⟨B + 1, 1, none⟩ = some (.int .i64 z1) ∧ W.cell? ⟨B + 1, 2, none⟩ = some (.int .i64 z2) ∧ W.cell? ⟨B, 0, none⟩ = some (.int .i64 x0) ∧ W.cell? ⟨B, 1, none⟩ = some (.int .i64 x1) ∧ W.cell? ⟨B, 2, none⟩ = some (.int .i64 x2) from fun W h => ⟨(h.row _ (.head _)).cell 0, (h.row _ (.head _)).cell 1, (h.row _ (.head _)).cell 2, (h.row _ (.tail _ (.head _))).cell 0, (h.row _ (.tail _ (.head _))).cell 1, (h.row _ (.tail _ (.head _))).cell 2, (h.row _ (.tail _ (.tail _ (.head _)))).cell 0, (h.row _ (.tail _ (.tail _ (.head _)))).cell 1, (h.row _ (.tail _ (.tail _ (.head _)))).cell 2, (h.row _ (.tail _ (.tail _ (.tail _ (.head _))))).cell 0, (h.row _ (.tail _ (.tail _ (.tail _ (.head _))))).cell 1, (h.row _ (.tail _ (.tail _ (.tail _ (.head _))))).cell 2⟩)
      obtain ⟨cc0, cc1, cc2, cc3, cc4, cc5, cc6, cc7, cc8, cc9, cc10, cc11⟩ := HF73.out _ HK.out
      clear cc0 cc1 cc2 cc3 cc4 cc5 cc6 cc7 cc8 cc9 cc10 cc11
      have HKD := Lib.hid HK.out.drew
      clear HK
      have HK := HKD
      clear HKD
      refine wp_region_held_drew (S := fun w' => w'.cell? ⟨pa, 0, none⟩ = some (.bool sv) ∧ w'.cell? ⟨pa, 1, none⟩ = some (S nv) ∧ w'.cell? ⟨pa, 2, none⟩ = some (S dv) ∧ w'.cell? ⟨pt, 0, none⟩ = some (.bool st) ∧ w'.cell? ⟨pt, 1, none⟩ = some (S nt) ∧ w'.cell? ⟨pt, 2, none⟩ = some (S dt) ∧ w'.cell? ⟨B + 1, 0, none⟩ = some (.int .i64 z0) ∧ w'.cell? ⟨B + 1, 1, none⟩ = some (.int .i64 z1) ∧ w'.cell? ⟨B + 1, 2, none⟩ = some (.int .i64 z2) ∧ w'.cell? ⟨B, 0, none⟩ = some (.int .i64 x0) ∧ w'.cell? ⟨B, 1, none⟩ = some (.int .i64 x1) ∧ w'.cell? ⟨B, 2, none⟩ = some (.int .i64 x2)) (by kernel_rfl) ?_ (fun hHeld => ?_)
      · (try dsimp only); exact HF73.out _ HK.out
      refine tk 0 (v := ?_) hHeld ?_ ?_
      rotate_left 1
      · intro _ hw; (try dsimp only at hw); go_simp; try with_reducible rfl
      (try simp only [Act.put, List.setIfInBounds_toArray, List.set_cons_zero, List.set_cons_succ])
      refine tk 1 (v := ?_) hHeld ?_ ?_
      rotate_left 1
      · intro _ hw; (try dsimp only at hw); go_simp; try with_reducible rfl
      (try simp only [Act.put, List.setIfInBounds_toArray, List.set_cons_zero, List.set_cons_succ])
      refine tk 2 (v := ?_) hHeld ?_ ?_
      rotate_left 1
      · intro _ hw; (try dsimp only at hw); go_simp; try with_reducible rfl
      (try simp only [Act.put, List.setIfInBounds_toArray, List.set_cons_zero, List.set_cons_succ])
      refine tk 3 (v := ?_) hHeld ?_ ?_
      rotate_left 1
      · intro _ hw; (try dsimp only at hw); go_simp; try with_reducible rfl
      (try simp only [Act.put, List.setIfInBounds_toArray, List.set_cons_zero, List.set_cons_succ])
      refine wpAnyH_ready (rs := [4]) (by kernel_rfl) (by simp) ?_
      refine AllReadyH.cons (at_list rfl) (fun K hK => ?_) AllReadyH.nil
      go_simp
      go_at_call 15; with_reducible refine (G1.out _ (HT.out.ch HK.out.ch)).mono ?_; rintro e wq ⟨rfl, hCq⟩; have HK2 := Lib.hid (HK.out.on hCq); clear hCq HK; have HK := HK2; clear HK2
      clear hHeld
      first | (refine hK.out _ _ ?_ (fun hHeld => ?_)) | (go_wp2_with fail; refine hK.out _ _ ?_ (fun hHeld => ?_))
      · (try dsimp only); exact HF73.out _ HK.out
      clear hK K
      (try simp only [Act.put, List.setIfInBounds_toArray, List.set_cons_zero, List.set_cons_succ])
      refine tk 5 (v := ?_) hHeld ?_ ?_
      rotate_left 1
      · intro _ hw; (try dsimp only at hw); go_simp; try with_reducible rfl
      (try simp only [Act.put, List.setIfInBounds_toArray, List.set_cons_zero, List.set_cons_succ])
      refine tk 6 (v := ?_) hHeld ?_ ?_
      rotate_left 1
      · intro _ hw; (try dsimp only at hw); go_simp; try with_reducible rfl
      (try simp only [Act.put, List.setIfInBounds_toArray, List.set_cons_zero, List.set_cons_succ])
      refine tk 7 (v := ?_) hHeld ?_ ?_
      rotate_left 1
      · intro _ hw; (try dsimp only at hw); go_simp; try with_reducible rfl
      (try simp only [Act.put, List.setIfInBounds_toArray, List.set_cons_zero, List.set_cons_succ])
      refine tk 8 (v := ?_) hHeld ?_ ?_
      rotate_left 1
      · intro _ hw; (try dsimp only at hw); go_simp; try with_reducible rfl
      (try simp only [Act.put, List.setIfInBounds_toArray, List.set_cons_zero, List.set_cons_succ])
      refine wpAnyH_ready (rs := [9]) (by kernel_rfl) (by simp) ?_
      refine AllReadyH.cons (at_list rfl) (fun K hK => ?_) AllReadyH.nil
      go_simp
      go_at_call 15; with_reducible refine (G2.out _ (HT.out.ch HK.out.ch)).mono ?_; rintro e wq ⟨rfl, hCq⟩; have HK2 := Lib.hid (HK.out.on hCq); clear hCq HK; have HK := HK2; clear HK2
      clear hHeld
      first | (refine hK.out _ _ ?_ (fun hHeld => ?_)) | (go_wp2_with fail; refine hK.out _ _ ?_ (fun hHeld => ?_))
      · (try dsimp only); exact HF73.out _ HK.out
      clear hK K
      (try simp only [Act.put, List.setIfInBounds_toArray, List.set_cons_zero, List.set_cons_succ])
      refine tk 10 (v := ?_) hHeld ?_ ?_
      rotate_left 1
      · intro _ hw; (try dsimp only at hw); go_simp; try with_reducible rfl
      (try simp only [Act.put, List.setIfInBounds_toArray, List.set_cons_zero, List.set_cons_succ])
      refine tk 11 (v := ?_) hHeld ?_ ?_
      rotate_left 1
      · intro _ hw; (try dsimp only at hw); go_simp; try with_reducible rfl
      (try simp only [Act.put, List.setIfInBounds_toArray, List.set_cons_zero, List.set_cons_succ])
      refine tk 12 (v := ?_) hHeld ?_ ?_
      rotate_left 1
      · intro _ hw; (try dsimp only at hw); go_simp; try with_reducible rfl
      (try simp only [Act.put, List.setIfInBounds_toArray, List.set_cons_zero, List.set_cons_succ])
      refine tk 13 (v := ?_) hHeld ?_ ?_
      rotate_left 1
      · intro _ hw; (try dsimp only at hw); go_simp; try with_reducible rfl
      (try simp only [Act.put, List.setIfInBounds_toArray, List.set_cons_zero, List.set_cons_succ])
      refine tk 14 (v := ?_) hHeld ?_ ?_
      rotate_left 1
      · intro _ hw; (try dsimp only at hw); go_simp; try with_reducible rfl
      (try simp only [Act.put, List.setIfInBounds_toArray, List.set_cons_zero, List.set_cons_succ, HMW.out])
      refine tk 17 (v := ?_) hHeld ?_ ?_
      rotate_left 1
      · intro _ hw; (try dsimp only at hw); go_simp; try with_reducible rfl
      (try simp only [Act.put, List.setIfInBounds_toArray, List.set_cons_zero, List.set_cons_succ])
      refine wpAnyH_ready (rs := [15]) (by kernel_rfl) (by simp) ?_
      refine AllReadyH.cons (at_list rfl) (fun K hK => ?_) AllReadyH.nil
      go_simp
      go_at_call 17; with_reducible refine (G4.out _).mono ?_; rintro e wq ⟨rfl, hCq⟩; have HK2 := Lib.hid (HK.out.on hCq); clear hCq HK; have HK := HK2; clear HK2
      clear hHeld
      first | (refine hK.out _ _ ?_ (fun hHeld => ?_)) | (go_wp2_with fail; refine hK.out _ _ ?_ (fun hHeld => ?_))
      · (try dsimp only); exact HF73.out _ HK.out
      clear hK K
      (try simp only [Act.put, List.setIfInBounds_toArray, List.set_cons_zero, List.set_cons_succ])
      refine wpAnyH_ready (rs := [16]) (by kernel_rfl) (by simp) ?_
      refine AllReadyH.cons (at_list rfl) (fun K hK => ?_) AllReadyH.nil
      go_simp
      go_at_call 16; with_reducible refine (G5.out _).mono ?_; rintro e wq ⟨rfl, hCq⟩; have HK2 := Lib.hid (HK.out.on hCq); clear hCq HK; have HK := HK2; clear HK2
      clear hHeld
      first | (refine hK.out _ _ ?_ (fun hHeld => ?_)) | (go_wp2_with fail; refine hK.out _ _ ?_ (fun hHeld => ?_))
      · (try dsimp only); exact HF73.out _ HK.out
      clear hK K
      (try simp only [Act.put, List.setIfInBounds_toArray, List.set_cons_zero, List.set_cons_succ])
      refine wpAnyH_ready (rs := [18]) (by kernel_rfl) (by simp) ?_
      refine AllReadyH.cons (at_list rfl) (fun K hK => ?_) AllReadyH.nil
      go_simp
      go_at_call 15; with_reducible refine (G3.out _ (HT.out.ch HK.out.ch)).mono ?_; rintro e wq ⟨rfl, hCq⟩; have HK2 := Lib.hid (HK.out.on hCq); clear hCq HK; have HK := HK2; clear HK2
      clear hHeld
      first | (refine hK.out _ _ ?_ (fun hHeld => ?_)) | (go_wp2_with fail; refine hK.out _ _ ?_ (fun hHeld => ?_))
      · (try dsimp only); exact HF73.out _ HK.out
      clear hK K
      (try simp only [Act.put, List.setIfInBounds_toArray, List.set_cons_zero, List.set_cons_succ])
      refine tk 19 (v := ?_) hHeld ?_ ?_
      rotate_left 1
      · intro _ hw; (try dsimp only at hw); go_simp; try with_reducible rfl
      (try simp only [Act.put, List.setIfInBounds_toArray, List.set_cons_zero, List.set_cons_succ])
      refine tk 20 (v := ?_) hHeld ?_ ?_
      rotate_left 1
      · intro _ hw; (try dsimp only at hw); go_simp; try with_reducible rfl
      (try simp only [Act.put, List.setIfInBounds_toArray, List.set_cons_zero, List.set_cons_succ])
      refine wpAnyH_done (by kernel_rfl) ?_ _
      clear hHeld
      obtain ⟨cc0, cc1, cc2, cc3, cc4, cc5, cc6, cc7, cc8, cc9, cc10, cc11⟩ := HF73.out _ HK.out
      go_wp2_with fail
      go_ret
      exact ⟨rfl, HK.out.ch⟩
    · clear HCS
      have h5 : (r == 0) = false := beq_false_of_ne h4
      have h6 : decide (r = 0) = false := decide_eq_false h4
      have HF72 := Lib.hid (show ∀ W, Kq w W [(pa, 26, [.bool sv, S nv, S dv]), (pt, 26, [.bool st, S nt, S dt]), (B + 1, 22, [.int .i64 z0, .int .i64 z1, .int .i64 z2]), (B, 22, [.int .i64 x0, .int .i64 x1, .int .i64 x2])] → W.cell? ⟨pa, 0, none⟩ = some (.bool sv) ∧ W.cell? ⟨pa, 1, none⟩ = some (S nv) ∧ W.cell? ⟨pa, 2, none⟩ = some (S dv) ∧ W.cell? ⟨pt, 0, none⟩ = some (.bool st) ∧ W.cell? ⟨pt, 1, none⟩ = some (S nt) ∧ W.cell? ⟨pt, 2, none⟩ = some (S dt) ∧ W.cell? ⟨B + 1, 0, none⟩ = some (.int .i64 z0) ∧ W.cell? ⟨B + 1, 1, none⟩ = some (.int .i64 z1) ∧ W.cell? ⟨B + 1, 2, none⟩ = some (.int .i64 z2) ∧ W.cell? ⟨B, 0, none⟩ = some (.int .i64 x0) ∧ W.cell? ⟨B, 1, none⟩ = some (.int .i64 x1) ∧ W.cell? ⟨B, 2, none⟩ = some (.int .i64 x2) from fun W h => ⟨(h.row _ (.head _)).cell 0, (h.row _ (.head _)).cell 1, (h.row _ (.head _)).cell 2, (h.row _ (.tail _ (.head _))).cell 0, (h.row _ (.tail _ (.head _))).cell 1, (h.row _ (.tail _ (.head _))).cell 2, (h.row _ (.tail _ (.tail _ (.head _)))).cell 0, (h.row _ (.tail _ (.tail _ (.head _)))).cell 1, (h.row _ (.tail _ (.tail _ (.head _)))).cell 2, (h.row _ (.tail _ (.tail _ (.tail _ (.head _))))).cell 0, (h.row _ (.tail _ (.tail _ (.tail _ (.head _))))).cell 1, (h.row _ (.tail _ (.tail _ (.tail _ (.head _))))).cell 2⟩)
      obtain ⟨cc0, cc1, cc2, cc3, cc4, cc5, cc6, cc7, cc8, cc9, cc10, cc11⟩ := HF72.out _ HK.out
      go_wp2_with fail
      clear cc0 cc1 cc2 cc3 cc4 cc5 cc6 cc7 cc8 cc9 cc10 cc11
      have HKD := Lib.hid HK.out.drew
      clear HK
      have HK := HKD
      clear HKD
      refine wp_region_held_drew (S := fun w' => w'.cell? ⟨pa, 0, none⟩ = some (.bool sv) ∧ w'.cell? ⟨pa, 1, none⟩ = some (S nv) ∧ w'.cell? ⟨pa, 2, none⟩ = some (S dv) ∧ w'.cell? ⟨pt, 0, none⟩ = some (.bool st) ∧ w'.cell? ⟨pt, 1, none⟩ = some (S nt) ∧ w'.cell? ⟨pt, 2, none⟩ = some (S dt) ∧ w'.cell? ⟨B + 1, 0, none⟩ = some (.int .i64 z0) ∧ w'.cell? ⟨B + 1, 1, none⟩ = some (.int .i64 z1) ∧ w'.cell? ⟨B + 1, 2, none⟩ = some (.int .i64 z2) ∧ w'.cell? ⟨B, 0, none⟩ = some (.int .i64 x0) ∧ w'.cell? ⟨B, 1, none⟩ = some (.int .i64 x1) ∧ w'.cell? ⟨B, 2, none⟩ = some (.int .i64 x2)) (by kernel_rfl) ?_ (fun hHeld => ?_)
      · (try dsimp only); exact HF72.out _ HK.out
      refine tk 0 (v := ?_) hHeld ?_ ?_
      rotate_left 1
      · intro _ hw; (try dsimp only at hw); go_simp; try with_reducible rfl
      (try simp only [Act.put, List.setIfInBounds_toArray, List.set_cons_zero, List.set_cons_succ])
      refine tk 1 (v := ?_) hHeld ?_ ?_
      rotate_left 1
      · intro _ hw; (try dsimp only at hw); go_simp; try with_reducible rfl
      (try simp only [Act.put, List.setIfInBounds_toArray, List.set_cons_zero, List.set_cons_succ])
      refine tk 2 (v := ?_) hHeld ?_ ?_
      rotate_left 1
      · intro _ hw; (try dsimp only at hw); go_simp; try with_reducible rfl
      (try simp only [Act.put, List.setIfInBounds_toArray, List.set_cons_zero, List.set_cons_succ])
      refine tk 3 (v := ?_) hHeld ?_ ?_
      rotate_left 1
      · intro _ hw; (try dsimp only at hw); go_simp; try with_reducible rfl
      (try simp only [Act.put, List.setIfInBounds_toArray, List.set_cons_zero, List.set_cons_succ])
      refine wpAnyH_ready (rs := [4]) (by kernel_rfl) (by simp) ?_
      refine AllReadyH.cons (at_list rfl) (fun K hK => ?_) AllReadyH.nil
      go_simp
      go_at_call 15; with_reducible refine (G1.out _ (HT.out.ch HK.out.ch)).mono ?_; rintro e wq ⟨rfl, hCq⟩; have HK2 := Lib.hid (HK.out.on hCq); clear hCq HK; have HK := HK2; clear HK2
      clear hHeld
      first | (refine hK.out _ _ ?_ (fun hHeld => ?_)) | (go_wp2_with fail; refine hK.out _ _ ?_ (fun hHeld => ?_))
      · (try dsimp only); exact HF72.out _ HK.out
      clear hK K
      (try simp only [Act.put, List.setIfInBounds_toArray, List.set_cons_zero, List.set_cons_succ])
      refine tk 5 (v := ?_) hHeld ?_ ?_
      rotate_left 1
      · intro _ hw; (try dsimp only at hw); go_simp; try with_reducible rfl
      (try simp only [Act.put, List.setIfInBounds_toArray, List.set_cons_zero, List.set_cons_succ])
      refine tk 6 (v := ?_) hHeld ?_ ?_
      rotate_left 1
      · intro _ hw; (try dsimp only at hw); go_simp; try with_reducible rfl
      (try simp only [Act.put, List.setIfInBounds_toArray, List.set_cons_zero, List.set_cons_succ])
      refine tk 7 (v := ?_) hHeld ?_ ?_
      rotate_left 1
      · intro _ hw; (try dsimp only at hw); go_simp; try with_reducible rfl
      (try simp only [Act.put, List.setIfInBounds_toArray, List.set_cons_zero, List.set_cons_succ])
      refine tk 8 (v := ?_) hHeld ?_ ?_
      rotate_left 1
      · intro _ hw; (try dsimp only at hw); go_simp; try with_reducible rfl
      (try simp only [Act.put, List.setIfInBounds_toArray, List.set_cons_zero, List.set_cons_succ])
      refine wpAnyH_ready (rs := [9]) (by kernel_rfl) (by simp) ?_
      refine AllReadyH.cons (at_list rfl) (fun K hK => ?_) AllReadyH.nil
      go_simp
      go_at_call 15; with_reducible refine (G2.out _ (HT.out.ch HK.out.ch)).mono ?_; rintro e wq ⟨rfl, hCq⟩; have HK2 := Lib.hid (HK.out.on hCq); clear hCq HK; have HK := HK2; clear HK2
      clear hHeld
      first | (refine hK.out _ _ ?_ (fun hHeld => ?_)) | (go_wp2_with fail; refine hK.out _ _ ?_ (fun hHeld => ?_))
      · (try dsimp only); exact HF72.out _ HK.out
      clear hK K
      (try simp only [Act.put, List.setIfInBounds_toArray, List.set_cons_zero, List.set_cons_succ])
      refine tk 10 (v := ?_) hHeld ?_ ?_
      rotate_left 1
      · intro _ hw; (try dsimp only at hw); go_simp; try with_reducible rfl
      (try simp only [Act.put, List.setIfInBounds_toArray, List.set_cons_zero, List.set_cons_succ])
      refine tk 11 (v := ?_) hHeld ?_ ?_
      rotate_left 1
      · intro _ hw; (try dsimp only at hw); go_simp; try with_reducible rfl
      (try simp only [Act.put, List.setIfInBounds_toArray, List.set_cons_zero, List.set_cons_succ])
      refine tk 12 (v := ?_) hHeld ?_ ?_
      rotate_left 1
      · intro _ hw; (try dsimp only at hw); go_simp; try with_reducible rfl
      (try simp only [Act.put, List.setIfInBounds_toArray, List.set_cons_zero, List.set_cons_succ])
      refine tk 13 (v := ?_) hHeld ?_ ?_
      rotate_left 1
      · intro _ hw; (try dsimp only at hw); go_simp; try with_reducible rfl
      (try simp only [Act.put, List.setIfInBounds_toArray, List.set_cons_zero, List.set_cons_succ])
      refine tk 14 (v := ?_) hHeld ?_ ?_
      rotate_left 1
      · intro _ hw; (try dsimp only at hw); go_simp; try with_reducible rfl
      (try simp only [Act.put, List.setIfInBounds_toArray, List.set_cons_zero, List.set_cons_succ, HMW.out])
      refine tk 17 (v := ?_) hHeld ?_ ?_
      rotate_left 1
      · intro _ hw; (try dsimp only at hw); go_simp; try with_reducible rfl
      (try simp only [Act.put, List.setIfInBounds_toArray, List.set_cons_zero, List.set_cons_succ])
      refine wpAnyH_ready (rs := [15]) (by kernel_rfl) (by simp) ?_
      refine AllReadyH.cons (at_list rfl) (fun K hK => ?_) AllReadyH.nil
      go_simp
      go_at_call 17; with_reducible refine (G4.out _).mono ?_; rintro e wq ⟨rfl, hCq⟩; have HK2 := Lib.hid (HK.out.on hCq); clear hCq HK; have HK := HK2; clear HK2
      clear hHeld
      first | (refine hK.out _ _ ?_ (fun hHeld => ?_)) | (go_wp2_with fail; refine hK.out _ _ ?_ (fun hHeld => ?_))
      · (try dsimp only); exact HF72.out _ HK.out
      clear hK K
      (try simp only [Act.put, List.setIfInBounds_toArray, List.set_cons_zero, List.set_cons_succ])
      refine wpAnyH_ready (rs := [16]) (by kernel_rfl) (by simp) ?_
      refine AllReadyH.cons (at_list rfl) (fun K hK => ?_) AllReadyH.nil
      go_simp
      go_at_call 16; with_reducible refine (G5.out _).mono ?_; rintro e wq ⟨rfl, hCq⟩; have HK2 := Lib.hid (HK.out.on hCq); clear hCq HK; have HK := HK2; clear HK2
      clear hHeld
      first | (refine hK.out _ _ ?_ (fun hHeld => ?_)) | (go_wp2_with fail; refine hK.out _ _ ?_ (fun hHeld => ?_))
      · (try dsimp only); exact HF72.out _ HK.out
      clear hK K
      (try simp only [Act.put, List.setIfInBounds_toArray, List.set_cons_zero, List.set_cons_succ])
      refine wpAnyH_ready (rs := [18]) (by kernel_rfl) (by simp) ?_
      refine AllReadyH.cons (at_list rfl) (fun K hK => ?_) AllReadyH.nil
      go_simp
      go_at_call 15; with_reducible refine (G3.out _ (HT.out.ch HK.out.ch)).mono ?_; rintro e wq ⟨rfl, hCq⟩; have HK2 := Lib.hid (HK.out.on hCq); clear hCq HK; have HK := HK2; clear HK2
      clear hHeld
      first | (refine hK.out _ _ ?_ (fun hHeld => ?_)) | (go_wp2_with fail; refine hK.out _ _ ?_ (fun hHeld => ?_))
      · (try dsimp only); exact HF72.out _ HK.out
      clear hK K
      (try simp only [Act.put, List.setIfInBounds_toArray, List.set_cons_zero, List.set_cons_succ])
      refine tk 19 (v := ?_) hHeld ?_ ?_
      rotate_left 1
      · intro _ hw; (try dsimp only at hw); go_simp; try with_reducible rfl
      (try simp only [Act.put, List.setIfInBounds_toArray, List.set_cons_zero, List.set_cons_succ])
      refine tk 20 (v := ?_) hHeld ?_ ?_
      rotate_left 1
      · intro _ hw; (try dsimp only at hw); go_simp; try with_reducible rfl
      (try simp only [Act.put, List.setIfInBounds_toArray, List.set_cons_zero, List.set_cons_succ])
      refine wpAnyH_done (by kernel_rfl) ?_ _
      clear hHeld
      obtain ⟨cc0, cc1, cc2, cc3, cc4, cc5, cc6, cc7, cc8, cc9, cc10, cc11⟩ := HF72.out _ HK.out
      go_wp2_with fail
      go_ret
      exact ⟨rfl, HK.out.ch⟩
  have LS1_01 : ∀ (pa pt : Nat) (W : World), Kq w W [(B + 1, 22, [.int .i64 z0, .int .i64 z1, .int .i64 z2]), (B, 22, [.int .i64 x0, .int .i64 x1, .int .i64 x2])] → Blk W pa 26 [.bool false, S [], S []] → Blk W pt 26 [.bool false, S [], S []] → B + 1 < pa → B + 1 < pt → pa ≠ pt → X 3 #[true, true, true, false, true, true, false, false] { tmps := #[.agg #[.int .i64 x0, .int .i64 x1, .int .i64 x2], .agg #[.int .i64 z0, .int .i64 z1, .int .i64 z2], .int .u8 m, .pointer (some ⟨B, 0, none⟩), .pointer (some ⟨B + 1, 0, none⟩), undef, .bool false, .bool true, .pointer (some ⟨pa, 0, none⟩), .pointer (some ⟨pt, 0, none⟩), .bool true, .agg #[.int .i64 x0, .int .i64 x1, .int .i64 x2], Rv sa na da, .agg #[.int .i64 z0, .int .i64 z1, .int .i64 z2], undef, undef, undef, undef, undef, undef, undef, undef, undef, undef, undef, undef, undef, undef, undef, undef, undef, undef, undef, undef, undef, undef, undef, undef, undef, undef, undef], defers := [] } W := by
    intro pa pt W hK0 bpa bpt gpa gpt dpapt
    have HK := Lib.hid hK0
    clear hK0
    have hHeld := HF1.out _ HK.out
    refine HXO.out _ _ _ _ ?_
    refine wpAnyH_ready (rs := [3]) (by kernel_rfl) (by simp) ?_
    refine AllReadyH.cons (at_list rfl) (fun K hK => ?_) (AllReadyH.nil)
    · go_simp
      go_at_call 13
      with_reducible refine (H2.out _ (HT.out.ch HK.out.ch)).mono ?_
      rintro e wq ⟨rfl, hCq⟩
      have HK2 := Lib.hid (HK.out.on hCq)
      clear hHeld
      first | (refine hK.out _ _ ?_ (fun hHeld => ?_)) | (go_wp2_with fail; refine hK.out _ _ ?_ (fun hHeld => ?_))
      · (try dsimp only); exact HF1.out _ HK2.out
      (try simp only [List.setIfInBounds_toArray, List.set_cons_zero, List.set_cons_succ])
      exact HXI.out _ _ _ _ (LS2_01 _ _ _ HK2.out (hCq.blk bpa (Blk.lt bpa) (fun q => q)) (hCq.blk bpt (Blk.lt bpt) (fun q => q)) gpa gpt dpapt)
  have LS2_0 : ∀ (pa : Nat) (W : World), Kq w W [(B + 1, 22, [.int .i64 z0, .int .i64 z1, .int .i64 z2]), (B, 22, [.int .i64 x0, .int .i64 x1, .int .i64 x2])] → Blk W pa 26 [.bool false, S [], S []] → B + 1 < pa → X 3 #[true, true, true, true, true, false, false, false] { tmps := #[.agg #[.int .i64 x0, .int .i64 x1, .int .i64 x2], .agg #[.int .i64 z0, .int .i64 z1, .int .i64 z2], .int .u8 m, .pointer (some ⟨B, 0, none⟩), .pointer (some ⟨B + 1, 0, none⟩), undef, .bool false, .bool true, .pointer (some ⟨pa, 0, none⟩), undef, .bool true, .agg #[.int .i64 x0, .int .i64 x1, .int .i64 x2], Rv sa na da, .agg #[.int .i64 z0, .int .i64 z1, .int .i64 z2], Rv st nt dt, undef, undef, undef, undef, undef, undef, undef, undef, undef, undef, undef, undef, undef, undef, undef, undef, undef, undef, undef, undef, undef, undef, undef, undef, undef, undef], defers := [] } W := by
    intro pa W hK0 bpa gpa
    have HK := Lib.hid hK0
    clear hK0
    have hHeld := HF1.out _ HK.out
    refine HXO.out _ _ _ _ ?_
    refine wpAnyH_ready (rs := [5]) (by kernel_rfl) (by simp) ?_
    refine AllReadyH.cons (at_list rfl) (fun K hK => ?_) (AllReadyH.nil)
    · go_simp
      have HK2 := Lib.hid (HK.out.other (.cells #[.bool false, S [], S []] 26 (0, 0)))
      have nB := Blk.new W #[.bool false, S [], S []] 26
      have nG : B + 1 < W.heap.size := (HK.out.row _ (.head _)).lt
      clear hHeld
      refine hK.out _ _ ?_ (fun hHeld => ?_)
      · (try dsimp only); exact HF1.out _ HK2.out
      (try simp only [List.setIfInBounds_toArray, List.set_cons_zero, List.set_cons_succ])
      exact HXI.out _ _ _ _ (LS2_01 _ _ _ HK2.out (Blk.alloc bpa _) nB gpa nG (Nat.ne_of_lt (Blk.lt bpa)))
  have LS2_1 : ∀ (pt : Nat) (W : World), Kq w W [(B + 1, 22, [.int .i64 z0, .int .i64 z1, .int .i64 z2]), (B, 22, [.int .i64 x0, .int .i64 x1, .int .i64 x2])] → Blk W pt 26 [.bool false, S [], S []] → B + 1 < pt → X 3 #[true, true, true, true, false, true, false, false] { tmps := #[.agg #[.int .i64 x0, .int .i64 x1, .int .i64 x2], .agg #[.int .i64 z0, .int .i64 z1, .int .i64 z2], .int .u8 m, .pointer (some ⟨B, 0, none⟩), .pointer (some ⟨B + 1, 0, none⟩), undef, .bool false, .bool true, undef, .pointer (some ⟨pt, 0, none⟩), .bool true, .agg #[.int .i64 x0, .int .i64 x1, .int .i64 x2], Rv sa na da, .agg #[.int .i64 z0, .int .i64 z1, .int .i64 z2], Rv st nt dt, undef, undef, undef, undef, undef, undef, undef, undef, undef, undef, undef, undef, undef, undef, undef, undef, undef, undef, undef, undef, undef, undef, undef, undef, undef, undef], defers := [] } W := by
    intro pt W hK0 bpt gpt
    have HK := Lib.hid hK0
    clear hK0
    have hHeld := HF1.out _ HK.out
    refine HXO.out _ _ _ _ ?_
    refine wpAnyH_ready (rs := [4]) (by kernel_rfl) (by simp) ?_
    refine AllReadyH.cons (at_list rfl) (fun K hK => ?_) (AllReadyH.nil)
    · go_simp
      have HK2 := Lib.hid (HK.out.other (.cells #[.bool false, S [], S []] 26 (0, 0)))
      have nB := Blk.new W #[.bool false, S [], S []] 26
      have nG : B + 1 < W.heap.size := (HK.out.row _ (.head _)).lt
      clear hHeld
      refine hK.out _ _ ?_ (fun hHeld => ?_)
      · (try dsimp only); exact HF1.out _ HK2.out
      (try simp only [List.setIfInBounds_toArray, List.set_cons_zero, List.set_cons_succ])
      exact HXI.out _ _ _ _ (LS2_01 _ _ _ HK2.out nB (Blk.alloc bpt _) nG gpt (Nat.ne_of_gt (Blk.lt bpt)))
  have LS0_01 : ∀ (pa pt : Nat) (W : World), Kq w W [(B + 1, 22, [.int .i64 z0, .int .i64 z1, .int .i64 z2]), (B, 22, [.int .i64 x0, .int .i64 x1, .int .i64 x2])] → Blk W pa 26 [.bool false, S [], S []] → Blk W pt 26 [.bool false, S [], S []] → B + 1 < pa → B + 1 < pt → pa ≠ pt → X 4 #[true, false, true, false, true, true, false, false] { tmps := #[.agg #[.int .i64 x0, .int .i64 x1, .int .i64 x2], .agg #[.int .i64 z0, .int .i64 z1, .int .i64 z2], .int .u8 m, .pointer (some ⟨B, 0, none⟩), .pointer (some ⟨B + 1, 0, none⟩), undef, .bool false, .bool true, .pointer (some ⟨pa, 0, none⟩), .pointer (some ⟨pt, 0, none⟩), .bool true, .agg #[.int .i64 x0, .int .i64 x1, .int .i64 x2], undef, .agg #[.int .i64 z0, .int .i64 z1, .int .i64 z2], undef, undef, undef, undef, undef, undef, undef, undef, undef, undef, undef, undef, undef, undef, undef, undef, undef, undef, undef, undef, undef, undef, undef, undef, undef, undef, undef], defers := [] } W := by
    intro pa pt W hK0 bpa bpt gpa gpt dpapt
    have HK := Lib.hid hK0
    clear hK0
    have hHeld := HF1.out _ HK.out
    refine HXO.out _ _ _ _ ?_
    refine wpAnyH_ready (rs := [1]) (by kernel_rfl) (by simp) ?_
    refine AllReadyH.cons (at_list rfl) (fun K hK => ?_) (AllReadyH.nil)
    · go_simp
      go_at_call 12
      with_reducible refine (H1.out _).mono ?_
      rintro e wq ⟨rfl, hCq⟩
      have HK2 := Lib.hid (HK.out.on hCq)
      clear hHeld
      first | (refine hK.out _ _ ?_ (fun hHeld => ?_)) | (go_wp2_with fail; refine hK.out _ _ ?_ (fun hHeld => ?_))
      · (try dsimp only); exact HF1.out _ HK2.out
      (try simp only [List.setIfInBounds_toArray, List.set_cons_zero, List.set_cons_succ])
      exact HXI.out _ _ _ _ (LS1_01 _ _ _ HK2.out (hCq.blk bpa (Blk.lt bpa) (fun q => q)) (hCq.blk bpt (Blk.lt bpt) (fun q => q)) gpa gpt dpapt)
  have LS1_0 : ∀ (pa : Nat) (W : World), Kq w W [(B + 1, 22, [.int .i64 z0, .int .i64 z1, .int .i64 z2]), (B, 22, [.int .i64 x0, .int .i64 x1, .int .i64 x2])] → Blk W pa 26 [.bool false, S [], S []] → B + 1 < pa → X 4 #[true, true, true, false, true, false, false, false] { tmps := #[.agg #[.int .i64 x0, .int .i64 x1, .int .i64 x2], .agg #[.int .i64 z0, .int .i64 z1, .int .i64 z2], .int .u8 m, .pointer (some ⟨B, 0, none⟩), .pointer (some ⟨B + 1, 0, none⟩), undef, .bool false, .bool true, .pointer (some ⟨pa, 0, none⟩), undef, .bool true, .agg #[.int .i64 x0, .int .i64 x1, .int .i64 x2], Rv sa na da, .agg #[.int .i64 z0, .int .i64 z1, .int .i64 z2], undef, undef, undef, undef, undef, undef, undef, undef, undef, undef, undef, undef, undef, undef, undef, undef, undef, undef, undef, undef, undef, undef, undef, undef, undef, undef, undef], defers := [] } W := by
    intro pa W hK0 bpa gpa
    have HK := Lib.hid hK0
    clear hK0
    have hHeld := HF1.out _ HK.out
    refine HXO.out _ _ _ _ ?_
    refine wpAnyH_ready (rs := [3, 5]) (by kernel_rfl) (by simp) ?_
    refine AllReadyH.cons (at_list rfl) (fun K hK => ?_) (AllReadyH.cons (at_list rfl) (fun K hK => ?_) (AllReadyH.nil))
    · go_simp
      go_at_call 13
      with_reducible refine (H2.out _ (HT.out.ch HK.out.ch)).mono ?_
      rintro e wq ⟨rfl, hCq⟩
      have HK2 := Lib.hid (HK.out.on hCq)
      clear hHeld
      first | (refine hK.out _ _ ?_ (fun hHeld => ?_)) | (go_wp2_with fail; refine hK.out _ _ ?_ (fun hHeld => ?_))
      · (try dsimp only); exact HF1.out _ HK2.out
      (try simp only [List.setIfInBounds_toArray, List.set_cons_zero, List.set_cons_succ])
      exact HXI.out _ _ _ _ (LS2_0 _ _ HK2.out (hCq.blk bpa (Blk.lt bpa) (fun q => q)) gpa)
    · go_simp
      have HK2 := Lib.hid (HK.out.other (.cells #[.bool false, S [], S []] 26 (0, 0)))
      have nB := Blk.new W #[.bool false, S [], S []] 26
      have nG : B + 1 < W.heap.size := (HK.out.row _ (.head _)).lt
      clear hHeld
      refine hK.out _ _ ?_ (fun hHeld => ?_)
      · (try dsimp only); exact HF1.out _ HK2.out
      (try simp only [List.setIfInBounds_toArray, List.set_cons_zero, List.set_cons_succ])
      exact HXI.out _ _ _ _ (LS1_01 _ _ _ HK2.out (Blk.alloc bpa _) nB gpa nG (Nat.ne_of_lt (Blk.lt bpa)))
  have LS1_1 : ∀ (pt : Nat) (W : World), Kq w W [(B + 1, 22, [.int .i64 z0, .int .i64 z1, .int .i64 z2]), (B, 22, [.int .i64 x0, .int .i64 x1, .int .i64 x2])] → Blk W pt 26 [.bool false, S [], S []] → B + 1 < pt → X 4 #[true, true, true, false, false, true, false, false] { tmps := #[.agg #[.int .i64 x0, .int .i64 x1, .int .i64 x2], .agg #[.int .i64 z0, .int .i64 z1, .int .i64 z2], .int .u8 m, .pointer (some ⟨B, 0, none⟩), .pointer (some ⟨B + 1, 0, none⟩), undef, .bool false, .bool true, undef, .pointer (some ⟨pt, 0, none⟩), .bool true, .agg #[.int .i64 x0, .int .i64 x1, .int .i64 x2], Rv sa na da, .agg #[.int .i64 z0, .int .i64 z1, .int .i64 z2], undef, undef, undef, undef, undef, undef, undef, undef, undef, undef, undef, undef, undef, undef, undef, undef, undef, undef, undef, undef, undef, undef, undef, undef, undef, undef, undef], defers := [] } W := by
    intro pt W hK0 bpt gpt
    have HK := Lib.hid hK0
    clear hK0
    have hHeld := HF1.out _ HK.out
    refine HXO.out _ _ _ _ ?_
    refine wpAnyH_ready (rs := [3, 4]) (by kernel_rfl) (by simp) ?_
    refine AllReadyH.cons (at_list rfl) (fun K hK => ?_) (AllReadyH.cons (at_list rfl) (fun K hK => ?_) (AllReadyH.nil))
    · go_simp
      go_at_call 13
      with_reducible refine (H2.out _ (HT.out.ch HK.out.ch)).mono ?_
      rintro e wq ⟨rfl, hCq⟩
      have HK2 := Lib.hid (HK.out.on hCq)
      clear hHeld
      first | (refine hK.out _ _ ?_ (fun hHeld => ?_)) | (go_wp2_with fail; refine hK.out _ _ ?_ (fun hHeld => ?_))
      · (try dsimp only); exact HF1.out _ HK2.out
      (try simp only [List.setIfInBounds_toArray, List.set_cons_zero, List.set_cons_succ])
      exact HXI.out _ _ _ _ (LS2_1 _ _ HK2.out (hCq.blk bpt (Blk.lt bpt) (fun q => q)) gpt)
    · go_simp
      have HK2 := Lib.hid (HK.out.other (.cells #[.bool false, S [], S []] 26 (0, 0)))
      have nB := Blk.new W #[.bool false, S [], S []] 26
      have nG : B + 1 < W.heap.size := (HK.out.row _ (.head _)).lt
      clear hHeld
      refine hK.out _ _ ?_ (fun hHeld => ?_)
      · (try dsimp only); exact HF1.out _ HK2.out
      (try simp only [List.setIfInBounds_toArray, List.set_cons_zero, List.set_cons_succ])
      exact HXI.out _ _ _ _ (LS1_01 _ _ _ HK2.out nB (Blk.alloc bpt _) nG gpt (Nat.ne_of_gt (Blk.lt bpt)))
  have LS2_ : ∀ (W : World), Kq w W [(B + 1, 22, [.int .i64 z0, .int .i64 z1, .int .i64 z2]), (B, 22, [.int .i64 x0, .int .i64 x1, .int .i64 x2])] → X 4 #[true, true, true, true, false, false, false, false] { tmps := #[.agg #[.int .i64 x0, .int .i64 x1, .int .i64 x2], .agg #[.int .i64 z0, .int .i64 z1, .int .i64 z2], .int .u8 m, .pointer (some ⟨B, 0, none⟩), .pointer (some ⟨B + 1, 0, none⟩), undef, .bool false, .bool true, undef, undef, .bool true, .agg #[.int .i64 x0, .int .i64 x1, .int .i64 x2], Rv sa na da, .agg #[.int .i64 z0, .int .i64 z1, .int .i64 z2], Rv st nt dt, undef, undef, undef, undef, undef, undef, undef, undef, undef, undef, undef, undef, undef, undef, undef, undef, undef, undef, undef, undef, undef, undef, undef, undef, undef, undef], defers := [] } W := by
    intro  W hK0 
    have HK := Lib.hid hK0
    clear hK0
    have hHeld := HF1.out _ HK.out
    refine HXO.out _ _ _ _ ?_
    refine wpAnyH_ready (rs := [4, 5]) (by kernel_rfl) (by simp) ?_
    refine AllReadyH.cons (at_list rfl) (fun K hK => ?_) (AllReadyH.cons (at_list rfl) (fun K hK => ?_) (AllReadyH.nil))
    · go_simp
      have HK2 := Lib.hid (HK.out.other (.cells #[.bool false, S [], S []] 26 (0, 0)))
      have nB := Blk.new W #[.bool false, S [], S []] 26
      have nG : B + 1 < W.heap.size := (HK.out.row _ (.head _)).lt
      clear hHeld
      refine hK.out _ _ ?_ (fun hHeld => ?_)
      · (try dsimp only); exact HF1.out _ HK2.out
      (try simp only [List.setIfInBounds_toArray, List.set_cons_zero, List.set_cons_succ])
      exact HXI.out _ _ _ _ (LS2_0 _ _ HK2.out nB nG)
    · go_simp
      have HK2 := Lib.hid (HK.out.other (.cells #[.bool false, S [], S []] 26 (0, 0)))
      have nB := Blk.new W #[.bool false, S [], S []] 26
      have nG : B + 1 < W.heap.size := (HK.out.row _ (.head _)).lt
      clear hHeld
      refine hK.out _ _ ?_ (fun hHeld => ?_)
      · (try dsimp only); exact HF1.out _ HK2.out
      (try simp only [List.setIfInBounds_toArray, List.set_cons_zero, List.set_cons_succ])
      exact HXI.out _ _ _ _ (LS2_1 _ _ HK2.out nB nG)
  have LS0_0 : ∀ (pa : Nat) (W : World), Kq w W [(B + 1, 22, [.int .i64 z0, .int .i64 z1, .int .i64 z2]), (B, 22, [.int .i64 x0, .int .i64 x1, .int .i64 x2])] → Blk W pa 26 [.bool false, S [], S []] → B + 1 < pa → X 5 #[true, false, true, false, true, false, false, false] { tmps := #[.agg #[.int .i64 x0, .int .i64 x1, .int .i64 x2], .agg #[.int .i64 z0, .int .i64 z1, .int .i64 z2], .int .u8 m, .pointer (some ⟨B, 0, none⟩), .pointer (some ⟨B + 1, 0, none⟩), undef, .bool false, .bool true, .pointer (some ⟨pa, 0, none⟩), undef, .bool true, .agg #[.int .i64 x0, .int .i64 x1, .int .i64 x2], undef, .agg #[.int .i64 z0, .int .i64 z1, .int .i64 z2], undef, undef, undef, undef, undef, undef, undef, undef, undef, undef, undef, undef, undef, undef, undef, undef, undef, undef, undef, undef, undef, undef, undef, undef, undef, undef, undef], defers := [] } W := by
    intro pa W hK0 bpa gpa
    have HK := Lib.hid hK0
    clear hK0
    have hHeld := HF1.out _ HK.out
    refine HXO.out _ _ _ _ ?_
    refine wpAnyH_ready (rs := [1, 5]) (by kernel_rfl) (by simp) ?_
    refine AllReadyH.cons (at_list rfl) (fun K hK => ?_) (AllReadyH.cons (at_list rfl) (fun K hK => ?_) (AllReadyH.nil))
    · go_simp
      go_at_call 12
      with_reducible refine (H1.out _).mono ?_
      rintro e wq ⟨rfl, hCq⟩
      have HK2 := Lib.hid (HK.out.on hCq)
      clear hHeld
      first | (refine hK.out _ _ ?_ (fun hHeld => ?_)) | (go_wp2_with fail; refine hK.out _ _ ?_ (fun hHeld => ?_))
      · (try dsimp only); exact HF1.out _ HK2.out
      (try simp only [List.setIfInBounds_toArray, List.set_cons_zero, List.set_cons_succ])
      exact HXI.out _ _ _ _ (LS1_0 _ _ HK2.out (hCq.blk bpa (Blk.lt bpa) (fun q => q)) gpa)
    · go_simp
      have HK2 := Lib.hid (HK.out.other (.cells #[.bool false, S [], S []] 26 (0, 0)))
      have nB := Blk.new W #[.bool false, S [], S []] 26
      have nG : B + 1 < W.heap.size := (HK.out.row _ (.head _)).lt
      clear hHeld
      refine hK.out _ _ ?_ (fun hHeld => ?_)
      · (try dsimp only); exact HF1.out _ HK2.out
      (try simp only [List.setIfInBounds_toArray, List.set_cons_zero, List.set_cons_succ])
      exact HXI.out _ _ _ _ (LS0_01 _ _ _ HK2.out (Blk.alloc bpa _) nB gpa nG (Nat.ne_of_lt (Blk.lt bpa)))
  have LS0_1 : ∀ (pt : Nat) (W : World), Kq w W [(B + 1, 22, [.int .i64 z0, .int .i64 z1, .int .i64 z2]), (B, 22, [.int .i64 x0, .int .i64 x1, .int .i64 x2])] → Blk W pt 26 [.bool false, S [], S []] → B + 1 < pt → X 5 #[true, false, true, false, false, true, false, false] { tmps := #[.agg #[.int .i64 x0, .int .i64 x1, .int .i64 x2], .agg #[.int .i64 z0, .int .i64 z1, .int .i64 z2], .int .u8 m, .pointer (some ⟨B, 0, none⟩), .pointer (some ⟨B + 1, 0, none⟩), undef, .bool false, .bool true, undef, .pointer (some ⟨pt, 0, none⟩), .bool true, .agg #[.int .i64 x0, .int .i64 x1, .int .i64 x2], undef, .agg #[.int .i64 z0, .int .i64 z1, .int .i64 z2], undef, undef, undef, undef, undef, undef, undef, undef, undef, undef, undef, undef, undef, undef, undef, undef, undef, undef, undef, undef, undef, undef, undef, undef, undef, undef, undef], defers := [] } W := by
    intro pt W hK0 bpt gpt
    have HK := Lib.hid hK0
    clear hK0
    have hHeld := HF1.out _ HK.out
    refine HXO.out _ _ _ _ ?_
    refine wpAnyH_ready (rs := [1, 4]) (by kernel_rfl) (by simp) ?_
    refine AllReadyH.cons (at_list rfl) (fun K hK => ?_) (AllReadyH.cons (at_list rfl) (fun K hK => ?_) (AllReadyH.nil))
    · go_simp
      go_at_call 12
      with_reducible refine (H1.out _).mono ?_
      rintro e wq ⟨rfl, hCq⟩
      have HK2 := Lib.hid (HK.out.on hCq)
      clear hHeld
      first | (refine hK.out _ _ ?_ (fun hHeld => ?_)) | (go_wp2_with fail; refine hK.out _ _ ?_ (fun hHeld => ?_))
      · (try dsimp only); exact HF1.out _ HK2.out
      (try simp only [List.setIfInBounds_toArray, List.set_cons_zero, List.set_cons_succ])
      exact HXI.out _ _ _ _ (LS1_1 _ _ HK2.out (hCq.blk bpt (Blk.lt bpt) (fun q => q)) gpt)
    · go_simp
      have HK2 := Lib.hid (HK.out.other (.cells #[.bool false, S [], S []] 26 (0, 0)))
      have nB := Blk.new W #[.bool false, S [], S []] 26
      have nG : B + 1 < W.heap.size := (HK.out.row _ (.head _)).lt
      clear hHeld
      refine hK.out _ _ ?_ (fun hHeld => ?_)
      · (try dsimp only); exact HF1.out _ HK2.out
      (try simp only [List.setIfInBounds_toArray, List.set_cons_zero, List.set_cons_succ])
      exact HXI.out _ _ _ _ (LS0_01 _ _ _ HK2.out nB (Blk.alloc bpt _) nG gpt (Nat.ne_of_gt (Blk.lt bpt)))
  have LS1_ : ∀ (W : World), Kq w W [(B + 1, 22, [.int .i64 z0, .int .i64 z1, .int .i64 z2]), (B, 22, [.int .i64 x0, .int .i64 x1, .int .i64 x2])] → X 5 #[true, true, true, false, false, false, false, false] { tmps := #[.agg #[.int .i64 x0, .int .i64 x1, .int .i64 x2], .agg #[.int .i64 z0, .int .i64 z1, .int .i64 z2], .int .u8 m, .pointer (some ⟨B, 0, none⟩), .pointer (some ⟨B + 1, 0, none⟩), undef, .bool false, .bool true, undef, undef, .bool true, .agg #[.int .i64 x0, .int .i64 x1, .int .i64 x2], Rv sa na da, .agg #[.int .i64 z0, .int .i64 z1, .int .i64 z2], undef, undef, undef, undef, undef, undef, undef, undef, undef, undef, undef, undef, undef, undef, undef, undef, undef, undef, undef, undef, undef, undef, undef, undef, undef, undef, undef], defers := [] } W := by
    intro  W hK0 
    have HK := Lib.hid hK0
    clear hK0
    have hHeld := HF1.out _ HK.out
    refine HXO.out _ _ _ _ ?_
    refine wpAnyH_ready (rs := [3, 4, 5]) (by kernel_rfl) (by simp) ?_
    refine AllReadyH.cons (at_list rfl) (fun K hK => ?_) (AllReadyH.cons (at_list rfl) (fun K hK => ?_) (AllReadyH.cons (at_list rfl) (fun K hK => ?_) (AllReadyH.nil)))
    · go_simp
      go_at_call 13
      with_reducible refine (H2.out _ (HT.out.ch HK.out.ch)).mono ?_
      rintro e wq ⟨rfl, hCq⟩
      have HK2 := Lib.hid (HK.out.on hCq)
      clear hHeld
      first | (refine hK.out _ _ ?_ (fun hHeld => ?_)) | (go_wp2_with fail; refine hK.out _ _ ?_ (fun hHeld => ?_))
      · (try dsimp only); exact HF1.out _ HK2.out
      (try simp only [List.setIfInBounds_toArray, List.set_cons_zero, List.set_cons_succ])
      exact HXI.out _ _ _ _ (LS2_ _ HK2.out)
    · go_simp
      have HK2 := Lib.hid (HK.out.other (.cells #[.bool false, S [], S []] 26 (0, 0)))
      have nB := Blk.new W #[.bool false, S [], S []] 26
      have nG : B + 1 < W.heap.size := (HK.out.row _ (.head _)).lt
      clear hHeld
      refine hK.out _ _ ?_ (fun hHeld => ?_)
      · (try dsimp only); exact HF1.out _ HK2.out
      (try simp only [List.setIfInBounds_toArray, List.set_cons_zero, List.set_cons_succ])
      exact HXI.out _ _ _ _ (LS1_0 _ _ HK2.out nB nG)
    · go_simp
      have HK2 := Lib.hid (HK.out.other (.cells #[.bool false, S [], S []] 26 (0, 0)))
      have nB := Blk.new W #[.bool false, S [], S []] 26
      have nG : B + 1 < W.heap.size := (HK.out.row _ (.head _)).lt
      clear hHeld
      refine hK.out _ _ ?_ (fun hHeld => ?_)
      · (try dsimp only); exact HF1.out _ HK2.out
      (try simp only [List.setIfInBounds_toArray, List.set_cons_zero, List.set_cons_succ])
      exact HXI.out _ _ _ _ (LS1_1 _ _ HK2.out nB nG)
  have LS0_ : ∀ (W : World), Kq w W [(B + 1, 22, [.int .i64 z0, .int .i64 z1, .int .i64 z2]), (B, 22, [.int .i64 x0, .int .i64 x1, .int .i64 x2])] → X 6 #[true, false, true, false, false, false, false, false] { tmps := #[.agg #[.int .i64 x0, .int .i64 x1, .int .i64 x2], .agg #[.int .i64 z0, .int .i64 z1, .int .i64 z2], .int .u8 m, .pointer (some ⟨B, 0, none⟩), .pointer (some ⟨B + 1, 0, none⟩), undef, .bool false, .bool true, undef, undef, .bool true, .agg #[.int .i64 x0, .int .i64 x1, .int .i64 x2], undef, .agg #[.int .i64 z0, .int .i64 z1, .int .i64 z2], undef, undef, undef, undef, undef, undef, undef, undef, undef, undef, undef, undef, undef, undef, undef, undef, undef, undef, undef, undef, undef, undef, undef, undef, undef, undef, undef], defers := [] } W := by
    intro  W hK0 
    have HK := Lib.hid hK0
    clear hK0
    have hHeld := HF1.out _ HK.out
    refine HXO.out _ _ _ _ ?_
    refine wpAnyH_ready (rs := [1, 4, 5]) (by kernel_rfl) (by simp) ?_
    refine AllReadyH.cons (at_list rfl) (fun K hK => ?_) (AllReadyH.cons (at_list rfl) (fun K hK => ?_) (AllReadyH.cons (at_list rfl) (fun K hK => ?_) (AllReadyH.nil)))
    · go_simp
      go_at_call 12
      with_reducible refine (H1.out _).mono ?_
      rintro e wq ⟨rfl, hCq⟩
      have HK2 := Lib.hid (HK.out.on hCq)
      clear hHeld
      first | (refine hK.out _ _ ?_ (fun hHeld => ?_)) | (go_wp2_with fail; refine hK.out _ _ ?_ (fun hHeld => ?_))
      · (try dsimp only); exact HF1.out _ HK2.out
      (try simp only [List.setIfInBounds_toArray, List.set_cons_zero, List.set_cons_succ])
      exact HXI.out _ _ _ _ (LS1_ _ HK2.out)
    · go_simp
      have HK2 := Lib.hid (HK.out.other (.cells #[.bool false, S [], S []] 26 (0, 0)))
      have nB := Blk.new W #[.bool false, S [], S []] 26
      have nG : B + 1 < W.heap.size := (HK.out.row _ (.head _)).lt
      clear hHeld
      refine hK.out _ _ ?_ (fun hHeld => ?_)
      · (try dsimp only); exact HF1.out _ HK2.out
      (try simp only [List.setIfInBounds_toArray, List.set_cons_zero, List.set_cons_succ])
      exact HXI.out _ _ _ _ (LS0_0 _ _ HK2.out nB nG)
    · go_simp
      have HK2 := Lib.hid (HK.out.other (.cells #[.bool false, S [], S []] 26 (0, 0)))
      have nB := Blk.new W #[.bool false, S [], S []] 26
      have nG : B + 1 < W.heap.size := (HK.out.row _ (.head _)).lt
      clear hHeld
      refine hK.out _ _ ?_ (fun hHeld => ?_)
      · (try dsimp only); exact HF1.out _ HK2.out
      (try simp only [List.setIfInBounds_toArray, List.set_cons_zero, List.set_cons_succ])
      exact HXI.out _ _ _ _ (LS0_1 _ _ HK2.out nB nG)
  exact LS0_ _ HK0.out
end Go.Proofs.YtnblmmhpndnjcaaGreatDoor
