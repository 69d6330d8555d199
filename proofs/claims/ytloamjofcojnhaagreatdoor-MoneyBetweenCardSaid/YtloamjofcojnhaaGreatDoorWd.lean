/- MoneyBetween: the walks. -/
import Derived.Test.YtloamjofcojnhaaGreatDoorAz
namespace Go.Proofs.YtloamjofcojnhaaGreatDoor
open Go.RowKit
set_option maxRecDepth 100000 in
set_option maxHeartbeats 12800000 in
theorem between_walk {x0 x1 x2 z0 z1 z2 : Int} {sa st sd su sg qd qu qg : Bool} {na da nt dt nd dd nu du ne de nf df ng dg kd ku kg : List UInt8} {c1 c2 c3 : Int} (w : World) (ht : Tm w) (hc1 : decide (0 ≤ c1) = false) (hc2 : decide (0 ≤ c2) = false) (hcs : (decide (c3 < 0) = true ∧ sg = sd ∧ ng = nd ∧ dg = dd) ∨ (decide (c3 < 0) = false ∧ sg = su ∧ ng = nu ∧ dg = du))
    (hH0 : AnsM 11 #[] (.bool true)) (hH1 : Ans 12 #[.agg #[.int .i64 x0, .int .i64 x1, .int .i64 x2]] (Rv sa na da)) (hH2 : AnsM 13 #[.agg #[.int .i64 z0, .int .i64 z1, .int .i64 z2]] (Rv st nt dt)) (hH3 : AnsM 23 #[Rv sa na da, Rv st nt dt] (.tuple #[Rv sd nd dd, .bool true])) (hH4 : AnsM 24 #[Rv sa na da, Rv st nt dt] (.tuple #[Rv su nu du, .bool true])) (hH5 : AnsM 25 #[Rv sa na da, Rv st nt dt] (.tuple #[Rv sg ng dg, .bool true])) (hQd : Ans 26 #[Rv sd nd dd, Rv st nt dt] (.tuple #[Rv qd kd [1], .bool true])) (hEd : AnsM 23 #[Rv sd nd dd, Rv st nt dt] (.tuple #[Rv sd nd dd, .bool true])) (hUd : AnsM 24 #[Rv sd nd dd, Rv st nt dt] (.tuple #[Rv sd nd dd, .bool true])) (hQu : Ans 26 #[Rv su nu du, Rv st nt dt] (.tuple #[Rv qu ku [1], .bool true])) (hEu : AnsM 23 #[Rv su nu du, Rv st nt dt] (.tuple #[Rv su nu du, .bool true])) (hUu : AnsM 24 #[Rv su nu du, Rv st nt dt] (.tuple #[Rv su nu du, .bool true])) (hQg : Ans 26 #[Rv sg ng dg, Rv st nt dt] (.tuple #[Rv qg kg [1], .bool true])) (hEg : AnsM 23 #[Rv sg ng dg, Rv st nt dt] (.tuple #[Rv sg ng dg, .bool true])) (hUg : AnsM 24 #[Rv sg ng dg, Rv st nt dt] (.tuple #[Rv sg ng dg, .bool true])) (hH6 : Ans 27 #[Rv sa na da, Rv sd nd dd] (Rv false ne de)) (hH7 : Ans 27 #[Rv su nu du, Rv sa na da] (Rv false nf df)) (hH8 : Ans 28 #[Rv false ne de, Rv st nt dt] (.int .i64 c1)) (hH9 : Ans 28 #[Rv false nf df, Rv st nt dt] (.int .i64 c2)) (hH10 : Ans 28 #[Rv false ne de, Rv false nf df] (.int .i64 c3)) :
    Calls Tryz.prog 5 #[.agg #[.int .i64 x0, .int .i64 x1, .int .i64 x2], .agg #[.int .i64 z0, .int .i64 z1, .int .i64 z2]] w (Yld w (.bool true)) := by
  have H0 := Lib.hid hH0
  have H1 := Lib.hid hH1
  have H2 := Lib.hid hH2
  have H3 := Lib.hid hH3
  have H4 := Lib.hid hH4
  have H5 := Lib.hid hH5
  have Qd := Lib.hid hQd
  have Ed := Lib.hid hEd
  have Ud := Lib.hid hUd
  have Qu := Lib.hid hQu
  have Eu := Lib.hid hEu
  have Uu := Lib.hid hUu
  have Qg := Lib.hid hQg
  have Eg := Lib.hid hEg
  have Ug := Lib.hid hUg
  have H6 := Lib.hid hH6
  have H7 := Lib.hid hH7
  have H8 := Lib.hid hH8
  have H9 := Lib.hid hH9
  have H10 := Lib.hid hH10
  have HT := Lib.hid ht
  clear ht hH0 hH1 hH2 hH3 hH4 hH5 hQd hEd hUd hQu hEu hUu hQg hEg hUg hH6 hH7 hH8 hH9 hH10
  have HK := Lib.hid (((Kq.nil w).new #[.int .i64 x0, .int .i64 x1, .int .i64 x2] 22).new #[.int .i64 z0, .int .i64 z1, .int .i64 z2] 22)
  rw [World.size_alloc] at HK
  obtain ⟨B, hB⟩ : ∃ B, w.heap.size = B := ⟨_, rfl⟩
  rw [hB] at HK
  have HBB := Lib.hid hB
  have HF1 := Lib.hid (show ∀ W, Kq w W [(B + 1, 22, [.int .i64 z0, .int .i64 z1, .int .i64 z2]), (B, 22, [.int .i64 x0, .int .i64 x1, .int .i64 x2])] → W.cell? ⟨B + 1, 0, none⟩ = some (.int .i64 z0) ∧ W.cell? ⟨B + 1, 1, none⟩ = some (.int .i64 z1) ∧ W.cell? ⟨B + 1, 2, none⟩ = some (.int .i64 z2) ∧ W.cell? ⟨B, 0, none⟩ = some (.int .i64 x0) ∧ W.cell? ⟨B, 1, none⟩ = some (.int .i64 x1) ∧ W.cell? ⟨B, 2, none⟩ = some (.int .i64 x2) from fun W h => ⟨(h.row _ (.head _)).cell 0, (h.row _ (.head _)).cell 1, (h.row _ (.head _)).cell 2, (h.row _ (.tail _ (.head _))).cell 0, (h.row _ (.tail _ (.head _))).cell 1, (h.row _ (.tail _ (.head _))).cell 2⟩)
  obtain ⟨cc0, cc1, cc2, cc3, cc4, cc5⟩ := HF1.out _ HK.out
  go_enter Tryz.func5, Tryz.ntmps5
  go_wp2_with fail
  refine (H0.out _ (HT.out.ch HK.out.ch)).mono ?_
  rintro e w1 ⟨rfl, hC⟩
  have HK2 := Lib.hid (HK.out.on hC)
  clear cc0 cc1 cc2 cc3 cc4 cc5
  clear hC HK
  have HK := HK2
  clear HK2
  obtain ⟨cc0, cc1, cc2, cc3, cc4, cc5⟩ := HF1.out _ HK.out
  go_wp2_with fail
  clear cc0 cc1 cc2 cc3 cc4 cc5
  have HKD := Lib.hid HK.out.drew
  clear HK
  have HK := HKD
  clear HKD
  refine wp_region_held_drew (S := fun w' => w'.cell? ⟨B + 1, 0, none⟩ = some (.int .i64 z0) ∧ w'.cell? ⟨B + 1, 1, none⟩ = some (.int .i64 z1) ∧ w'.cell? ⟨B + 1, 2, none⟩ = some (.int .i64 z2) ∧ w'.cell? ⟨B, 0, none⟩ = some (.int .i64 x0) ∧ w'.cell? ⟨B, 1, none⟩ = some (.int .i64 x1) ∧ w'.cell? ⟨B, 2, none⟩ = some (.int .i64 x2)) (by kernel_rfl) ?_ (fun hHeld => ?_)
  · (try dsimp only); exact HF1.out _ HK.out
  refine tk 0 (v := ?_) hHeld ?_ ?_
  rotate_left 1
  · intro _ hw; (try dsimp only at hw); go_simp; try with_reducible rfl
  (try simp only [Act.put, List.setIfInBounds_toArray, List.set_cons_zero, List.set_cons_succ])
  refine tk 2 (v := ?_) hHeld ?_ ?_
  rotate_left 1
  · intro _ hw; (try dsimp only at hw); go_simp; try with_reducible rfl
  (try simp only [Act.put, List.setIfInBounds_toArray, List.set_cons_zero, List.set_cons_succ])
  generalize hX : @wpAnyH _ _ _ _ _ = X
  have hXi : ∀ f l a W, X f l a W → wpAnyH _ _ _ _ _ f l a W := fun f l a W h => by rw [hX]; exact h
  have hXo : ∀ f l a W, wpAnyH _ _ _ _ _ f l a W → X f l a W := fun f l a W h => by rw [← hX]; exact h
  have HXI := Lib.hid hXi
  have HXO := Lib.hid hXo
  clear hXi hXo hX hHeld
  have HK0 := HK
  clear HK
  have LS2_01 : ∀ (pa pt : Nat) (W : World), Kq w W [(B + 1, 22, [.int .i64 z0, .int .i64 z1, .int .i64 z2]), (B, 22, [.int .i64 x0, .int .i64 x1, .int .i64 x2])] → Blk W pa 26 [.bool false, S [], S []] → Blk W pt 26 [.bool false, S [], S []] → B + 1 < pa → B + 1 < pt → pa ≠ pt → X 2 #[true, true, true, true, true, true, false, false] { tmps := #[.agg #[.int .i64 x0, .int .i64 x1, .int .i64 x2], .agg #[.int .i64 z0, .int .i64 z1, .int .i64 z2], .pointer (some ⟨B, 0, none⟩), .pointer (some ⟨B + 1, 0, none⟩), .bool false, .bool true, .pointer (some ⟨pa, 0, none⟩), .pointer (some ⟨pt, 0, none⟩), undef, undef, undef, undef, undef, undef, undef, undef, undef, undef, undef, undef, undef, undef, undef, undef, .bool true, .agg #[.int .i64 x0, .int .i64 x1, .int .i64 x2], Rv sa na da, .agg #[.int .i64 z0, .int .i64 z1, .int .i64 z2], Rv st nt dt, undef, undef, undef, undef, undef, undef, undef, undef, undef, undef, undef, undef, undef, undef, undef, undef, undef, undef, undef, undef, undef, undef, undef, undef, undef, undef, undef, undef, undef, undef, undef, undef, undef, undef, undef, undef, undef, undef, undef, undef, undef, undef, undef, undef, undef, undef, undef, undef, undef, undef, undef, undef, undef, undef, undef, undef, undef, undef, undef, undef, undef, undef, undef, undef, undef, undef, undef, undef, undef, undef, undef, undef, undef, undef, undef, undef, undef, undef, undef, undef, undef, undef, undef, undef, undef, undef, undef, undef, undef, undef, undef, undef, undef, undef, undef, undef, undef, undef, undef, undef, undef, undef, undef, undef, undef, undef, undef, undef, undef, undef, undef, undef, undef, undef, undef, undef, undef, undef, undef, undef, undef], defers := [] } W := by
    intro pa pt W hK0 bpa bpt gpa gpt dpapt
    have HK := Lib.hid hK0
    clear hK0
    have hHeld := HF1.out _ HK.out
    refine HXO.out _ _ _ _ ?_
    have HK2 := Lib.hid ((HK.out.add bpt).add bpa)
    clear HK
    have HK := HK2
    clear HK2
    clear bpa bpt
    have e0 := (HK.out.row _ (.head _)).cell 0
    have f0 := (HK.out.row _ (.head _)).frozen 0
    have e1 := (HK.out.row _ (.head _)).cell 1
    have f1 := (HK.out.row _ (.head _)).frozen 1
    have e2 := (HK.out.row _ (.head _)).cell 2
    have f2 := (HK.out.row _ (.head _)).frozen 2
    simp only [List.getElem?_cons_zero, List.getElem?_cons_succ] at e0 e1 e2
    refine wpAnyH_ready (rs := [6]) (by kernel_rfl) (by simp) ?_
    refine AllReadyH.cons (at_list rfl) (fun K hK => ?_) AllReadyH.nil
    go_simp
    clear hHeld e0 e1 e2 f0 f1 f2
    have HKp := Lib.hid (Kq.sub (l' := [(pa, 26, [.bool false, S [], S []]), (pt, 26, [.bool false, S [], S []]), (B + 1, 22, [.int .i64 z0, .int .i64 z1, .int .i64 z2]), (B, 22, [.int .i64 x0, .int .i64 x1, .int .i64 x2])]) HK.out (by intro p hp; simp only [List.mem_cons, List.not_mem_nil, or_false] at hp ⊢; rcases hp with rfl | rfl | rfl | rfl <;> simp))
    have HKq := Lib.hid (HKp.out.put3 (by have := HBB.out; omega) (by intro p hp; simp only [List.mem_cons, List.not_mem_nil, or_false] at hp; rcases hp with rfl | rfl | rfl <;> (simp only; omega)) (.bool sa) (S na) (S da))
    have HK2 := Lib.hid (Kq.sub (l' := [(pa, 26, [.bool sa, S na, S da]), (pt, 26, [.bool false, S [], S []]), (B + 1, 22, [.int .i64 z0, .int .i64 z1, .int .i64 z2]), (B, 22, [.int .i64 x0, .int .i64 x1, .int .i64 x2])]) HKq.out (by intro p hp; simp only [List.mem_cons, List.not_mem_nil, or_false] at hp ⊢; rcases hp with rfl | rfl | rfl | rfl <;> simp))
    refine hK.out _ _ ?_ (fun hHeld => ?_)
    · (try dsimp only); exact HF1.out _ (Kq.sub HK2.out (by intro p hp; simp only [List.mem_cons, List.not_mem_nil, or_false] at hp ⊢; rcases hp with rfl | rfl <;> simp))
    clear hK K HK HKp HKq
    have HK := HK2
    clear HK2
    (try simp only [List.setIfInBounds_toArray, List.set_cons_zero, List.set_cons_succ])
    have e0 := (HK.out.row _ (.tail _ (.head _))).cell 0
    have f0 := (HK.out.row _ (.tail _ (.head _))).frozen 0
    have e1 := (HK.out.row _ (.tail _ (.head _))).cell 1
    have f1 := (HK.out.row _ (.tail _ (.head _))).frozen 1
    have e2 := (HK.out.row _ (.tail _ (.head _))).cell 2
    have f2 := (HK.out.row _ (.tail _ (.head _))).frozen 2
    simp only [List.getElem?_cons_zero, List.getElem?_cons_succ] at e0 e1 e2
    refine wpAnyH_ready (rs := [7]) (by kernel_rfl) (by simp) ?_
    refine AllReadyH.cons (at_list rfl) (fun K hK => ?_) AllReadyH.nil
    go_simp
    clear hHeld e0 e1 e2 f0 f1 f2
    have HKp := Lib.hid (Kq.sub (l' := [(pt, 26, [.bool false, S [], S []]), (pa, 26, [.bool sa, S na, S da]), (B + 1, 22, [.int .i64 z0, .int .i64 z1, .int .i64 z2]), (B, 22, [.int .i64 x0, .int .i64 x1, .int .i64 x2])]) HK.out (by intro p hp; simp only [List.mem_cons, List.not_mem_nil, or_false] at hp ⊢; rcases hp with rfl | rfl | rfl | rfl <;> simp))
    have HKq := Lib.hid (HKp.out.put3 (by have := HBB.out; omega) (by intro p hp; simp only [List.mem_cons, List.not_mem_nil, or_false] at hp; rcases hp with rfl | rfl | rfl <;> (simp only; omega)) (.bool st) (S nt) (S dt))
    have HK2 := Lib.hid (Kq.sub (l' := [(pa, 26, [.bool sa, S na, S da]), (pt, 26, [.bool st, S nt, S dt]), (B + 1, 22, [.int .i64 z0, .int .i64 z1, .int .i64 z2]), (B, 22, [.int .i64 x0, .int .i64 x1, .int .i64 x2])]) HKq.out (by intro p hp; simp only [List.mem_cons, List.not_mem_nil, or_false] at hp ⊢; rcases hp with rfl | rfl | rfl | rfl <;> simp))
    refine hK.out _ _ ?_ (fun hHeld => ?_)
    · (try dsimp only); exact HF1.out _ (Kq.sub HK2.out (by intro p hp; simp only [List.mem_cons, List.not_mem_nil, or_false] at hp ⊢; rcases hp with rfl | rfl <;> simp))
    clear hK K HK HKp HKq
    have HK := HK2
    clear HK2
    (try simp only [List.setIfInBounds_toArray, List.set_cons_zero, List.set_cons_succ])
    refine wpAnyH_done (by kernel_rfl) ?_ _
    clear hHeld
    have HK2 := Lib.hid (Kq.sub (l' := [(pa, 26, [.bool sa, S na, S da]), (pt, 26, [.bool st, S nt, S dt])]) HK.out (by intro p hp; simp only [List.mem_cons, List.not_mem_nil, or_false] at hp ⊢; rcases hp with rfl | rfl <;> simp))
    clear HK
    have HK := HK2
    clear HK2
    have HF52 := Lib.hid (show ∀ W, Kq w W [(pa, 26, [.bool sa, S na, S da]), (pt, 26, [.bool st, S nt, S dt])] → W.cell? ⟨pa, 0, none⟩ = some (.bool sa) ∧ W.cell? ⟨pa, 1, none⟩ = some (S na) ∧ W.cell? ⟨pa, 2, none⟩ = some (S da) ∧ W.cell? ⟨pt, 0, none⟩ = some (.bool st) ∧ W.cell? ⟨pt, 1, none⟩ = some (S nt) ∧ W.cell? ⟨pt, 2, none⟩ = some (S dt) from fun W h => ⟨(h.row _ (.head _)).cell 0, (h.row _ (.head _)).cell 1, (h.row _ (.head _)).cell 2, (h.row _ (.tail _ (.head _))).cell 0, (h.row _ (.tail _ (.head _))).cell 1, (h.row _ (.tail _ (.head _))).cell 2⟩)
    obtain ⟨cc0, cc1, cc2, cc3, cc4, cc5⟩ := HF52.out _ HK.out
    go_wp2_with fail
    refine (H3.out _ (HT.out.ch HK.out.ch)).mono ?_
    rintro e w52 ⟨rfl, hC⟩
    have HK2 := Lib.hid (HK.out.on hC)
    clear cc0 cc1 cc2 cc3 cc4 cc5
    clear hC HK
    have HK := HK2
    clear HK2
    obtain ⟨cc0, cc1, cc2, cc3, cc4, cc5⟩ := HF52.out _ HK.out
    obtain ⟨dd0, dd1, dd2, dd3, dd4, dd5⟩ : (∀ o : Obj, (w52.alloc o).cell? ⟨pa, 0, none⟩ = some (.bool sa)) ∧ (∀ o : Obj, (w52.alloc o).cell? ⟨pa, 1, none⟩ = some (S na)) ∧ (∀ o : Obj, (w52.alloc o).cell? ⟨pa, 2, none⟩ = some (S da)) ∧ (∀ o : Obj, (w52.alloc o).cell? ⟨pt, 0, none⟩ = some (.bool st)) ∧ (∀ o : Obj, (w52.alloc o).cell? ⟨pt, 1, none⟩ = some (S nt)) ∧ (∀ o : Obj, (w52.alloc o).cell? ⟨pt, 2, none⟩ = some (S dt)) := by
      have hall := fun o : Obj => HF52.out _ (HK.out.other o)
      exact ⟨fun o => (hall o).1, fun o => (hall o).2.1, fun o => (hall o).2.2.1, fun o => (hall o).2.2.2.1, fun o => (hall o).2.2.2.2.1, fun o => (hall o).2.2.2.2.2⟩
    go_wp2_with fail
    clear cc0 cc1 cc2 cc3 cc4 cc5 dd0 dd1 dd2 dd3 dd4 dd5
    have HK2 := Lib.hid (HK.out.new #[.bool sd, S nd, S dd] 26)
    obtain ⟨w53, hW⟩ : ∃ W, w52.alloc (.cells #[.bool sd, S nd, S dd] 26 (0, 0)) = W := ⟨_, rfl⟩
    rw [hW] at HK2 ⊢
    obtain ⟨Rd, hA⟩ : ∃ A, w52.heap.size = A := ⟨_, rfl⟩
    rw [hA] at HK2 ⊢
    clear hA hW HK
    have HK := HK2
    clear HK2
    have HF53 := Lib.hid (show ∀ W, Kq w W [(Rd, 26, [.bool sd, S nd, S dd]), (pa, 26, [.bool sa, S na, S da]), (pt, 26, [.bool st, S nt, S dt])] → W.cell? ⟨Rd, 0, none⟩ = some (.bool sd) ∧ W.cell? ⟨Rd, 1, none⟩ = some (S nd) ∧ W.cell? ⟨Rd, 2, none⟩ = some (S dd) ∧ W.cell? ⟨pa, 0, none⟩ = some (.bool sa) ∧ W.cell? ⟨pa, 1, none⟩ = some (S na) ∧ W.cell? ⟨pa, 2, none⟩ = some (S da) ∧ W.cell? ⟨pt, 0, none⟩ = some (.bool st) ∧ W.cell? ⟨pt, 1, none⟩ = some (S nt) ∧ W.cell? ⟨pt, 2, none⟩ = some (S dt) from fun W h => ⟨(h.row _ (.head _)).cell 0, (h.row _ (.head _)).cell 1, (h.row _ (.head _)).cell 2, (h.row _ (.tail _ (.head _))).cell 0, (h.row _ (.tail _ (.head _))).cell 1, (h.row _ (.tail _ (.head _))).cell 2, (h.row _ (.tail _ (.tail _ (.head _)))).cell 0, (h.row _ (.tail _ (.tail _ (.head _)))).cell 1, (h.row _ (.tail _ (.tail _ (.head _)))).cell 2⟩)
    obtain ⟨cc0, cc1, cc2, cc3, cc4, cc5, cc6, cc7, cc8⟩ := HF53.out _ HK.out
    refine (H4.out _ (HT.out.ch HK.out.ch)).mono ?_
    rintro e w54 ⟨rfl, hC⟩
    have HK2 := Lib.hid (HK.out.on hC)
    clear cc0 cc1 cc2 cc3 cc4 cc5 cc6 cc7 cc8
    clear hC HK
    have HK := HK2
    clear HK2
    obtain ⟨cc0, cc1, cc2, cc3, cc4, cc5, cc6, cc7, cc8⟩ := HF53.out _ HK.out
    obtain ⟨dd0, dd1, dd2, dd3, dd4, dd5, dd6, dd7, dd8⟩ : (∀ o : Obj, (w54.alloc o).cell? ⟨Rd, 0, none⟩ = some (.bool sd)) ∧ (∀ o : Obj, (w54.alloc o).cell? ⟨Rd, 1, none⟩ = some (S nd)) ∧ (∀ o : Obj, (w54.alloc o).cell? ⟨Rd, 2, none⟩ = some (S dd)) ∧ (∀ o : Obj, (w54.alloc o).cell? ⟨pa, 0, none⟩ = some (.bool sa)) ∧ (∀ o : Obj, (w54.alloc o).cell? ⟨pa, 1, none⟩ = some (S na)) ∧ (∀ o : Obj, (w54.alloc o).cell? ⟨pa, 2, none⟩ = some (S da)) ∧ (∀ o : Obj, (w54.alloc o).cell? ⟨pt, 0, none⟩ = some (.bool st)) ∧ (∀ o : Obj, (w54.alloc o).cell? ⟨pt, 1, none⟩ = some (S nt)) ∧ (∀ o : Obj, (w54.alloc o).cell? ⟨pt, 2, none⟩ = some (S dt)) := by
      have hall := fun o : Obj => HF53.out _ (HK.out.other o)
      exact ⟨fun o => (hall o).1, fun o => (hall o).2.1, fun o => (hall o).2.2.1, fun o => (hall o).2.2.2.1, fun o => (hall o).2.2.2.2.1, fun o => (hall o).2.2.2.2.2.1, fun o => (hall o).2.2.2.2.2.2.1, fun o => (hall o).2.2.2.2.2.2.2.1, fun o => (hall o).2.2.2.2.2.2.2.2⟩
    go_wp2_with fail
    clear cc0 cc1 cc2 cc3 cc4 cc5 cc6 cc7 cc8 dd0 dd1 dd2 dd3 dd4 dd5 dd6 dd7 dd8
    have HK2 := Lib.hid (HK.out.new #[.bool su, S nu, S du] 26)
    obtain ⟨w55, hW⟩ : ∃ W, w54.alloc (.cells #[.bool su, S nu, S du] 26 (0, 0)) = W := ⟨_, rfl⟩
    rw [hW] at HK2 ⊢
    obtain ⟨Ru, hA⟩ : ∃ A, w54.heap.size = A := ⟨_, rfl⟩
    rw [hA] at HK2 ⊢
    clear hA hW HK
    have HK := HK2
    clear HK2
    have HF54 := Lib.hid (show ∀ W, Kq w W [(Ru, 26, [.bool su, S nu, S du]), (Rd, 26, [.bool sd, S nd, S dd]), (pa, 26, [.bool sa, S na, S da]), (pt, 26, [.bool st, S nt, S dt])] → W.cell? ⟨Ru, 0, none⟩ = some (.bool su) ∧ W.cell? ⟨Ru, 1, none⟩ = some (S nu) ∧ W.cell? ⟨Ru, 2, none⟩ = some (S du) ∧ W.cell? ⟨Rd, 0, none⟩ = some (.bool sd) ∧ W.cell? ⟨Rd, 1, none⟩ = some (S nd) ∧ W.cell? ⟨Rd, 2, none⟩ = some (S dd) ∧ W.cell? ⟨pa, 0, none⟩ = some (.bool sa) ∧ W.cell? ⟨pa, 1, none⟩ = some (S na) ∧ W.cell? ⟨pa, 2, none⟩ = some (S da) ∧ W.cell? ⟨pt, 0, none⟩ = some (.bool st) ∧ W.cell? ⟨pt, 1, none⟩ = some (S nt) ∧ W.cell? ⟨pt, 2, none⟩ = some (S dt) from fun W h => ⟨(h.row _ (.head _)).cell 0, (h.row _ (.head _)).cell 1, (h.row _ (.head _)).cell 2, (h.row _ (.tail _ (.head _))).cell 0, (h.row _ (.tail _ (.head _))).cell 1, (h.row _ (.tail _ (.head _))).cell 2, (h.row _ (.tail _ (.tail _ (.head _)))).cell 0, (h.row _ (.tail _ (.tail _ (.head _)))).cell 1, (h.row _ (.tail _ (.tail _ (.head _)))).cell 2, (h.row _ (.tail _ (.tail _ (.tail _ (.head _))))).cell 0, (h.row _ (.tail _ (.tail _ (.tail _ (.head _))))).cell 1, (h.row _ (.tail _ (.tail _ (.tail _ (.head _))))).cell 2⟩)
    obtain ⟨cc0, cc1, cc2, cc3, cc4, cc5, cc6, cc7, cc8, cc9, cc10, cc11⟩ := HF54.out _ HK.out
    refine (H5.out _ (HT.out.ch HK.out.ch)).mono ?_
    rintro e w56 ⟨rfl, hC⟩
    have HK2 := Lib.hid (HK.out.on hC)
    clear cc0 cc1 cc2 cc3 cc4 cc5 cc6 cc7 cc8 cc9 cc10 cc11
    clear hC HK
    have HK := HK2
    clear HK2
    obtain ⟨cc0, cc1, cc2, cc3, cc4, cc5, cc6, cc7, cc8, cc9, cc10, cc11⟩ := HF54.out _ HK.out
    obtain ⟨dd0, dd1, dd2, dd3, dd4, dd5, dd6, dd7, dd8, dd9, dd10, dd11⟩ : (∀ o : Obj, (w56.alloc o).cell? ⟨Ru, 0, none⟩ = some (.bool su)) ∧ (∀ o : Obj, (w56.alloc o).cell? ⟨Ru, 1, none⟩ = some (S nu)) ∧ (∀ o : Obj, (w56.alloc o).cell? ⟨Ru, 2, none⟩ = some (S du)) ∧ (∀ o : Obj, (w56.alloc o).cell? ⟨Rd, 0, none⟩ = some (.bool sd)) ∧ (∀ o : Obj, (w56.alloc o).cell? ⟨Rd, 1, none⟩ = some (S nd)) ∧ (∀ o : Obj, (w56.alloc o).cell? ⟨Rd, 2, none⟩ = some (S dd)) ∧ (∀ o : Obj, (w56.alloc o).cell? ⟨pa, 0, none⟩ = some (.bool sa)) ∧ (∀ o : Obj, (w56.alloc o).cell? ⟨pa, 1, none⟩ = some (S na)) ∧ (∀ o : Obj, (w56.alloc o).cell? ⟨pa, 2, none⟩ = some (S da)) ∧ (∀ o : Obj, (w56.alloc o).cell? ⟨pt, 0, none⟩ = some (.bool st)) ∧ (∀ o : Obj, (w56.alloc o).cell? ⟨pt, 1, none⟩ = some (S nt)) ∧ (∀ o : Obj, (w56.alloc o).cell? ⟨pt, 2, none⟩ = some (S dt)) := by
      have hall := fun o : Obj => HF54.out _ (HK.out.other o)
      exact ⟨fun o => (hall o).1, fun o => (hall o).2.1, fun o => (hall o).2.2.1, fun o => (hall o).2.2.2.1, fun o => (hall o).2.2.2.2.1, fun o => (hall o).2.2.2.2.2.1, fun o => (hall o).2.2.2.2.2.2.1, fun o => (hall o).2.2.2.2.2.2.2.1, fun o => (hall o).2.2.2.2.2.2.2.2.1, fun o => (hall o).2.2.2.2.2.2.2.2.2.1, fun o => (hall o).2.2.2.2.2.2.2.2.2.2.1, fun o => (hall o).2.2.2.2.2.2.2.2.2.2.2⟩
    go_wp2_with fail
    clear cc0 cc1 cc2 cc3 cc4 cc5 cc6 cc7 cc8 cc9 cc10 cc11 dd0 dd1 dd2 dd3 dd4 dd5 dd6 dd7 dd8 dd9 dd10 dd11
    have HK2 := Lib.hid (HK.out.new #[.bool sg, S ng, S dg] 26)
    obtain ⟨w57, hW⟩ : ∃ W, w56.alloc (.cells #[.bool sg, S ng, S dg] 26 (0, 0)) = W := ⟨_, rfl⟩
    rw [hW] at HK2 ⊢
    obtain ⟨Rg, hA⟩ : ∃ A, w56.heap.size = A := ⟨_, rfl⟩
    rw [hA] at HK2 ⊢
    have hsz : w57.heap.size = Rg + 1 := by rw [← hW, World.size_alloc, hA]
    clear hA hW HK
    have HK := HK2
    clear HK2
    have HF55 := Lib.hid (show ∀ W, Kq w W [(Rg, 26, [.bool sg, S ng, S dg]), (Ru, 26, [.bool su, S nu, S du]), (Rd, 26, [.bool sd, S nd, S dd]), (pa, 26, [.bool sa, S na, S da]), (pt, 26, [.bool st, S nt, S dt])] → W.cell? ⟨Rg, 0, none⟩ = some (.bool sg) ∧ W.cell? ⟨Rg, 1, none⟩ = some (S ng) ∧ W.cell? ⟨Rg, 2, none⟩ = some (S dg) ∧ W.cell? ⟨Ru, 0, none⟩ = some (.bool su) ∧ W.cell? ⟨Ru, 1, none⟩ = some (S nu) ∧ W.cell? ⟨Ru, 2, none⟩ = some (S du) ∧ W.cell? ⟨Rd, 0, none⟩ = some (.bool sd) ∧ W.cell? ⟨Rd, 1, none⟩ = some (S nd) ∧ W.cell? ⟨Rd, 2, none⟩ = some (S dd) ∧ W.cell? ⟨pa, 0, none⟩ = some (.bool sa) ∧ W.cell? ⟨pa, 1, none⟩ = some (S na) ∧ W.cell? ⟨pa, 2, none⟩ = some (S da) ∧ W.cell? ⟨pt, 0, none⟩ = some (.bool st) ∧ W.cell? ⟨pt, 1, none⟩ = some (S nt) ∧ W.cell? ⟨pt, 2, none⟩ = some (S dt) from fun W h => ⟨(h.row _ (.head _)).cell 0, (h.row _ (.head _)).cell 1, (h.row _ (.head _)).cell 2, (h.row _ (.tail _ (.head _))).cell 0, (h.row _ (.tail _ (.head _))).cell 1, (h.row _ (.tail _ (.head _))).cell 2, (h.row _ (.tail _ (.tail _ (.head _)))).cell 0, (h.row _ (.tail _ (.tail _ (.head _)))).cell 1, (h.row _ (.tail _ (.tail _ (.head _)))).cell 2, (h.row _ (.tail _ (.tail _ (.tail _ (.head _))))).cell 0, (h.row _ (.tail _ (.tail _ (.tail _ (.head _))))).cell 1, (h.row _ (.tail _ (.tail _ (.tail _ (.head _))))).cell 2, (h.row _ (.tail _ (.tail _ (.tail _ (.tail _ (.head _)))))).cell 0, (h.row _ (.tail _ (.tail _ (.tail _ (.tail _ (.head _)))))).cell 1, (h.row _ (.tail _ (.tail _ (.tail _ (.tail _ (.head _)))))).cell 2⟩)
    obtain ⟨cc0, cc1, cc2, cc3, cc4, cc5, cc6, cc7, cc8, cc9, cc10, cc11, cc12, cc13, cc14⟩ := HF55.out _ HK.out
    go_wp2_with fail
    clear cc0 cc1 cc2 cc3 cc4 cc5 cc6 cc7 cc8 cc9 cc10 cc11 cc12 cc13 cc14
    have HK2 := Lib.hid (HK.out.new #[.bool sd, S nd, S dd, .bool su, S nu, S du, .bool sg, S ng, S dg] 26)
    obtain ⟨V, hW⟩ : ∃ W, w57.alloc (.cells #[.bool sd, S nd, S dd, .bool su, S nu, S du, .bool sg, S ng, S dg] 26 (0, 0)) = W := ⟨_, rfl⟩
    rw [hW] at HK2 ⊢
    rw [hsz] at HK2
    obtain ⟨SL, hA⟩ : ∃ A, Rg + 1 = A := ⟨_, rfl⟩
    rw [hA] at HK2 ⊢
    clear hA hW HK hsz
    have HK := HK2
    clear HK2
    go_loopw [62] (fun i wr => ∃ k : Nat, k ≤ 3 ∧ i = .int .i64 k ∧ Kq w wr [(SL, 26, [.bool sd, S nd, S dd, .bool su, S nu, S du, .bool sg, S ng, S dg]), (Rg, 26, [.bool sg, S ng, S dg]), (Ru, 26, [.bool su, S nu, S du]), (Rd, 26, [.bool sd, S nd, S dd]), (pa, 26, [.bool sa, S na, S da]), (pt, 26, [.bool st, S nt, S dt])]) (fun i _ => 3 - (intOf i).toNat)
    case atStart => exact ⟨0, by decide, rfl, HK.out⟩
    case round =>
      clear HK
      obtain ⟨k, hk, rfl, hK0⟩ := hrel
      have HK := Lib.hid hK0
      clear hK0
      obtain rfl | rfl | rfl | rfl : k = 0 ∨ k = 1 ∨ k = 2 ∨ k = 3 := by omega
      · have HF66 := Lib.hid (show ∀ W, Kq w W [(SL, 26, [.bool sd, S nd, S dd, .bool su, S nu, S du, .bool sg, S ng, S dg]), (Rg, 26, [.bool sg, S ng, S dg]), (Ru, 26, [.bool su, S nu, S du]), (Rd, 26, [.bool sd, S nd, S dd]), (pa, 26, [.bool sa, S na, S da]), (pt, 26, [.bool st, S nt, S dt])] → W.cell? ⟨SL, 0, none⟩ = some (.bool sd) ∧ W.cell? ⟨SL, 1, none⟩ = some (S nd) ∧ W.cell? ⟨SL, 2, none⟩ = some (S dd) ∧ W.cell? ⟨SL, 3, none⟩ = some (.bool su) ∧ W.cell? ⟨SL, 4, none⟩ = some (S nu) ∧ W.cell? ⟨SL, 5, none⟩ = some (S du) ∧ W.cell? ⟨SL, 6, none⟩ = some (.bool sg) ∧ W.cell? ⟨SL, 7, none⟩ = some (S ng) ∧ W.cell? ⟨SL, 8, none⟩ = some (S dg) ∧ W.cell? ⟨pt, 0, none⟩ = some (.bool st) ∧ W.cell? ⟨pt, 1, none⟩ = some (S nt) ∧ W.cell? ⟨pt, 2, none⟩ = some (S dt) from fun W h => ⟨(h.row _ (.head _)).cell 0, (h.row _ (.head _)).cell 1, (h.row _ (.head _)).cell 2, (h.row _ (.head _)).cell 3, (h.row _ (.head _)).cell 4, (h.row _ (.head _)).cell 5, (h.row _ (.head _)).cell 6, (h.row _ (.head _)).cell 7, (h.row _ (.head _)).cell 8, (h.row _ (.tail _ (.tail _ (.tail _ (.tail _ (.tail _ (.head _))))))).cell 0, (h.row _ (.tail _ (.tail _ (.tail _ (.tail _ (.tail _ (.head _))))))).cell 1, (h.row _ (.tail _ (.tail _ (.tail _ (.tail _ (.tail _ (.head _))))))).cell 2⟩)
        obtain ⟨cc0, cc1, cc2, cc3, cc4, cc5, cc6, cc7, cc8, cc9, cc10, cc11⟩ := HF66.out _ HK.out
        obtain ⟨dd0, dd1, dd2, dd3, dd4, dd5, dd6, dd7, dd8, dd9, dd10, dd11⟩ : (∀ o : Obj, (wr.alloc o).cell? ⟨SL, 0, none⟩ = some (.bool sd)) ∧ (∀ o : Obj, (wr.alloc o).cell? ⟨SL, 1, none⟩ = some (S nd)) ∧ (∀ o : Obj, (wr.alloc o).cell? ⟨SL, 2, none⟩ = some (S dd)) ∧ (∀ o : Obj, (wr.alloc o).cell? ⟨SL, 3, none⟩ = some (.bool su)) ∧ (∀ o : Obj, (wr.alloc o).cell? ⟨SL, 4, none⟩ = some (S nu)) ∧ (∀ o : Obj, (wr.alloc o).cell? ⟨SL, 5, none⟩ = some (S du)) ∧ (∀ o : Obj, (wr.alloc o).cell? ⟨SL, 6, none⟩ = some (.bool sg)) ∧ (∀ o : Obj, (wr.alloc o).cell? ⟨SL, 7, none⟩ = some (S ng)) ∧ (∀ o : Obj, (wr.alloc o).cell? ⟨SL, 8, none⟩ = some (S dg)) ∧ (∀ o : Obj, (wr.alloc o).cell? ⟨pt, 0, none⟩ = some (.bool st)) ∧ (∀ o : Obj, (wr.alloc o).cell? ⟨pt, 1, none⟩ = some (S nt)) ∧ (∀ o : Obj, (wr.alloc o).cell? ⟨pt, 2, none⟩ = some (S dt)) := by
          have hall := fun o : Obj => HF66.out _ (HK.out.other o)
          exact ⟨fun o => (hall o).1, fun o => (hall o).2.1, fun o => (hall o).2.2.1, fun o => (hall o).2.2.2.1, fun o => (hall o).2.2.2.2.1, fun o => (hall o).2.2.2.2.2.1, fun o => (hall o).2.2.2.2.2.2.1, fun o => (hall o).2.2.2.2.2.2.2.1, fun o => (hall o).2.2.2.2.2.2.2.2.1, fun o => (hall o).2.2.2.2.2.2.2.2.2.1, fun o => (hall o).2.2.2.2.2.2.2.2.2.2.1, fun o => (hall o).2.2.2.2.2.2.2.2.2.2.2⟩
        go_wp2_with fail
        clear cc0 cc1 cc2 cc3 cc4 cc5 cc6 cc7 cc8 cc9 cc10 cc11 dd0 dd1 dd2 dd3 dd4 dd5 dd6 dd7 dd8 dd9 dd10 dd11
        have HK2 := Lib.hid (HK.out.new #[.bool sd, S nd, S dd] 26)
        obtain ⟨V0, hW⟩ : ∃ W, wr.alloc (.cells #[.bool sd, S nd, S dd] 26 (0, 0)) = W := ⟨_, rfl⟩
        rw [hW] at HK2 ⊢
        obtain ⟨Rm, hA⟩ : ∃ A, wr.heap.size = A := ⟨_, rfl⟩
        rw [hA] at HK2 ⊢
        clear hA hW HK
        have HK := HK2
        clear HK2
        have HF67 := Lib.hid (show ∀ W, Kq w W [(Rm, 26, [.bool sd, S nd, S dd]), (SL, 26, [.bool sd, S nd, S dd, .bool su, S nu, S du, .bool sg, S ng, S dg]), (Rg, 26, [.bool sg, S ng, S dg]), (Ru, 26, [.bool su, S nu, S du]), (Rd, 26, [.bool sd, S nd, S dd]), (pa, 26, [.bool sa, S na, S da]), (pt, 26, [.bool st, S nt, S dt])] → W.cell? ⟨Rm, 0, none⟩ = some (.bool sd) ∧ W.cell? ⟨Rm, 1, none⟩ = some (S nd) ∧ W.cell? ⟨Rm, 2, none⟩ = some (S dd) ∧ W.cell? ⟨SL, 0, none⟩ = some (.bool sd) ∧ W.cell? ⟨SL, 1, none⟩ = some (S nd) ∧ W.cell? ⟨SL, 2, none⟩ = some (S dd) ∧ W.cell? ⟨SL, 3, none⟩ = some (.bool su) ∧ W.cell? ⟨SL, 4, none⟩ = some (S nu) ∧ W.cell? ⟨SL, 5, none⟩ = some (S du) ∧ W.cell? ⟨SL, 6, none⟩ = some (.bool sg) ∧ W.cell? ⟨SL, 7, none⟩ = some (S ng) ∧ W.cell? ⟨SL, 8, none⟩ = some (S dg) ∧ W.cell? ⟨pt, 0, none⟩ = some (.bool st) ∧ W.cell? ⟨pt, 1, none⟩ = some (S nt) ∧ W.cell? ⟨pt, 2, none⟩ = some (S dt) from fun W h => ⟨(h.row _ (.head _)).cell 0, (h.row _ (.head _)).cell 1, (h.row _ (.head _)).cell 2, (h.row _ (.tail _ (.head _))).cell 0, (h.row _ (.tail _ (.head _))).cell 1, (h.row _ (.tail _ (.head _))).cell 2, (h.row _ (.tail _ (.head _))).cell 3, (h.row _ (.tail _ (.head _))).cell 4, (h.row _ (.tail _ (.head _))).cell 5, (h.row _ (.tail _ (.head _))).cell 6, (h.row _ (.tail _ (.head _))).cell 7, (h.row _ (.tail _ (.head _))).cell 8, (h.row _ (.tail _ (.tail _ (.tail _ (.tail _ (.tail _ (.tail _ (.head _)))))))).cell 0, (h.row _ (.tail _ (.tail _ (.tail _ (.tail _ (.tail _ (.tail _ (.head _)))))))).cell 1, (h.row _ (.tail _ (.tail _ (.tail _ (.tail _ (.tail _ (.tail _ (.head _)))))))).cell 2⟩)
        obtain ⟨cc0, cc1, cc2, cc3, cc4, cc5, cc6, cc7, cc8, cc9, cc10, cc11, cc12, cc13, cc14⟩ := HF67.out _ HK.out
        refine (Qd.out _).mono ?_
        rintro e w78 ⟨rfl, hC⟩
        have HK2 := Lib.hid (HK.out.on hC)
        clear cc0 cc1 cc2 cc3 cc4 cc5 cc6 cc7 cc8 cc9 cc10 cc11 cc12 cc13 cc14
        clear hC HK
        have HK := HK2
        clear HK2
        obtain ⟨cc0, cc1, cc2, cc3, cc4, cc5, cc6, cc7, cc8, cc9, cc10, cc11, cc12, cc13, cc14⟩ := HF67.out _ HK.out
        obtain ⟨dd0, dd1, dd2, dd3, dd4, dd5, dd6, dd7, dd8, dd9, dd10, dd11, dd12, dd13, dd14⟩ : (∀ o : Obj, (w78.alloc o).cell? ⟨Rm, 0, none⟩ = some (.bool sd)) ∧ (∀ o : Obj, (w78.alloc o).cell? ⟨Rm, 1, none⟩ = some (S nd)) ∧ (∀ o : Obj, (w78.alloc o).cell? ⟨Rm, 2, none⟩ = some (S dd)) ∧ (∀ o : Obj, (w78.alloc o).cell? ⟨SL, 0, none⟩ = some (.bool sd)) ∧ (∀ o : Obj, (w78.alloc o).cell? ⟨SL, 1, none⟩ = some (S nd)) ∧ (∀ o : Obj, (w78.alloc o).cell? ⟨SL, 2, none⟩ = some (S dd)) ∧ (∀ o : Obj, (w78.alloc o).cell? ⟨SL, 3, none⟩ = some (.bool su)) ∧ (∀ o : Obj, (w78.alloc o).cell? ⟨SL, 4, none⟩ = some (S nu)) ∧ (∀ o : Obj, (w78.alloc o).cell? ⟨SL, 5, none⟩ = some (S du)) ∧ (∀ o : Obj, (w78.alloc o).cell? ⟨SL, 6, none⟩ = some (.bool sg)) ∧ (∀ o : Obj, (w78.alloc o).cell? ⟨SL, 7, none⟩ = some (S ng)) ∧ (∀ o : Obj, (w78.alloc o).cell? ⟨SL, 8, none⟩ = some (S dg)) ∧ (∀ o : Obj, (w78.alloc o).cell? ⟨pt, 0, none⟩ = some (.bool st)) ∧ (∀ o : Obj, (w78.alloc o).cell? ⟨pt, 1, none⟩ = some (S nt)) ∧ (∀ o : Obj, (w78.alloc o).cell? ⟨pt, 2, none⟩ = some (S dt)) := by
          have hall := fun o : Obj => HF67.out _ (HK.out.other o)
          exact ⟨fun o => (hall o).1, fun o => (hall o).2.1, fun o => (hall o).2.2.1, fun o => (hall o).2.2.2.1, fun o => (hall o).2.2.2.2.1, fun o => (hall o).2.2.2.2.2.1, fun o => (hall o).2.2.2.2.2.2.1, fun o => (hall o).2.2.2.2.2.2.2.1, fun o => (hall o).2.2.2.2.2.2.2.2.1, fun o => (hall o).2.2.2.2.2.2.2.2.2.1, fun o => (hall o).2.2.2.2.2.2.2.2.2.2.1, fun o => (hall o).2.2.2.2.2.2.2.2.2.2.2.1, fun o => (hall o).2.2.2.2.2.2.2.2.2.2.2.2.1, fun o => (hall o).2.2.2.2.2.2.2.2.2.2.2.2.2.1, fun o => (hall o).2.2.2.2.2.2.2.2.2.2.2.2.2.2⟩
        go_wp2_with fail
        clear cc0 cc1 cc2 cc3 cc4 cc5 cc6 cc7 cc8 cc9 cc10 cc11 cc12 cc13 cc14 dd0 dd1 dd2 dd3 dd4 dd5 dd6 dd7 dd8 dd9 dd10 dd11 dd12 dd13 dd14
        have HK2 := Lib.hid (HK.out.new #[.bool qd, S kd, S [1]] 26)
        obtain ⟨w79, hW⟩ : ∃ W, w78.alloc (.cells #[.bool qd, S kd, S [1]] 26 (0, 0)) = W := ⟨_, rfl⟩
        rw [hW] at HK2 ⊢
        obtain ⟨Rq, hA⟩ : ∃ A, w78.heap.size = A := ⟨_, rfl⟩
        rw [hA] at HK2 ⊢
        clear hA hW HK
        have HK := HK2
        clear HK2
        have HF68 := Lib.hid (show ∀ W, Kq w W [(Rq, 26, [.bool qd, S kd, S [1]]), (Rm, 26, [.bool sd, S nd, S dd]), (SL, 26, [.bool sd, S nd, S dd, .bool su, S nu, S du, .bool sg, S ng, S dg]), (Rg, 26, [.bool sg, S ng, S dg]), (Ru, 26, [.bool su, S nu, S du]), (Rd, 26, [.bool sd, S nd, S dd]), (pa, 26, [.bool sa, S na, S da]), (pt, 26, [.bool st, S nt, S dt])] → W.cell? ⟨Rq, 0, none⟩ = some (.bool qd) ∧ W.cell? ⟨Rq, 1, none⟩ = some (S kd) ∧ W.cell? ⟨Rq, 2, none⟩ = some (S [1]) ∧ W.cell? ⟨Rm, 0, none⟩ = some (.bool sd) ∧ W.cell? ⟨Rm, 1, none⟩ = some (S nd) ∧ W.cell? ⟨Rm, 2, none⟩ = some (S dd) ∧ W.cell? ⟨SL, 0, none⟩ = some (.bool sd) ∧ W.cell? ⟨SL, 1, none⟩ = some (S nd) ∧ W.cell? ⟨SL, 2, none⟩ = some (S dd) ∧ W.cell? ⟨SL, 3, none⟩ = some (.bool su) ∧ W.cell? ⟨SL, 4, none⟩ = some (S nu) ∧ W.cell? ⟨SL, 5, none⟩ = some (S du) ∧ W.cell? ⟨SL, 6, none⟩ = some (.bool sg) ∧ W.cell? ⟨SL, 7, none⟩ = some (S ng) ∧ W.cell? ⟨SL, 8, none⟩ = some (S dg) ∧ W.cell? ⟨pt, 0, none⟩ = some (.bool st) ∧ W.cell? ⟨pt, 1, none⟩ = some (S nt) ∧ W.cell? ⟨pt, 2, none⟩ = some (S dt) from fun W h => ⟨(h.row _ (.head _)).cell 0, (h.row _ (.head _)).cell 1, (h.row _ (.head _)).cell 2, (h.row _ (.tail _ (.head _))).cell 0, (h.row _ (.tail _ (.head _))).cell 1, (h.row _ (.tail _ (.head _))).cell 2, (h.row _ (.tail _ (.tail _ (.head _)))).cell 0, (h.row _ (.tail _ (.tail _ (.head _)))).cell 1, (h.row _ (.tail _ (.tail _ (.head _)))).cell 2, (h.row _ (.tail _ (.tail _ (.head _)))).cell 3, (h.row _ (.tail _ (.tail _ (.head _)))).cell 4, (h.row _ (.tail _ (.tail _ (.head _)))).cell 5, (h.row _ (.tail _ (.tail _ (.head _)))).cell 6, (h.row _ (.tail _ (.tail _ (.head _)))).cell 7, (h.row _ (.tail _ (.tail _ (.head _)))).cell 8, (h.row _ (.tail _ (.tail _ (.tail _ (.tail _ (.tail _ (.tail _ (.tail _ (.head _))))))))).cell 0, (h.row _ (.tail _ (.tail _ (.tail _ (.tail _ (.tail _ (.tail _ (.tail _ (.head _))))))))).cell 1, (h.row _ (.tail _ (.tail _ (.tail _ (.tail _ (.tail _ (.tail _ (.tail _ (.head _))))))))).cell 2⟩)
        obtain ⟨cc0, cc1, cc2, cc3, cc4, cc5, cc6, cc7, cc8, cc9, cc10, cc11, cc12, cc13, cc14, cc15, cc16, cc17⟩ := HF68.out _ HK.out
        refine (Ed.out _ (HT.out.ch HK.out.ch)).mono ?_
        rintro e w80 ⟨rfl, hC⟩
        have HK2 := Lib.hid (HK.out.on hC)
        clear cc0 cc1 cc2 cc3 cc4 cc5 cc6 cc7 cc8 cc9 cc10 cc11 cc12 cc13 cc14 cc15 cc16 cc17
        clear hC HK
        have HK := HK2
        clear HK2
        obtain ⟨cc0, cc1, cc2, cc3, cc4, cc5, cc6, cc7, cc8, cc9, cc10, cc11, cc12, cc13, cc14, cc15, cc16, cc17⟩ := HF68.out _ HK.out
        obtain ⟨dd0, dd1, dd2, dd3, dd4, dd5, dd6, dd7, dd8, dd9, dd10, dd11, dd12, dd13, dd14, dd15, dd16, dd17⟩ : (∀ o : Obj, (w80.alloc o).cell? ⟨Rq, 0, none⟩ = some (.bool qd)) ∧ (∀ o : Obj, (w80.alloc o).cell? ⟨Rq, 1, none⟩ = some (S kd)) ∧ (∀ o : Obj, (w80.alloc o).cell? ⟨Rq, 2, none⟩ = some (S [1])) ∧ (∀ o : Obj, (w80.alloc o).cell? ⟨Rm, 0, none⟩ = some (.bool sd)) ∧ (∀ o : Obj, (w80.alloc o).cell? ⟨Rm, 1, none⟩ = some (S nd)) ∧ (∀ o : Obj, (w80.alloc o).cell? ⟨Rm, 2, none⟩ = some (S dd)) ∧ (∀ o : Obj, (w80.alloc o).cell? ⟨SL, 0, none⟩ = some (.bool sd)) ∧ (∀ o : Obj, (w80.alloc o).cell? ⟨SL, 1, none⟩ = some (S nd)) ∧ (∀ o : Obj, (w80.alloc o).cell? ⟨SL, 2, none⟩ = some (S dd)) ∧ (∀ o : Obj, (w80.alloc o).cell? ⟨SL, 3, none⟩ = some (.bool su)) ∧ (∀ o : Obj, (w80.alloc o).cell? ⟨SL, 4, none⟩ = some (S nu)) ∧ (∀ o : Obj, (w80.alloc o).cell? ⟨SL, 5, none⟩ = some (S du)) ∧ (∀ o : Obj, (w80.alloc o).cell? ⟨SL, 6, none⟩ = some (.bool sg)) ∧ (∀ o : Obj, (w80.alloc o).cell? ⟨SL, 7, none⟩ = some (S ng)) ∧ (∀ o : Obj, (w80.alloc o).cell? ⟨SL, 8, none⟩ = some (S dg)) ∧ (∀ o : Obj, (w80.alloc o).cell? ⟨pt, 0, none⟩ = some (.bool st)) ∧ (∀ o : Obj, (w80.alloc o).cell? ⟨pt, 1, none⟩ = some (S nt)) ∧ (∀ o : Obj, (w80.alloc o).cell? ⟨pt, 2, none⟩ = some (S dt)) := by
          have hall := fun o : Obj => HF68.out _ (HK.out.other o)
          exact ⟨fun o => (hall o).1, fun o => (hall o).2.1, fun o => (hall o).2.2.1, fun o => (hall o).2.2.2.1, fun o => (hall o).2.2.2.2.1, fun o => (hall o).2.2.2.2.2.1, fun o => (hall o).2.2.2.2.2.2.1, fun o => (hall o).2.2.2.2.2.2.2.1, fun o => (hall o).2.2.2.2.2.2.2.2.1, fun o => (hall o).2.2.2.2.2.2.2.2.2.1, fun o => (hall o).2.2.2.2.2.2.2.2.2.2.1, fun o => (hall o).2.2.2.2.2.2.2.2.2.2.2.1, fun o => (hall o).2.2.2.2.2.2.2.2.2.2.2.2.1, fun o => (hall o).2.2.2.2.2.2.2.2.2.2.2.2.2.1, fun o => (hall o).2.2.2.2.2.2.2.2.2.2.2.2.2.2.1, fun o => (hall o).2.2.2.2.2.2.2.2.2.2.2.2.2.2.2.1, fun o => (hall o).2.2.2.2.2.2.2.2.2.2.2.2.2.2.2.2.1, fun o => (hall o).2.2.2.2.2.2.2.2.2.2.2.2.2.2.2.2.2⟩
        go_wp2_with fail
        clear cc0 cc1 cc2 cc3 cc4 cc5 cc6 cc7 cc8 cc9 cc10 cc11 cc12 cc13 cc14 cc15 cc16 cc17 dd0 dd1 dd2 dd3 dd4 dd5 dd6 dd7 dd8 dd9 dd10 dd11 dd12 dd13 dd14 dd15 dd16 dd17
        have HK2 := Lib.hid (HK.out.new #[.bool sd, S nd, S dd] 26)
        obtain ⟨w81, hW⟩ : ∃ W, w80.alloc (.cells #[.bool sd, S nd, S dd] 26 (0, 0)) = W := ⟨_, rfl⟩
        rw [hW] at HK2 ⊢
        obtain ⟨Re, hA⟩ : ∃ A, w80.heap.size = A := ⟨_, rfl⟩
        rw [hA] at HK2 ⊢
        clear hA hW HK
        have HK := HK2
        clear HK2
        have HF69 := Lib.hid (show ∀ W, Kq w W [(Re, 26, [.bool sd, S nd, S dd]), (Rq, 26, [.bool qd, S kd, S [1]]), (Rm, 26, [.bool sd, S nd, S dd]), (SL, 26, [.bool sd, S nd, S dd, .bool su, S nu, S du, .bool sg, S ng, S dg]), (Rg, 26, [.bool sg, S ng, S dg]), (Ru, 26, [.bool su, S nu, S du]), (Rd, 26, [.bool sd, S nd, S dd]), (pa, 26, [.bool sa, S na, S da]), (pt, 26, [.bool st, S nt, S dt])] → W.cell? ⟨Re, 0, none⟩ = some (.bool sd) ∧ W.cell? ⟨Re, 1, none⟩ = some (S nd) ∧ W.cell? ⟨Re, 2, none⟩ = some (S dd) ∧ W.cell? ⟨Rq, 0, none⟩ = some (.bool qd) ∧ W.cell? ⟨Rq, 1, none⟩ = some (S kd) ∧ W.cell? ⟨Rq, 2, none⟩ = some (S [1]) ∧ W.cell? ⟨Rm, 0, none⟩ = some (.bool sd) ∧ W.cell? ⟨Rm, 1, none⟩ = some (S nd) ∧ W.cell? ⟨Rm, 2, none⟩ = some (S dd) ∧ W.cell? ⟨SL, 0, none⟩ = some (.bool sd) ∧ W.cell? ⟨SL, 1, none⟩ = some (S nd) ∧ W.cell? ⟨SL, 2, none⟩ = some (S dd) ∧ W.cell? ⟨SL, 3, none⟩ = some (.bool su) ∧ W.cell? ⟨SL, 4, none⟩ = some (S nu) ∧ W.cell? ⟨SL, 5, none⟩ = some (S du) ∧ W.cell? ⟨SL, 6, none⟩ = some (.bool sg) ∧ W.cell? ⟨SL, 7, none⟩ = some (S ng) ∧ W.cell? ⟨SL, 8, none⟩ = some (S dg) ∧ W.cell? ⟨pt, 0, none⟩ = some (.bool st) ∧ W.cell? ⟨pt, 1, none⟩ = some (S nt) ∧ W.cell? ⟨pt, 2, none⟩ = some (S dt) from fun W h => ⟨(h.row _ (.head _)).cell 0, (h.row _ (.head _)).cell 1, (h.row _ (.head _)).cell 2, (h.row _ (.tail _ (.head _))).cell 0, (h.row _ (.tail _ (.head _))).cell 1, (h.row _ (.tail _ (.head _))).cell 2, (h.row _ (.tail _ (.tail _ (.head _)))).cell 0, (h.row _ (.tail _ (.tail _ (.head _)))).cell 1, (h.row _ (.tail _ (.tail _ (.head _)))).cell 2, (h.row _ (.tail _ (.tail _ (.tail _ (.head _))))).cell 0, (h.row _ (.tail _ (.tail _ (.tail _ (.head _))))).cell 1, (h.row _ (.tail _ (.tail _ (.tail _ (.head _))))).cell 2, (h.row _ (.tail _ (.tail _ (.tail _ (.head _))))).cell 3, (h.row _ (.tail _ (.tail _ (.tail _ (.head _))))).cell 4, (h.row _ (.tail _ (.tail _ (.tail _ (.head _))))).cell 5, (h.row _ (.tail _ (.tail _ (.tail _ (.head _))))).cell 6, (h.row _ (.tail _ (.tail _ (.tail _ (.head _))))).cell 7, (h.row _ (.tail _ (.tail _ (.tail _ (.head _))))).cell 8, (h.row _ (.tail _ (.tail _ (.tail _ (.tail _ (.tail _ (.tail _ (.tail _ (.tail _ (.head _)))))))))).cell 0, (h.row _ (.tail _ (.tail _ (.tail _ (.tail _ (.tail _ (.tail _ (.tail _ (.tail _ (.head _)))))))))).cell 1, (h.row _ (.tail _ (.tail _ (.tail _ (.tail _ (.tail _ (.tail _ (.tail _ (.tail _ (.head _)))))))))).cell 2⟩)
        obtain ⟨cc0, cc1, cc2, cc3, cc4, cc5, cc6, cc7, cc8, cc9, cc10, cc11, cc12, cc13, cc14, cc15, cc16, cc17, cc18, cc19, cc20⟩ := HF69.out _ HK.out
        refine (Ud.out _ (HT.out.ch HK.out.ch)).mono ?_
        rintro e w82 ⟨rfl, hC⟩
        have HK2 := Lib.hid (HK.out.on hC)
        clear cc0 cc1 cc2 cc3 cc4 cc5 cc6 cc7 cc8 cc9 cc10 cc11 cc12 cc13 cc14 cc15 cc16 cc17 cc18 cc19 cc20
        clear hC HK
        have HK := HK2
        clear HK2
        obtain ⟨cc0, cc1, cc2, cc3, cc4, cc5, cc6, cc7, cc8, cc9, cc10, cc11, cc12, cc13, cc14, cc15, cc16, cc17, cc18, cc19, cc20⟩ := HF69.out _ HK.out
        obtain ⟨dd0, dd1, dd2, dd3, dd4, dd5, dd6, dd7, dd8, dd9, dd10, dd11, dd12, dd13, dd14, dd15, dd16, dd17, dd18, dd19, dd20⟩ : (∀ o : Obj, (w82.alloc o).cell? ⟨Re, 0, none⟩ = some (.bool sd)) ∧ (∀ o : Obj, (w82.alloc o).cell? ⟨Re, 1, none⟩ = some (S nd)) ∧ (∀ o : Obj, (w82.alloc o).cell? ⟨Re, 2, none⟩ = some (S dd)) ∧ (∀ o : Obj, (w82.alloc o).cell? ⟨Rq, 0, none⟩ = some (.bool qd)) ∧ (∀ o : Obj, (w82.alloc o).cell? ⟨Rq, 1, none⟩ = some (S kd)) ∧ (∀ o : Obj, (w82.alloc o).cell? ⟨Rq, 2, none⟩ = some (S [1])) ∧ (∀ o : Obj, (w82.alloc o).cell? ⟨Rm, 0, none⟩ = some (.bool sd)) ∧ (∀ o : Obj, (w82.alloc o).cell? ⟨Rm, 1, none⟩ = some (S nd)) ∧ (∀ o : Obj, (w82.alloc o).cell? ⟨Rm, 2, none⟩ = some (S dd)) ∧ (∀ o : Obj, (w82.alloc o).cell? ⟨SL, 0, none⟩ = some (.bool sd)) ∧ (∀ o : Obj, (w82.alloc o).cell? ⟨SL, 1, none⟩ = some (S nd)) ∧ (∀ o : Obj, (w82.alloc o).cell? ⟨SL, 2, none⟩ = some (S dd)) ∧ (∀ o : Obj, (w82.alloc o).cell? ⟨SL, 3, none⟩ = some (.bool su)) ∧ (∀ o : Obj, (w82.alloc o).cell? ⟨SL, 4, none⟩ = some (S nu)) ∧ (∀ o : Obj, (w82.alloc o).cell? ⟨SL, 5, none⟩ = some (S du)) ∧ (∀ o : Obj, (w82.alloc o).cell? ⟨SL, 6, none⟩ = some (.bool sg)) ∧ (∀ o : Obj, (w82.alloc o).cell? ⟨SL, 7, none⟩ = some (S ng)) ∧ (∀ o : Obj, (w82.alloc o).cell? ⟨SL, 8, none⟩ = some (S dg)) ∧ (∀ o : Obj, (w82.alloc o).cell? ⟨pt, 0, none⟩ = some (.bool st)) ∧ (∀ o : Obj, (w82.alloc o).cell? ⟨pt, 1, none⟩ = some (S nt)) ∧ (∀ o : Obj, (w82.alloc o).cell? ⟨pt, 2, none⟩ = some (S dt)) := by
          have hall := fun o : Obj => HF69.out _ (HK.out.other o)
          exact ⟨fun o => (hall o).1, fun o => (hall o).2.1, fun o => (hall o).2.2.1, fun o => (hall o).2.2.2.1, fun o => (hall o).2.2.2.2.1, fun o => (hall o).2.2.2.2.2.1, fun o => (hall o).2.2.2.2.2.2.1, fun o => (hall o).2.2.2.2.2.2.2.1, fun o => (hall o).2.2.2.2.2.2.2.2.1, fun o => (hall o).2.2.2.2.2.2.2.2.2.1, fun o => (hall o).2.2.2.2.2.2.2.2.2.2.1, fun o => (hall o).2.2.2.2.2.2.2.2.2.2.2.1, fun o => (hall o).2.2.2.2.2.2.2.2.2.2.2.2.1, fun o => (hall o).2.2.2.2.2.2.2.2.2.2.2.2.2.1, fun o => (hall o).2.2.2.2.2.2.2.2.2.2.2.2.2.2.1, fun o => (hall o).2.2.2.2.2.2.2.2.2.2.2.2.2.2.2.1, fun o => (hall o).2.2.2.2.2.2.2.2.2.2.2.2.2.2.2.2.1, fun o => (hall o).2.2.2.2.2.2.2.2.2.2.2.2.2.2.2.2.2.1, fun o => (hall o).2.2.2.2.2.2.2.2.2.2.2.2.2.2.2.2.2.2.1, fun o => (hall o).2.2.2.2.2.2.2.2.2.2.2.2.2.2.2.2.2.2.2.1, fun o => (hall o).2.2.2.2.2.2.2.2.2.2.2.2.2.2.2.2.2.2.2.2⟩
        go_wp2_with fail
        refine ⟨⟨1, by decide, rfl, ?_⟩, by simp [intOf]⟩
        exact Kq.sub (HK.out.other _) (by intro p hp; simp only [List.mem_cons, List.not_mem_nil, or_false] at hp ⊢; rcases hp with rfl | rfl | rfl | rfl | rfl | rfl <;> simp)
      · have HF76 := Lib.hid (show ∀ W, Kq w W [(SL, 26, [.bool sd, S nd, S dd, .bool su, S nu, S du, .bool sg, S ng, S dg]), (Rg, 26, [.bool sg, S ng, S dg]), (Ru, 26, [.bool su, S nu, S du]), (Rd, 26, [.bool sd, S nd, S dd]), (pa, 26, [.bool sa, S na, S da]), (pt, 26, [.bool st, S nt, S dt])] → W.cell? ⟨SL, 0, none⟩ = some (.bool sd) ∧ W.cell? ⟨SL, 1, none⟩ = some (S nd) ∧ W.cell? ⟨SL, 2, none⟩ = some (S dd) ∧ W.cell? ⟨SL, 3, none⟩ = some (.bool su) ∧ W.cell? ⟨SL, 4, none⟩ = some (S nu) ∧ W.cell? ⟨SL, 5, none⟩ = some (S du) ∧ W.cell? ⟨SL, 6, none⟩ = some (.bool sg) ∧ W.cell? ⟨SL, 7, none⟩ = some (S ng) ∧ W.cell? ⟨SL, 8, none⟩ = some (S dg) ∧ W.cell? ⟨pt, 0, none⟩ = some (.bool st) ∧ W.cell? ⟨pt, 1, none⟩ = some (S nt) ∧ W.cell? ⟨pt, 2, none⟩ = some (S dt) from fun W h => ⟨(h.row _ (.head _)).cell 0, (h.row _ (.head _)).cell 1, (h.row _ (.head _)).cell 2, (h.row _ (.head _)).cell 3, (h.row _ (.head _)).cell 4, (h.row _ (.head _)).cell 5, (h.row _ (.head _)).cell 6, (h.row _ (.head _)).cell 7, (h.row _ (.head _)).cell 8, (h.row _ (.tail _ (.tail _ (.tail _ (.tail _ (.tail _ (.head _))))))).cell 0, (h.row _ (.tail _ (.tail _ (.tail _ (.tail _ (.tail _ (.head _))))))).cell 1, (h.row _ (.tail _ (.tail _ (.tail _ (.tail _ (.tail _ (.head _))))))).cell 2⟩)
        obtain ⟨cc0, cc1, cc2, cc3, cc4, cc5, cc6, cc7, cc8, cc9, cc10, cc11⟩ := HF76.out _ HK.out
        obtain ⟨dd0, dd1, dd2, dd3, dd4, dd5, dd6, dd7, dd8, dd9, dd10, dd11⟩ : (∀ o : Obj, (wr.alloc o).cell? ⟨SL, 0, none⟩ = some (.bool sd)) ∧ (∀ o : Obj, (wr.alloc o).cell? ⟨SL, 1, none⟩ = some (S nd)) ∧ (∀ o : Obj, (wr.alloc o).cell? ⟨SL, 2, none⟩ = some (S dd)) ∧ (∀ o : Obj, (wr.alloc o).cell? ⟨SL, 3, none⟩ = some (.bool su)) ∧ (∀ o : Obj, (wr.alloc o).cell? ⟨SL, 4, none⟩ = some (S nu)) ∧ (∀ o : Obj, (wr.alloc o).cell? ⟨SL, 5, none⟩ = some (S du)) ∧ (∀ o : Obj, (wr.alloc o).cell? ⟨SL, 6, none⟩ = some (.bool sg)) ∧ (∀ o : Obj, (wr.alloc o).cell? ⟨SL, 7, none⟩ = some (S ng)) ∧ (∀ o : Obj, (wr.alloc o).cell? ⟨SL, 8, none⟩ = some (S dg)) ∧ (∀ o : Obj, (wr.alloc o).cell? ⟨pt, 0, none⟩ = some (.bool st)) ∧ (∀ o : Obj, (wr.alloc o).cell? ⟨pt, 1, none⟩ = some (S nt)) ∧ (∀ o : Obj, (wr.alloc o).cell? ⟨pt, 2, none⟩ = some (S dt)) := by
          have hall := fun o : Obj => HF76.out _ (HK.out.other o)
          exact ⟨fun o => (hall o).1, fun o => (hall o).2.1, fun o => (hall o).2.2.1, fun o => (hall o).2.2.2.1, fun o => (hall o).2.2.2.2.1, fun o => (hall o).2.2.2.2.2.1, fun o => (hall o).2.2.2.2.2.2.1, fun o => (hall o).2.2.2.2.2.2.2.1, fun o => (hall o).2.2.2.2.2.2.2.2.1, fun o => (hall o).2.2.2.2.2.2.2.2.2.1, fun o => (hall o).2.2.2.2.2.2.2.2.2.2.1, fun o => (hall o).2.2.2.2.2.2.2.2.2.2.2⟩
        go_wp2_with fail
        clear cc0 cc1 cc2 cc3 cc4 cc5 cc6 cc7 cc8 cc9 cc10 cc11 dd0 dd1 dd2 dd3 dd4 dd5 dd6 dd7 dd8 dd9 dd10 dd11
        have HK2 := Lib.hid (HK.out.new #[.bool su, S nu, S du] 26)
        obtain ⟨V0, hW⟩ : ∃ W, wr.alloc (.cells #[.bool su, S nu, S du] 26 (0, 0)) = W := ⟨_, rfl⟩
        rw [hW] at HK2 ⊢
        obtain ⟨Rm, hA⟩ : ∃ A, wr.heap.size = A := ⟨_, rfl⟩
        rw [hA] at HK2 ⊢
        clear hA hW HK
        have HK := HK2
        clear HK2
        have HF77 := Lib.hid (show ∀ W, Kq w W [(Rm, 26, [.bool su, S nu, S du]), (SL, 26, [.bool sd, S nd, S dd, .bool su, S nu, S du, .bool sg, S ng, S dg]), (Rg, 26, [.bool sg, S ng, S dg]), (Ru, 26, [.bool su, S nu, S du]), (Rd, 26, [.bool sd, S nd, S dd]), (pa, 26, [.bool sa, S na, S da]), (pt, 26, [.bool st, S nt, S dt])] → W.cell? ⟨Rm, 0, none⟩ = some (.bool su) ∧ W.cell? ⟨Rm, 1, none⟩ = some (S nu) ∧ W.cell? ⟨Rm, 2, none⟩ = some (S du) ∧ W.cell? ⟨SL, 0, none⟩ = some (.bool sd) ∧ W.cell? ⟨SL, 1, none⟩ = some (S nd) ∧ W.cell? ⟨SL, 2, none⟩ = some (S dd) ∧ W.cell? ⟨SL, 3, none⟩ = some (.bool su) ∧ W.cell? ⟨SL, 4, none⟩ = some (S nu) ∧ W.cell? ⟨SL, 5, none⟩ = some (S du) ∧ W.cell? ⟨SL, 6, none⟩ = some (.bool sg) ∧ W.cell? ⟨SL, 7, none⟩ = some (S ng) ∧ W.cell? ⟨SL, 8, none⟩ = some (S dg) ∧ W.cell? ⟨pt, 0, none⟩ = some (.bool st) ∧ W.cell? ⟨pt, 1, none⟩ = some (S nt) ∧ W.cell? ⟨pt, 2, none⟩ = some (S dt) from fun W h => ⟨(h.row _ (.head _)).cell 0, (h.row _ (.head _)).cell 1, (h.row _ (.head _)).cell 2, (h.row _ (.tail _ (.head _))).cell 0, (h.row _ (.tail _ (.head _))).cell 1, (h.row _ (.tail _ (.head _))).cell 2, (h.row _ (.tail _ (.head _))).cell 3, (h.row _ (.tail _ (.head _))).cell 4, (h.row _ (.tail _ (.head _))).cell 5, (h.row _ (.tail _ (.head _))).cell 6, (h.row _ (.tail _ (.head _))).cell 7, (h.row _ (.tail _ (.head _))).cell 8, (h.row _ (.tail _ (.tail _ (.tail _ (.tail _ (.tail _ (.tail _ (.head _)))))))).cell 0, (h.row _ (.tail _ (.tail _ (.tail _ (.tail _ (.tail _ (.tail _ (.head _)))))))).cell 1, (h.row _ (.tail _ (.tail _ (.tail _ (.tail _ (.tail _ (.tail _ (.head _)))))))).cell 2⟩)
        obtain ⟨cc0, cc1, cc2, cc3, cc4, cc5, cc6, cc7, cc8, cc9, cc10, cc11, cc12, cc13, cc14⟩ := HF77.out _ HK.out
        refine (Qu.out _).mono ?_
        rintro e w98 ⟨rfl, hC⟩
        have HK2 := Lib.hid (HK.out.on hC)
        clear cc0 cc1 cc2 cc3 cc4 cc5 cc6 cc7 cc8 cc9 cc10 cc11 cc12 cc13 cc14
        clear hC HK
        have HK := HK2
        clear HK2
        obtain ⟨cc0, cc1, cc2, cc3, cc4, cc5, cc6, cc7, cc8, cc9, cc10, cc11, cc12, cc13, cc14⟩ := HF77.out _ HK.out
        obtain ⟨dd0, dd1, dd2, dd3, dd4, dd5, dd6, dd7, dd8, dd9, dd10, dd11, dd12, dd13, dd14⟩ : (∀ o : Obj, (w98.alloc o).cell? ⟨Rm, 0, none⟩ = some (.bool su)) ∧ (∀ o : Obj, (w98.alloc o).cell? ⟨Rm, 1, none⟩ = some (S nu)) ∧ (∀ o : Obj, (w98.alloc o).cell? ⟨Rm, 2, none⟩ = some (S du)) ∧ (∀ o : Obj, (w98.alloc o).cell? ⟨SL, 0, none⟩ = some (.bool sd)) ∧ (∀ o : Obj, (w98.alloc o).cell? ⟨SL, 1, none⟩ = some (S nd)) ∧ (∀ o : Obj, (w98.alloc o).cell? ⟨SL, 2, none⟩ = some (S dd)) ∧ (∀ o : Obj, (w98.alloc o).cell? ⟨SL, 3, none⟩ = some (.bool su)) ∧ (∀ o : Obj, (w98.alloc o).cell? ⟨SL, 4, none⟩ = some (S nu)) ∧ (∀ o : Obj, (w98.alloc o).cell? ⟨SL, 5, none⟩ = some (S du)) ∧ (∀ o : Obj, (w98.alloc o).cell? ⟨SL, 6, none⟩ = some (.bool sg)) ∧ (∀ o : Obj, (w98.alloc o).cell? ⟨SL, 7, none⟩ = some (S ng)) ∧ (∀ o : Obj, (w98.alloc o).cell? ⟨SL, 8, none⟩ = some (S dg)) ∧ (∀ o : Obj, (w98.alloc o).cell? ⟨pt, 0, none⟩ = some (.bool st)) ∧ (∀ o : Obj, (w98.alloc o).cell? ⟨pt, 1, none⟩ = some (S nt)) ∧ (∀ o : Obj, (w98.alloc o).cell? ⟨pt, 2, none⟩ = some (S dt)) := by
          have hall := fun o : Obj => HF77.out _ (HK.out.other o)
          exact ⟨fun o => (hall o).1, fun o => (hall o).2.1, fun o => (hall o).2.2.1, fun o => (hall o).2.2.2.1, fun o => (hall o).2.2.2.2.1, fun o => (hall o).2.2.2.2.2.1, fun o => (hall o).2.2.2.2.2.2.1, fun o => (hall o).2.2.2.2.2.2.2.1, fun o => (hall o).2.2.2.2.2.2.2.2.1, fun o => (hall o).2.2.2.2.2.2.2.2.2.1, fun o => (hall o).2.2.2.2.2.2.2.2.2.2.1, fun o => (hall o).2.2.2.2.2.2.2.2.2.2.2.1, fun o => (hall o).2.2.2.2.2.2.2.2.2.2.2.2.1, fun o => (hall o).2.2.2.2.2.2.2.2.2.2.2.2.2.1, fun o => (hall o).2.2.2.2.2.2.2.2.2.2.2.2.2.2⟩
        go_wp2_with fail
        clear cc0 cc1 cc2 cc3 cc4 cc5 cc6 cc7 cc8 cc9 cc10 cc11 cc12 cc13 cc14 dd0 dd1 dd2 dd3 dd4 dd5 dd6 dd7 dd8 dd9 dd10 dd11 dd12 dd13 dd14
        have HK2 := Lib.hid (HK.out.new #[.bool qu, S ku, S [1]] 26)
        obtain ⟨w99, hW⟩ : ∃ W, w98.alloc (.cells #[.bool qu, S ku, S [1]] 26 (0, 0)) = W := ⟨_, rfl⟩
        rw [hW] at HK2 ⊢
        obtain ⟨Rq, hA⟩ : ∃ A, w98.heap.size = A := ⟨_, rfl⟩
        rw [hA] at HK2 ⊢
        clear hA hW HK
        have HK := HK2
        clear HK2
        have HF78 := Lib.hid (show ∀ W, Kq w W [(Rq, 26, [.bool qu, S ku, S [1]]), (Rm, 26, [.bool su, S nu, S du]), (SL, 26, [.bool sd, S nd, S dd, .bool su, S nu, S du, .bool sg, S ng, S dg]), (Rg, 26, [.bool sg, S ng, S dg]), (Ru, 26, [.bool su, S nu, S du]), (Rd, 26, [.bool sd, S nd, S dd]), (pa, 26, [.bool sa, S na, S da]), (pt, 26, [.bool st, S nt, S dt])] → W.cell? ⟨Rq, 0, none⟩ = some (.bool qu) ∧ W.cell? ⟨Rq, 1, none⟩ = some (S ku) ∧ W.cell? ⟨Rq, 2, none⟩ = some (S [1]) ∧ W.cell? ⟨Rm, 0, none⟩ = some (.bool su) ∧ W.cell? ⟨Rm, 1, none⟩ = some (S nu) ∧ W.cell? ⟨Rm, 2, none⟩ = some (S du) ∧ W.cell? ⟨SL, 0, none⟩ = some (.bool sd) ∧ W.cell? ⟨SL, 1, none⟩ = some (S nd) ∧ W.cell? ⟨SL, 2, none⟩ = some (S dd) ∧ W.cell? ⟨SL, 3, none⟩ = some (.bool su) ∧ W.cell? ⟨SL, 4, none⟩ = some (S nu) ∧ W.cell? ⟨SL, 5, none⟩ = some (S du) ∧ W.cell? ⟨SL, 6, none⟩ = some (.bool sg) ∧ W.cell? ⟨SL, 7, none⟩ = some (S ng) ∧ W.cell? ⟨SL, 8, none⟩ = some (S dg) ∧ W.cell? ⟨pt, 0, none⟩ = some (.bool st) ∧ W.cell? ⟨pt, 1, none⟩ = some (S nt) ∧ W.cell? ⟨pt, 2, none⟩ = some (S dt) from fun W h => ⟨(h.row _ (.head _)).cell 0, (h.row _ (.head _)).cell 1, (h.row _ (.head _)).cell 2, (h.row _ (.tail _ (.head _))).cell 0, (h.row _ (.tail _ (.head _))).cell 1, (h.row _ (.tail _ (.head _))).cell 2, (h.row _ (.tail _ (.tail _ (.head _)))).cell 0, (h.row _ (.tail _ (.tail _ (.head _)))).cell 1, (h.row _ (.tail _ (.tail _ (.head _)))).cell 2, (h.row _ (.tail _ (.tail _ (.head _)))).cell 3, (h.row _ (.tail _ (.tail _ (.head _)))).cell 4, (h.row _ (.tail _ (.tail _ (.head _)))).cell 5, (h.row _ (.tail _ (.tail _ (.head _)))).cell 6, (h.row _ (.tail _ (.tail _ (.head _)))).cell 7, (h.row _ (.tail _ (.tail _ (.head _)))).cell 8, (h.row _ (.tail _ (.tail _ (.tail _ (.tail _ (.tail _ (.tail _ (.tail _ (.head _))))))))).cell 0, (h.row _ (.tail _ (.tail _ (.tail _ (.tail _ (.tail _ (.tail _ (.tail _ (.head _))))))))).cell 1, (h.row _ (.tail _ (.tail _ (.tail _ (.tail _ (.tail _ (.tail _ (.tail _ (.head _))))))))).cell 2⟩)
        obtain ⟨cc0, cc1, cc2, cc3, cc4, cc5, cc6, cc7, cc8, cc9, cc10, cc11, cc12, cc13, cc14, cc15, cc16, cc17⟩ := HF78.out _ HK.out
        refine (Eu.out _ (HT.out.ch HK.out.ch)).mono ?_
        rintro e w100 ⟨rfl, hC⟩
        have HK2 := Lib.hid (HK.out.on hC)
        clear cc0 cc1 cc2 cc3 cc4 cc5 cc6 cc7 cc8 cc9 cc10 cc11 cc12 cc13 cc14 cc15 cc16 cc17
        clear hC HK
        have HK := HK2
        clear HK2
        obtain ⟨cc0, cc1, cc2, cc3, cc4, cc5, cc6, cc7, cc8, cc9, cc10, cc11, cc12, cc13, cc14, cc15, cc16, cc17⟩ := HF78.out _ HK.out
        obtain ⟨dd0, dd1, dd2, dd3, dd4, dd5, dd6, dd7, dd8, dd9, dd10, dd11, dd12, dd13, dd14, dd15, dd16, dd17⟩ : (∀ o : Obj, (w100.alloc o).cell? ⟨Rq, 0, none⟩ = some (.bool qu)) ∧ (∀ o : Obj, (w100.alloc o).cell? ⟨Rq, 1, none⟩ = some (S ku)) ∧ (∀ o : Obj, (w100.alloc o).cell? ⟨Rq, 2, none⟩ = some (S [1])) ∧ (∀ o : Obj, (w100.alloc o).cell? ⟨Rm, 0, none⟩ = some (.bool su)) ∧ (∀ o : Obj, (w100.alloc o).cell? ⟨Rm, 1, none⟩ = some (S nu)) ∧ (∀ o : Obj, (w100.alloc o).cell? ⟨Rm, 2, none⟩ = some (S du)) ∧ (∀ o : Obj, (w100.alloc o).cell? ⟨SL, 0, none⟩ = some (.bool sd)) ∧ (∀ o : Obj, (w100.alloc o).cell? ⟨SL, 1, none⟩ = some (S nd)) ∧ (∀ o : Obj, (w100.alloc o).cell? ⟨SL, 2, none⟩ = some (S dd)) ∧ (∀ o : Obj, (w100.alloc o).cell? ⟨SL, 3, none⟩ = some (.bool su)) ∧ (∀ o : Obj, (w100.alloc o).cell? ⟨SL, 4, none⟩ = some (S nu)) ∧ (∀ o : Obj, (w100.alloc o).cell? ⟨SL, 5, none⟩ = some (S du)) ∧ (∀ o : Obj, (w100.alloc o).cell? ⟨SL, 6, none⟩ = some (.bool sg)) ∧ (∀ o : Obj, (w100.alloc o).cell? ⟨SL, 7, none⟩ = some (S ng)) ∧ (∀ o : Obj, (w100.alloc o).cell? ⟨SL, 8, none⟩ = some (S dg)) ∧ (∀ o : Obj, (w100.alloc o).cell? ⟨pt, 0, none⟩ = some (.bool st)) ∧ (∀ o : Obj, (w100.alloc o).cell? ⟨pt, 1, none⟩ = some (S nt)) ∧ (∀ o : Obj, (w100.alloc o).cell? ⟨pt, 2, none⟩ = some (S dt)) := by
          have hall := fun o : Obj => HF78.out _ (HK.out.other o)
          exact ⟨fun o => (hall o).1, fun o => (hall o).2.1, fun o => (hall o).2.2.1, fun o => (hall o).2.2.2.1, fun o => (hall o).2.2.2.2.1, fun o => (hall o).2.2.2.2.2.1, fun o => (hall o).2.2.2.2.2.2.1, fun o => (hall o).2.2.2.2.2.2.2.1, fun o => (hall o).2.2.2.2.2.2.2.2.1, fun o => (hall o).2.2.2.2.2.2.2.2.2.1, fun o => (hall o).2.2.2.2.2.2.2.2.2.2.1, fun o => (hall o).2.2.2.2.2.2.2.2.2.2.2.1, fun o => (hall o).2.2.2.2.2.2.2.2.2.2.2.2.1, fun o => (hall o).2.2.2.2.2.2.2.2.2.2.2.2.2.1, fun o => (hall o).2.2.2.2.2.2.2.2.2.2.2.2.2.2.1, fun o => (hall o).2.2.2.2.2.2.2.2.2.2.2.2.2.2.2.1, fun o => (hall o).2.2.2.2.2.2.2.2.2.2.2.2.2.2.2.2.1, fun o => (hall o).2.2.2.2.2.2.2.2.2.2.2.2.2.2.2.2.2⟩
        go_wp2_with fail
        clear cc0 cc1 cc2 cc3 cc4 cc5 cc6 cc7 cc8 cc9 cc10 cc11 cc12 cc13 cc14 cc15 cc16 cc17 dd0 dd1 dd2 dd3 dd4 dd5 dd6 dd7 dd8 dd9 dd10 dd11 dd12 dd13 dd14 dd15 dd16 dd17
        have HK2 := Lib.hid (HK.out.new #[.bool su, S nu, S du] 26)
        obtain ⟨w101, hW⟩ : ∃ W, w100.alloc (.cells #[.bool su, S nu, S du] 26 (0, 0)) = W := ⟨_, rfl⟩
        rw [hW] at HK2 ⊢
        obtain ⟨Re, hA⟩ : ∃ A, w100.heap.size = A := ⟨_, rfl⟩
        rw [hA] at HK2 ⊢
        clear hA hW HK
        have HK := HK2
        clear HK2
        have HF79 := Lib.hid (show ∀ W, Kq w W [(Re, 26, [.bool su, S nu, S du]), (Rq, 26, [.bool qu, S ku, S [1]]), (Rm, 26, [.bool su, S nu, S du]), (SL, 26, [.bool sd, S nd, S dd, .bool su, S nu, S du, .bool sg, S ng, S dg]), (Rg, 26, [.bool sg, S ng, S dg]), (Ru, 26, [.bool su, S nu, S du]), (Rd, 26, [.bool sd, S nd, S dd]), (pa, 26, [.bool sa, S na, S da]), (pt, 26, [.bool st, S nt, S dt])] → W.cell? ⟨Re, 0, none⟩ = some (.bool su) ∧ W.cell? ⟨Re, 1, none⟩ = some (S nu) ∧ W.cell? ⟨Re, 2, none⟩ = some (S du) ∧ W.cell? ⟨Rq, 0, none⟩ = some (.bool qu) ∧ W.cell? ⟨Rq, 1, none⟩ = some (S ku) ∧ W.cell? ⟨Rq, 2, none⟩ = some (S [1]) ∧ W.cell? ⟨Rm, 0, none⟩ = some (.bool su) ∧ W.cell? ⟨Rm, 1, none⟩ = some (S nu) ∧ W.cell? ⟨Rm, 2, none⟩ = some (S du) ∧ W.cell? ⟨SL, 0, none⟩ = some (.bool sd) ∧ W.cell? ⟨SL, 1, none⟩ = some (S nd) ∧ W.cell? ⟨SL, 2, none⟩ = some (S dd) ∧ W.cell? ⟨SL, 3, none⟩ = some (.bool su) ∧ W.cell? ⟨SL, 4, none⟩ = some (S nu) ∧ W.cell? ⟨SL, 5, none⟩ = some (S du) ∧ W.cell? ⟨SL, 6, none⟩ = some (.bool sg) ∧ W.cell? ⟨SL, 7, none⟩ = some (S ng) ∧ W.cell? ⟨SL, 8, none⟩ = some (S dg) ∧ W.cell? ⟨pt, 0, none⟩ = some (.bool st) ∧ W.cell? ⟨pt, 1, none⟩ = some (S nt) ∧ W.cell? ⟨pt, 2, none⟩ = some (S dt) from fun W h => ⟨(h.row _ (.head _)).cell 0, (h.row _ (.head _)).cell 1, (h.row _ (.head _)).cell 2, (h.row _ (.tail _ (.head _))).cell 0, (h.row _ (.tail _ (.head _))).cell 1, (h.row _ (.tail _ (.head _))).cell 2, (h.row _ (.tail _ (.tail _ (.head _)))).cell 0, (h.row _ (.tail _ (.tail _ (.head _)))).cell 1, (h.row _ (.tail _ (.tail _ (.head _)))).cell 2, (h.row _ (.tail _ (.tail _ (.tail _ (.head _))))).cell 0, (h.row _ (.tail _ (.tail _ (.tail _ (.head _))))).cell 1, (h.row _ (.tail _ (.tail _ (.tail _ (.head _))))).cell 2, (h.row _ (.tail _ (.tail _ (.tail _ (.head _))))).cell 3, (h.row _ (.tail _ (.tail _ (.tail _ (.head _))))).cell 4, (h.row _ (.tail _ (.tail _ (.tail _ (.head _))))).cell 5, (h.row _ (.tail _ (.tail _ (.tail _ (.head _))))).cell 6, (h.row _ (.tail _ (.tail _ (.tail _ (.head _))))).cell 7, (h.row _ (.tail _ (.tail _ (.tail _ (.head _))))).cell 8, (h.row _ (.tail _ (.tail _ (.tail _ (.tail _ (.tail _ (.tail _ (.tail _ (.tail _ (.head _)))))))))).cell 0, (h.row _ (.tail _ (.tail _ (.tail _ (.tail _ (.tail _ (.tail _ (.tail _ (.tail _ (.head _)))))))))).cell 1, (h.row _ (.tail _ (.tail _ (.tail _ (.tail _ (.tail _ (.tail _ (.tail _ (.tail _ (.head _)))))))))).cell 2⟩)
        obtain ⟨cc0, cc1, cc2, cc3, cc4, cc5, cc6, cc7, cc8, cc9, cc10, cc11, cc12, cc13, cc14, cc15, cc16, cc17, cc18, cc19, cc20⟩ := HF79.out _ HK.out
        refine (Uu.out _ (HT.out.ch HK.out.ch)).mono ?_
        rintro e w102 ⟨rfl, hC⟩
        have HK2 := Lib.hid (HK.out.on hC)
        clear cc0 cc1 cc2 cc3 cc4 cc5 cc6 cc7 cc8 cc9 cc10 cc11 cc12 cc13 cc14 cc15 cc16 cc17 cc18 cc19 cc20
        clear hC HK
        have HK := HK2
        clear HK2
        obtain ⟨cc0, cc1, cc2, cc3, cc4, cc5, cc6, cc7, cc8, cc9, cc10, cc11, cc12, cc13, cc14, cc15, cc16, cc17, cc18, cc19, cc20⟩ := HF79.out _ HK.out
        obtain ⟨dd0, dd1, dd2, dd3, dd4, dd5, dd6, dd7, dd8, dd9, dd10, dd11, dd12, dd13, dd14, dd15, dd16, dd17, dd18, dd19, dd20⟩ : (∀ o : Obj, (w102.alloc o).cell? ⟨Re, 0, none⟩ = some (.bool su)) ∧ (∀ o : Obj, (w102.alloc o).cell? ⟨Re, 1, none⟩ = some (S nu)) ∧ (∀ o : Obj, (w102.alloc o).cell? ⟨Re, 2, none⟩ = some (S du)) ∧ (∀ o : Obj, (w102.alloc o).cell? ⟨Rq, 0, none⟩ = some (.bool qu)) ∧ (∀ o : Obj, (w102.alloc o).cell? ⟨Rq, 1, none⟩ = some (S ku)) ∧ (∀ o : Obj, (w102.alloc o).cell? ⟨Rq, 2, none⟩ = some (S [1])) ∧ (∀ o : Obj, (w102.alloc o).cell? ⟨Rm, 0, none⟩ = some (.bool su)) ∧ (∀ o : Obj, (w102.alloc o).cell? ⟨Rm, 1, none⟩ = some (S nu)) ∧ (∀ o : Obj, (w102.alloc o).cell? ⟨Rm, 2, none⟩ = some (S du)) ∧ (∀ o : Obj, (w102.alloc o).cell? ⟨SL, 0, none⟩ = some (.bool sd)) ∧ (∀ o : Obj, (w102.alloc o).cell? ⟨SL, 1, none⟩ = some (S nd)) ∧ (∀ o : Obj, (w102.alloc o).cell? ⟨SL, 2, none⟩ = some (S dd)) ∧ (∀ o : Obj, (w102.alloc o).cell? ⟨SL, 3, none⟩ = some (.bool su)) ∧ (∀ o : Obj, (w102.alloc o).cell? ⟨SL, 4, none⟩ = some (S nu)) ∧ (∀ o : Obj, (w102.alloc o).cell? ⟨SL, 5, none⟩ = some (S du)) ∧ (∀ o : Obj, (w102.alloc o).cell? ⟨SL, 6, none⟩ = some (.bool sg)) ∧ (∀ o : Obj, (w102.alloc o).cell? ⟨SL, 7, none⟩ = some (S ng)) ∧ (∀ o : Obj, (w102.alloc o).cell? ⟨SL, 8, none⟩ = some (S dg)) ∧ (∀ o : Obj, (w102.alloc o).cell? ⟨pt, 0, none⟩ = some (.bool st)) ∧ (∀ o : Obj, (w102.alloc o).cell? ⟨pt, 1, none⟩ = some (S nt)) ∧ (∀ o : Obj, (w102.alloc o).cell? ⟨pt, 2, none⟩ = some (S dt)) := by
          have hall := fun o : Obj => HF79.out _ (HK.out.other o)
          exact ⟨fun o => (hall o).1, fun o => (hall o).2.1, fun o => (hall o).2.2.1, fun o => (hall o).2.2.2.1, fun o => (hall o).2.2.2.2.1, fun o => (hall o).2.2.2.2.2.1, fun o => (hall o).2.2.2.2.2.2.1, fun o => (hall o).2.2.2.2.2.2.2.1, fun o => (hall o).2.2.2.2.2.2.2.2.1, fun o => (hall o).2.2.2.2.2.2.2.2.2.1, fun o => (hall o).2.2.2.2.2.2.2.2.2.2.1, fun o => (hall o).2.2.2.2.2.2.2.2.2.2.2.1, fun o => (hall o).2.2.2.2.2.2.2.2.2.2.2.2.1, fun o => (hall o).2.2.2.2.2.2.2.2.2.2.2.2.2.1, fun o => (hall o).2.2.2.2.2.2.2.2.2.2.2.2.2.2.1, fun o => (hall o).2.2.2.2.2.2.2.2.2.2.2.2.2.2.2.1, fun o => (hall o).2.2.2.2.2.2.2.2.2.2.2.2.2.2.2.2.1, fun o => (hall o).2.2.2.2.2.2.2.2.2.2.2.2.2.2.2.2.2.1, fun o => (hall o).2.2.2.2.2.2.2.2.2.2.2.2.2.2.2.2.2.2.1, fun o => (hall o).2.2.2.2.2.2.2.2.2.2.2.2.2.2.2.2.2.2.2.1, fun o => (hall o).2.2.2.2.2.2.2.2.2.2.2.2.2.2.2.2.2.2.2.2⟩
        go_wp2_with fail
        refine ⟨⟨2, by decide, rfl, ?_⟩, by simp [intOf]⟩
        exact Kq.sub (HK.out.other _) (by intro p hp; simp only [List.mem_cons, List.not_mem_nil, or_false] at hp ⊢; rcases hp with rfl | rfl | rfl | rfl | rfl | rfl <;> simp)
      · have HF86 := Lib.hid (show ∀ W, Kq w W [(SL, 26, [.bool sd, S nd, S dd, .bool su, S nu, S du, .bool sg, S ng, S dg]), (Rg, 26, [.bool sg, S ng, S dg]), (Ru, 26, [.bool su, S nu, S du]), (Rd, 26, [.bool sd, S nd, S dd]), (pa, 26, [.bool sa, S na, S da]), (pt, 26, [.bool st, S nt, S dt])] → W.cell? ⟨SL, 0, none⟩ = some (.bool sd) ∧ W.cell? ⟨SL, 1, none⟩ = some (S nd) ∧ W.cell? ⟨SL, 2, none⟩ = some (S dd) ∧ W.cell? ⟨SL, 3, none⟩ = some (.bool su) ∧ W.cell? ⟨SL, 4, none⟩ = some (S nu) ∧ W.cell? ⟨SL, 5, none⟩ = some (S du) ∧ W.cell? ⟨SL, 6, none⟩ = some (.bool sg) ∧ W.cell? ⟨SL, 7, none⟩ = some (S ng) ∧ W.cell? ⟨SL, 8, none⟩ = some (S dg) ∧ W.cell? ⟨pt, 0, none⟩ = some (.bool st) ∧ W.cell? ⟨pt, 1, none⟩ = some (S nt) ∧ W.cell? ⟨pt, 2, none⟩ = some (S dt) from fun W h => ⟨(h.row _ (.head _)).cell 0, (h.row _ (.head _)).cell 1, (h.row _ (.head _)).cell 2, (h.row _ (.head _)).cell 3, (h.row _ (.head _)).cell 4, (h.row _ (.head _)).cell 5, (h.row _ (.head _)).cell 6, (h.row _ (.head _)).cell 7, (h.row _ (.head _)).cell 8, (h.row _ (.tail _ (.tail _ (.tail _ (.tail _ (.tail _ (.head _))))))).cell 0, (h.row _ (.tail _ (.tail _ (.tail _ (.tail _ (.tail _ (.head _))))))).cell 1, (h.row _ (.tail _ (.tail _ (.tail _ (.tail _ (.tail _ (.head _))))))).cell 2⟩)
        obtain ⟨cc0, cc1, cc2, cc3, cc4, cc5, cc6, cc7, cc8, cc9, cc10, cc11⟩ := HF86.out _ HK.out
        obtain ⟨dd0, dd1, dd2, dd3, dd4, dd5, dd6, dd7, dd8, dd9, dd10, dd11⟩ : (∀ o : Obj, (wr.alloc o).cell? ⟨SL, 0, none⟩ = some (.bool sd)) ∧ (∀ o : Obj, (wr.alloc o).cell? ⟨SL, 1, none⟩ = some (S nd)) ∧ (∀ o : Obj, (wr.alloc o).cell? ⟨SL, 2, none⟩ = some (S dd)) ∧ (∀ o : Obj, (wr.alloc o).cell? ⟨SL, 3, none⟩ = some (.bool su)) ∧ (∀ o : Obj, (wr.alloc o).cell? ⟨SL, 4, none⟩ = some (S nu)) ∧ (∀ o : Obj, (wr.alloc o).cell? ⟨SL, 5, none⟩ = some (S du)) ∧ (∀ o : Obj, (wr.alloc o).cell? ⟨SL, 6, none⟩ = some (.bool sg)) ∧ (∀ o : Obj, (wr.alloc o).cell? ⟨SL, 7, none⟩ = some (S ng)) ∧ (∀ o : Obj, (wr.alloc o).cell? ⟨SL, 8, none⟩ = some (S dg)) ∧ (∀ o : Obj, (wr.alloc o).cell? ⟨pt, 0, none⟩ = some (.bool st)) ∧ (∀ o : Obj, (wr.alloc o).cell? ⟨pt, 1, none⟩ = some (S nt)) ∧ (∀ o : Obj, (wr.alloc o).cell? ⟨pt, 2, none⟩ = some (S dt)) := by
          have hall := fun o : Obj => HF86.out _ (HK.out.other o)
          exact ⟨fun o => (hall o).1, fun o => (hall o).2.1, fun o => (hall o).2.2.1, fun o => (hall o).2.2.2.1, fun o => (hall o).2.2.2.2.1, fun o => (hall o).2.2.2.2.2.1, fun o => (hall o).2.2.2.2.2.2.1, fun o => (hall o).2.2.2.2.2.2.2.1, fun o => (hall o).2.2.2.2.2.2.2.2.1, fun o => (hall o).2.2.2.2.2.2.2.2.2.1, fun o => (hall o).2.2.2.2.2.2.2.2.2.2.1, fun o => (hall o).2.2.2.2.2.2.2.2.2.2.2⟩
        go_wp2_with fail
        clear cc0 cc1 cc2 cc3 cc4 cc5 cc6 cc7 cc8 cc9 cc10 cc11 dd0 dd1 dd2 dd3 dd4 dd5 dd6 dd7 dd8 dd9 dd10 dd11
        have HK2 := Lib.hid (HK.out.new #[.bool sg, S ng, S dg] 26)
        obtain ⟨V0, hW⟩ : ∃ W, wr.alloc (.cells #[.bool sg, S ng, S dg] 26 (0, 0)) = W := ⟨_, rfl⟩
        rw [hW] at HK2 ⊢
        obtain ⟨Rm, hA⟩ : ∃ A, wr.heap.size = A := ⟨_, rfl⟩
        rw [hA] at HK2 ⊢
        clear hA hW HK
        have HK := HK2
        clear HK2
        have HF87 := Lib.hid (show ∀ W, Kq w W [(Rm, 26, [.bool sg, S ng, S dg]), (SL, 26, [.bool sd, S nd, S dd, .bool su, S nu, S du, .bool sg, S ng, S dg]), (Rg, 26, [.bool sg, S ng, S dg]), (Ru, 26, [.bool su, S nu, S du]), (Rd, 26, [.bool sd, S nd, S dd]), (pa, 26, [.bool sa, S na, S da]), (pt, 26, [.bool st, S nt, S dt])] → W.cell? ⟨Rm, 0, none⟩ = some (.bool sg) ∧ W.cell? ⟨Rm, 1, none⟩ = some (S ng) ∧ W.cell? ⟨Rm, 2, none⟩ = some (S dg) ∧ W.cell? ⟨SL, 0, none⟩ = some (.bool sd) ∧ W.cell? ⟨SL, 1, none⟩ = some (S nd) ∧ W.cell? ⟨SL, 2, none⟩ = some (S dd) ∧ W.cell? ⟨SL, 3, none⟩ = some (.bool su) ∧ W.cell? ⟨SL, 4, none⟩ = some (S nu) ∧ W.cell? ⟨SL, 5, none⟩ = some (S du) ∧ W.cell? ⟨SL, 6, none⟩ = some (.bool sg) ∧ W.cell? ⟨SL, 7, none⟩ = some (S ng) ∧ W.cell? ⟨SL, 8, none⟩ = some (S dg) ∧ W.cell? ⟨pt, 0, none⟩ = some (.bool st) ∧ W.cell? ⟨pt, 1, none⟩ = some (S nt) ∧ W.cell? ⟨pt, 2, none⟩ = some (S dt) from fun W h => ⟨(h.row _ (.head _)).cell 0, (h.row _ (.head _)).cell 1, (h.row _ (.head _)).cell 2, (h.row _ (.tail _ (.head _))).cell 0, (h.row _ (.tail _ (.head _))).cell 1, (h.row _ (.tail _ (.head _))).cell 2, (h.row _ (.tail _ (.head _))).cell 3, (h.row _ (.tail _ (.head _))).cell 4, (h.row _ (.tail _ (.head _))).cell 5, (h.row _ (.tail _ (.head _))).cell 6, (h.row _ (.tail _ (.head _))).cell 7, (h.row _ (.tail _ (.head _))).cell 8, (h.row _ (.tail _ (.tail _ (.tail _ (.tail _ (.tail _ (.tail _ (.head _)))))))).cell 0, (h.row _ (.tail _ (.tail _ (.tail _ (.tail _ (.tail _ (.tail _ (.head _)))))))).cell 1, (h.row _ (.tail _ (.tail _ (.tail _ (.tail _ (.tail _ (.tail _ (.head _)))))))).cell 2⟩)
        obtain ⟨cc0, cc1, cc2, cc3, cc4, cc5, cc6, cc7, cc8, cc9, cc10, cc11, cc12, cc13, cc14⟩ := HF87.out _ HK.out
        refine (Qg.out _).mono ?_
        rintro e w118 ⟨rfl, hC⟩
        have HK2 := Lib.hid (HK.out.on hC)
        clear cc0 cc1 cc2 cc3 cc4 cc5 cc6 cc7 cc8 cc9 cc10 cc11 cc12 cc13 cc14
        clear hC HK
        have HK := HK2
        clear HK2
        obtain ⟨cc0, cc1, cc2, cc3, cc4, cc5, cc6, cc7, cc8, cc9, cc10, cc11, cc12, cc13, cc14⟩ := HF87.out _ HK.out
        obtain ⟨dd0, dd1, dd2, dd3, dd4, dd5, dd6, dd7, dd8, dd9, dd10, dd11, dd12, dd13, dd14⟩ : (∀ o : Obj, (w118.alloc o).cell? ⟨Rm, 0, none⟩ = some (.bool sg)) ∧ (∀ o : Obj, (w118.alloc o).cell? ⟨Rm, 1, none⟩ = some (S ng)) ∧ (∀ o : Obj, (w118.alloc o).cell? ⟨Rm, 2, none⟩ = some (S dg)) ∧ (∀ o : Obj, (w118.alloc o).cell? ⟨SL, 0, none⟩ = some (.bool sd)) ∧ (∀ o : Obj, (w118.alloc o).cell? ⟨SL, 1, none⟩ = some (S nd)) ∧ (∀ o : Obj, (w118.alloc o).cell? ⟨SL, 2, none⟩ = some (S dd)) ∧ (∀ o : Obj, (w118.alloc o).cell? ⟨SL, 3, none⟩ = some (.bool su)) ∧ (∀ o : Obj, (w118.alloc o).cell? ⟨SL, 4, none⟩ = some (S nu)) ∧ (∀ o : Obj, (w118.alloc o).cell? ⟨SL, 5, none⟩ = some (S du)) ∧ (∀ o : Obj, (w118.alloc o).cell? ⟨SL, 6, none⟩ = some (.bool sg)) ∧ (∀ o : Obj, (w118.alloc o).cell? ⟨SL, 7, none⟩ = some (S ng)) ∧ (∀ o : Obj, (w118.alloc o).cell? ⟨SL, 8, none⟩ = some (S dg)) ∧ (∀ o : Obj, (w118.alloc o).cell? ⟨pt, 0, none⟩ = some (.bool st)) ∧ (∀ o : Obj, (w118.alloc o).cell? ⟨pt, 1, none⟩ = some (S nt)) ∧ (∀ o : Obj, (w118.alloc o).cell? ⟨pt, 2, none⟩ = some (S dt)) := by
          have hall := fun o : Obj => HF87.out _ (HK.out.other o)
          exact ⟨fun o => (hall o).1, fun o => (hall o).2.1, fun o => (hall o).2.2.1, fun o => (hall o).2.2.2.1, fun o => (hall o).2.2.2.2.1, fun o => (hall o).2.2.2.2.2.1, fun o => (hall o).2.2.2.2.2.2.1, fun o => (hall o).2.2.2.2.2.2.2.1, fun o => (hall o).2.2.2.2.2.2.2.2.1, fun o => (hall o).2.2.2.2.2.2.2.2.2.1, fun o => (hall o).2.2.2.2.2.2.2.2.2.2.1, fun o => (hall o).2.2.2.2.2.2.2.2.2.2.2.1, fun o => (hall o).2.2.2.2.2.2.2.2.2.2.2.2.1, fun o => (hall o).2.2.2.2.2.2.2.2.2.2.2.2.2.1, fun o => (hall o).2.2.2.2.2.2.2.2.2.2.2.2.2.2⟩
        go_wp2_with fail
        clear cc0 cc1 cc2 cc3 cc4 cc5 cc6 cc7 cc8 cc9 cc10 cc11 cc12 cc13 cc14 dd0 dd1 dd2 dd3 dd4 dd5 dd6 dd7 dd8 dd9 dd10 dd11 dd12 dd13 dd14
        have HK2 := Lib.hid (HK.out.new #[.bool qg, S kg, S [1]] 26)
        obtain ⟨w119, hW⟩ : ∃ W, w118.alloc (.cells #[.bool qg, S kg, S [1]] 26 (0, 0)) = W := ⟨_, rfl⟩
        rw [hW] at HK2 ⊢
        obtain ⟨Rq, hA⟩ : ∃ A, w118.heap.size = A := ⟨_, rfl⟩
        rw [hA] at HK2 ⊢
        clear hA hW HK
        have HK := HK2
        clear HK2
        have HF88 := Lib.hid (show ∀ W, Kq w W [(Rq, 26, [.bool qg, S kg, S [1]]), (Rm, 26, [.bool sg, S ng, S dg]), (SL, 26, [.bool sd, S nd, S dd, .bool su, S nu, S du, .bool sg, S ng, S dg]), (Rg, 26, [.bool sg, S ng, S dg]), (Ru, 26, [.bool su, S nu, S du]), (Rd, 26, [.bool sd, S nd, S dd]), (pa, 26, [.bool sa, S na, S da]), (pt, 26, [.bool st, S nt, S dt])] → W.cell? ⟨Rq, 0, none⟩ = some (.bool qg) ∧ W.cell? ⟨Rq, 1, none⟩ = some (S kg) ∧ W.cell? ⟨Rq, 2, none⟩ = some (S [1]) ∧ W.cell? ⟨Rm, 0, none⟩ = some (.bool sg) ∧ W.cell? ⟨Rm, 1, none⟩ = some (S ng) ∧ W.cell? ⟨Rm, 2, none⟩ = some (S dg) ∧ W.cell? ⟨SL, 0, none⟩ = some (.bool sd) ∧ W.cell? ⟨SL, 1, none⟩ = some (S nd) ∧ W.cell? ⟨SL, 2, none⟩ = some (S dd) ∧ W.cell? ⟨SL, 3, none⟩ = some (.bool su) ∧ W.cell? ⟨SL, 4, none⟩ = some (S nu) ∧ W.cell? ⟨SL, 5, none⟩ = some (S du) ∧ W.cell? ⟨SL, 6, none⟩ = some (.bool sg) ∧ W.cell? ⟨SL, 7, none⟩ = some (S ng) ∧ W.cell? ⟨SL, 8, none⟩ = some (S dg) ∧ W.cell? ⟨pt, 0, none⟩ = some (.bool st) ∧ W.cell? ⟨pt, 1, none⟩ = some (S nt) ∧ W.cell? ⟨pt, 2, none⟩ = some (S dt) from fun W h => ⟨(h.row _ (.head _)).cell 0, (h.row _ (.head _)).cell 1, (h.row _ (.head _)).cell 2, (h.row _ (.tail _ (.head _))).cell 0, (h.row _ (.tail _ (.head _))).cell 1, (h.row _ (.tail _ (.head _))).cell 2, (h.row _ (.tail _ (.tail _ (.head _)))).cell 0, (h.row _ (.tail _ (.tail _ (.head _)))).cell 1, (h.row _ (.tail _ (.tail _ (.head _)))).cell 2, (h.row _ (.tail _ (.tail _ (.head _)))).cell 3, (h.row _ (.tail _ (.tail _ (.head _)))).cell 4, (h.row _ (.tail _ (.tail _ (.head _)))).cell 5, (h.row _ (.tail _ (.tail _ (.head _)))).cell 6, (h.row _ (.tail _ (.tail _ (.head _)))).cell 7, (h.row _ (.tail _ (.tail _ (.head _)))).cell 8, (h.row _ (.tail _ (.tail _ (.tail _ (.tail _ (.tail _ (.tail _ (.tail _ (.head _))))))))).cell 0, (h.row _ (.tail _ (.tail _ (.tail _ (.tail _ (.tail _ (.tail _ (.tail _ (.head _))))))))).cell 1, (h.row _ (.tail _ (.tail _ (.tail _ (.tail _ (.tail _ (.tail _ (.tail _ (.head _))))))))).cell 2⟩)
        obtain ⟨cc0, cc1, cc2, cc3, cc4, cc5, cc6, cc7, cc8, cc9, cc10, cc11, cc12, cc13, cc14, cc15, cc16, cc17⟩ := HF88.out _ HK.out
        refine (Eg.out _ (HT.out.ch HK.out.ch)).mono ?_
        rintro e w120 ⟨rfl, hC⟩
        have HK2 := Lib.hid (HK.out.on hC)
        clear cc0 cc1 cc2 cc3 cc4 cc5 cc6 cc7 cc8 cc9 cc10 cc11 cc12 cc13 cc14 cc15 cc16 cc17
        clear hC HK
        have HK := HK2
        clear HK2
        obtain ⟨cc0, cc1, cc2, cc3, cc4, cc5, cc6, cc7, cc8, cc9, cc10, cc11, cc12, cc13, cc14, cc15, cc16, cc17⟩ := HF88.out _ HK.out
        obtain ⟨dd0, dd1, dd2, dd3, dd4, dd5, dd6, dd7, dd8, dd9, dd10, dd11, dd12, dd13, dd14, dd15, dd16, dd17⟩ : (∀ o : Obj, (w120.alloc o).cell? ⟨Rq, 0, none⟩ = some (.bool qg)) ∧ (∀ o : Obj, (w120.alloc o).cell? ⟨Rq, 1, none⟩ = some (S kg)) ∧ (∀ o : Obj, (w120.alloc o).cell? ⟨Rq, 2, none⟩ = some (S [1])) ∧ (∀ o : Obj, (w120.alloc o).cell? ⟨Rm, 0, none⟩ = some (.bool sg)) ∧ (∀ o : Obj, (w120.alloc o).cell? ⟨Rm, 1, none⟩ = some (S ng)) ∧ (∀ o : Obj, (w120.alloc o).cell? ⟨Rm, 2, none⟩ = some (S dg)) ∧ (∀ o : Obj, (w120.alloc o).cell? ⟨SL, 0, none⟩ = some (.bool sd)) ∧ (∀ o : Obj, (w120.alloc o).cell? ⟨SL, 1, none⟩ = some (S nd)) ∧ (∀ o : Obj, (w120.alloc o).cell? ⟨SL, 2, none⟩ = some (S dd)) ∧ (∀ o : Obj, (w120.alloc o).cell? ⟨SL, 3, none⟩ = some (.bool su)) ∧ (∀ o : Obj, (w120.alloc o).cell? ⟨SL, 4, none⟩ = some (S nu)) ∧ (∀ o : Obj, (w120.alloc o).cell? ⟨SL, 5, none⟩ = some (S du)) ∧ (∀ o : Obj, (w120.alloc o).cell? ⟨SL, 6, none⟩ = some (.bool sg)) ∧ (∀ o : Obj, (w120.alloc o).cell? ⟨SL, 7, none⟩ = some (S ng)) ∧ (∀ o : Obj, (w120.alloc o).cell? ⟨SL, 8, none⟩ = some (S dg)) ∧ (∀ o : Obj, (w120.alloc o).cell? ⟨pt, 0, none⟩ = some (.bool st)) ∧ (∀ o : Obj, (w120.alloc o).cell? ⟨pt, 1, none⟩ = some (S nt)) ∧ (∀ o : Obj, (w120.alloc o).cell? ⟨pt, 2, none⟩ = some (S dt)) := by
          have hall := fun o : Obj => HF88.out _ (HK.out.other o)
          exact ⟨fun o => (hall o).1, fun o => (hall o).2.1, fun o => (hall o).2.2.1, fun o => (hall o).2.2.2.1, fun o => (hall o).2.2.2.2.1, fun o => (hall o).2.2.2.2.2.1, fun o => (hall o).2.2.2.2.2.2.1, fun o => (hall o).2.2.2.2.2.2.2.1, fun o => (hall o).2.2.2.2.2.2.2.2.1, fun o => (hall o).2.2.2.2.2.2.2.2.2.1, fun o => (hall o).2.2.2.2.2.2.2.2.2.2.1, fun o => (hall o).2.2.2.2.2.2.2.2.2.2.2.1, fun o => (hall o).2.2.2.2.2.2.2.2.2.2.2.2.1, fun o => (hall o).2.2.2.2.2.2.2.2.2.2.2.2.2.1, fun o => (hall o).2.2.2.2.2.2.2.2.2.2.2.2.2.2.1, fun o => (hall o).2.2.2.2.2.2.2.2.2.2.2.2.2.2.2.1, fun o => (hall o).2.2.2.2.2.2.2.2.2.2.2.2.2.2.2.2.1, fun o => (hall o).2.2.2.2.2.2.2.2.2.2.2.2.2.2.2.2.2⟩
        go_wp2_with fail
        clear cc0 cc1 cc2 cc3 cc4 cc5 cc6 cc7 cc8 cc9 cc10 cc11 cc12 cc13 cc14 cc15 cc16 cc17 dd0 dd1 dd2 dd3 dd4 dd5 dd6 dd7 dd8 dd9 dd10 dd11 dd12 dd13 dd14 dd15 dd16 dd17
        have HK2 := Lib.hid (HK.out.new #[.bool sg, S ng, S dg] 26)
        obtain ⟨w121, hW⟩ : ∃ W, w120.alloc (.cells #[.bool sg, S ng, S dg] 26 (0, 0)) = W := ⟨_, rfl⟩
        rw [hW] at HK2 ⊢
        obtain ⟨Re, hA⟩ : ∃ A, w120.heap.size = A := ⟨_, rfl⟩
        rw [hA] at HK2 ⊢
        clear hA hW HK
        have HK := HK2
        clear HK2
        have HF89 := Lib.hid (show ∀ W, Kq w W [(Re, 26, [.bool sg, S ng, S dg]), (Rq, 26, [.bool qg, S kg, S [1]]), (Rm, 26, [.bool sg, S ng, S dg]), (SL, 26, [.bool sd, S nd, S dd, .bool su, S nu, S du, .bool sg, S ng, S dg]), (Rg, 26, [.bool sg, S ng, S dg]), (Ru, 26, [.bool su, S nu, S du]), (Rd, 26, [.bool sd, S nd, S dd]), (pa, 26, [.bool sa, S na, S da]), (pt, 26, [.bool st, S nt, S dt])] → W.cell? ⟨Re, 0, none⟩ = some (.bool sg) ∧ W.cell? ⟨Re, 1, none⟩ = some (S ng) ∧ W.cell? ⟨Re, 2, none⟩ = some (S dg) ∧ W.cell? ⟨Rq, 0, none⟩ = some (.bool qg) ∧ W.cell? ⟨Rq, 1, none⟩ = some (S kg) ∧ W.cell? ⟨Rq, 2, none⟩ = some (S [1]) ∧ W.cell? ⟨Rm, 0, none⟩ = some (.bool sg) ∧ W.cell? ⟨Rm, 1, none⟩ = some (S ng) ∧ W.cell? ⟨Rm, 2, none⟩ = some (S dg) ∧ W.cell? ⟨SL, 0, none⟩ = some (.bool sd) ∧ W.cell? ⟨SL, 1, none⟩ = some (S nd) ∧ W.cell? ⟨SL, 2, none⟩ = some (S dd) ∧ W.cell? ⟨SL, 3, none⟩ = some (.bool su) ∧ W.cell? ⟨SL, 4, none⟩ = some (S nu) ∧ W.cell? ⟨SL, 5, none⟩ = some (S du) ∧ W.cell? ⟨SL, 6, none⟩ = some (.bool sg) ∧ W.cell? ⟨SL, 7, none⟩ = some (S ng) ∧ W.cell? ⟨SL, 8, none⟩ = some (S dg) ∧ W.cell? ⟨pt, 0, none⟩ = some (.bool st) ∧ W.cell? ⟨pt, 1, none⟩ = some (S nt) ∧ W.cell? ⟨pt, 2, none⟩ = some (S dt) from fun W h => ⟨(h.row _ (.head _)).cell 0, (h.row _ (.head _)).cell 1, (h.row _ (.head _)).cell 2, (h.row _ (.tail _ (.head _))).cell 0, (h.row _ (.tail _ (.head _))).cell 1, (h.row _ (.tail _ (.head _))).cell 2, (h.row _ (.tail _ (.tail _ (.head _)))).cell 0, (h.row _ (.tail _ (.tail _ (.head _)))).cell 1, (h.row _ (.tail _ (.tail _ (.head _)))).cell 2, (h.row _ (.tail _ (.tail _ (.tail _ (.head _))))).cell 0, (h.row _ (.tail _ (.tail _ (.tail _ (.head _))))).cell 1, (h.row _ (.tail _ (.tail _ (.tail _ (.head _))))).cell 2, (h.row _ (.tail _ (.tail _ (.tail _ (.head _))))).cell 3, (h.row _ (.tail _ (.tail _ (.tail _ (.head _))))).cell 4, (h.row _ (.tail _ (.tail _ (.tail _ (.head _))))).cell 5, (h.row _ (.tail _ (.tail _ (.tail _ (.head _))))).cell 6, (h.row _ (.tail _ (.tail _ (.tail _ (.head _))))).cell 7, (h.row _ (.tail _ (.tail _ (.tail _ (.head _))))).cell 8, (h.row _ (.tail _ (.tail _ (.tail _ (.tail _ (.tail _ (.tail _ (.tail _ (.tail _ (.head _)))))))))).cell 0, (h.row _ (.tail _ (.tail _ (.tail _ (.tail _ (.tail _ (.tail _ (.tail _ (.tail _ (.head _)))))))))).cell 1, (h.row _ (.tail _ (.tail _ (.tail _ (.tail _ (.tail _ (.tail _ (.tail _ (.tail _ (.head _)))))))))).cell 2⟩)
        obtain ⟨cc0, cc1, cc2, cc3, cc4, cc5, cc6, cc7, cc8, cc9, cc10, cc11, cc12, cc13, cc14, cc15, cc16, cc17, cc18, cc19, cc20⟩ := HF89.out _ HK.out
        refine (Ug.out _ (HT.out.ch HK.out.ch)).mono ?_
        rintro e w122 ⟨rfl, hC⟩
        have HK2 := Lib.hid (HK.out.on hC)
        clear cc0 cc1 cc2 cc3 cc4 cc5 cc6 cc7 cc8 cc9 cc10 cc11 cc12 cc13 cc14 cc15 cc16 cc17 cc18 cc19 cc20
        clear hC HK
        have HK := HK2
        clear HK2
        obtain ⟨cc0, cc1, cc2, cc3, cc4, cc5, cc6, cc7, cc8, cc9, cc10, cc11, cc12, cc13, cc14, cc15, cc16, cc17, cc18, cc19, cc20⟩ := HF89.out _ HK.out
        obtain ⟨dd0, dd1, dd2, dd3, dd4, dd5, dd6, dd7, dd8, dd9, dd10, dd11, dd12, dd13, dd14, dd15, dd16, dd17, dd18, dd19, dd20⟩ : (∀ o : Obj, (w122.alloc o).cell? ⟨Re, 0, none⟩ = some (.bool sg)) ∧ (∀ o : Obj, (w122.alloc o).cell? ⟨Re, 1, none⟩ = some (S ng)) ∧ (∀ o : Obj, (w122.alloc o).cell? ⟨Re, 2, none⟩ = some (S dg)) ∧ (∀ o : Obj, (w122.alloc o).cell? ⟨Rq, 0, none⟩ = some (.bool qg)) ∧ (∀ o : Obj, (w122.alloc o).cell? ⟨Rq, 1, none⟩ = some (S kg)) ∧ (∀ o : Obj, (w122.alloc o).cell? ⟨Rq, 2, none⟩ = some (S [1])) ∧ (∀ o : Obj, (w122.alloc o).cell? ⟨Rm, 0, none⟩ = some (.bool sg)) ∧ (∀ o : Obj, (w122.alloc o).cell? ⟨Rm, 1, none⟩ = some (S ng)) ∧ (∀ o : Obj, (w122.alloc o).cell? ⟨Rm, 2, none⟩ = some (S dg)) ∧ (∀ o : Obj, (w122.alloc o).cell? ⟨SL, 0, none⟩ = some (.bool sd)) ∧ (∀ o : Obj, (w122.alloc o).cell? ⟨SL, 1, none⟩ = some (S nd)) ∧ (∀ o : Obj, (w122.alloc o).cell? ⟨SL, 2, none⟩ = some (S dd)) ∧ (∀ o : Obj, (w122.alloc o).cell? ⟨SL, 3, none⟩ = some (.bool su)) ∧ (∀ o : Obj, (w122.alloc o).cell? ⟨SL, 4, none⟩ = some (S nu)) ∧ (∀ o : Obj, (w122.alloc o).cell? ⟨SL, 5, none⟩ = some (S du)) ∧ (∀ o : Obj, (w122.alloc o).cell? ⟨SL, 6, none⟩ = some (.bool sg)) ∧ (∀ o : Obj, (w122.alloc o).cell? ⟨SL, 7, none⟩ = some (S ng)) ∧ (∀ o : Obj, (w122.alloc o).cell? ⟨SL, 8, none⟩ = some (S dg)) ∧ (∀ o : Obj, (w122.alloc o).cell? ⟨pt, 0, none⟩ = some (.bool st)) ∧ (∀ o : Obj, (w122.alloc o).cell? ⟨pt, 1, none⟩ = some (S nt)) ∧ (∀ o : Obj, (w122.alloc o).cell? ⟨pt, 2, none⟩ = some (S dt)) := by
          have hall := fun o : Obj => HF89.out _ (HK.out.other o)
          exact ⟨fun o => (hall o).1, fun o => (hall o).2.1, fun o => (hall o).2.2.1, fun o => (hall o).2.2.2.1, fun o => (hall o).2.2.2.2.1, fun o => (hall o).2.2.2.2.2.1, fun o => (hall o).2.2.2.2.2.2.1, fun o => (hall o).2.2.2.2.2.2.2.1, fun o => (hall o).2.2.2.2.2.2.2.2.1, fun o => (hall o).2.2.2.2.2.2.2.2.2.1, fun o => (hall o).2.2.2.2.2.2.2.2.2.2.1, fun o => (hall o).2.2.2.2.2.2.2.2.2.2.2.1, fun o => (hall o).2.2.2.2.2.2.2.2.2.2.2.2.1, fun o => (hall o).2.2.2.2.2.2.2.2.2.2.2.2.2.1, fun o => (hall o).2.2.2.2.2.2.2.2.2.2.2.2.2.2.1, fun o => (hall o).2.2.2.2.2.2.2.2.2.2.2.2.2.2.2.1, fun o => (hall o).2.2.2.2.2.2.2.2.2.2.2.2.2.2.2.2.1, fun o => (hall o).2.2.2.2.2.2.2.2.2.2.2.2.2.2.2.2.2.1, fun o => (hall o).2.2.2.2.2.2.2.2.2.2.2.2.2.2.2.2.2.2.1, fun o => (hall o).2.2.2.2.2.2.2.2.2.2.2.2.2.2.2.2.2.2.2.1, fun o => (hall o).2.2.2.2.2.2.2.2.2.2.2.2.2.2.2.2.2.2.2.2⟩
        go_wp2_with fail
        refine ⟨⟨3, by decide, rfl, ?_⟩, by simp [intOf]⟩
        exact Kq.sub (HK.out.other _) (by intro p hp; simp only [List.mem_cons, List.not_mem_nil, or_false] at hp ⊢; rcases hp with rfl | rfl | rfl | rfl | rfl | rfl <;> simp)
      · have HK2 := Lib.hid (Kq.sub (l' := [(Rg, 26, [.bool sg, S ng, S dg]), (Ru, 26, [.bool su, S nu, S du]), (Rd, 26, [.bool sd, S nd, S dd]), (pa, 26, [.bool sa, S na, S da]), (pt, 26, [.bool st, S nt, S dt])]) HK.out (by intro p hp; simp only [List.mem_cons, List.not_mem_nil, or_false] at hp ⊢; rcases hp with rfl | rfl | rfl | rfl | rfl <;> simp))
        clear HK
        have HK := HK2
        clear HK2
        have HF106 := Lib.hid (show ∀ W, Kq w W [(Rg, 26, [.bool sg, S ng, S dg]), (Ru, 26, [.bool su, S nu, S du]), (Rd, 26, [.bool sd, S nd, S dd]), (pa, 26, [.bool sa, S na, S da]), (pt, 26, [.bool st, S nt, S dt])] → W.cell? ⟨Rg, 0, none⟩ = some (.bool sg) ∧ W.cell? ⟨Rg, 1, none⟩ = some (S ng) ∧ W.cell? ⟨Rg, 2, none⟩ = some (S dg) ∧ W.cell? ⟨Ru, 0, none⟩ = some (.bool su) ∧ W.cell? ⟨Ru, 1, none⟩ = some (S nu) ∧ W.cell? ⟨Ru, 2, none⟩ = some (S du) ∧ W.cell? ⟨Rd, 0, none⟩ = some (.bool sd) ∧ W.cell? ⟨Rd, 1, none⟩ = some (S nd) ∧ W.cell? ⟨Rd, 2, none⟩ = some (S dd) ∧ W.cell? ⟨pa, 0, none⟩ = some (.bool sa) ∧ W.cell? ⟨pa, 1, none⟩ = some (S na) ∧ W.cell? ⟨pa, 2, none⟩ = some (S da) ∧ W.cell? ⟨pt, 0, none⟩ = some (.bool st) ∧ W.cell? ⟨pt, 1, none⟩ = some (S nt) ∧ W.cell? ⟨pt, 2, none⟩ = some (S dt) from fun W h => ⟨(h.row _ (.head _)).cell 0, (h.row _ (.head _)).cell 1, (h.row _ (.head _)).cell 2, (h.row _ (.tail _ (.head _))).cell 0, (h.row _ (.tail _ (.head _))).cell 1, (h.row _ (.tail _ (.head _))).cell 2, (h.row _ (.tail _ (.tail _ (.head _)))).cell 0, (h.row _ (.tail _ (.tail _ (.head _)))).cell 1, (h.row _ (.tail _ (.tail _ (.head _)))).cell 2, (h.row _ (.tail _ (.tail _ (.tail _ (.head _))))).cell 0, (h.row _ (.tail _ (.tail _ (.tail _ (.head _))))).cell 1, (h.row _ (.tail _ (.tail _ (.tail _ (.head _))))).cell 2, (h.row _ (.tail _ (.tail _ (.tail _ (.tail _ (.head _)))))).cell 0, (h.row _ (.tail _ (.tail _ (.tail _ (.tail _ (.head _)))))).cell 1, (h.row _ (.tail _ (.tail _ (.tail _ (.tail _ (.head _)))))).cell 2⟩)
        obtain ⟨cc0, cc1, cc2, cc3, cc4, cc5, cc6, cc7, cc8, cc9, cc10, cc11, cc12, cc13, cc14⟩ := HF106.out _ HK.out
        go_wp2_with fail
        refine (H6.out _).mono ?_
        rintro e w158 ⟨rfl, hC⟩
        have HK2 := Lib.hid (HK.out.on hC)
        clear cc0 cc1 cc2 cc3 cc4 cc5 cc6 cc7 cc8 cc9 cc10 cc11 cc12 cc13 cc14
        clear hC HK
        have HK := HK2
        clear HK2
        obtain ⟨cc0, cc1, cc2, cc3, cc4, cc5, cc6, cc7, cc8, cc9, cc10, cc11, cc12, cc13, cc14⟩ := HF106.out _ HK.out
        obtain ⟨dd0, dd1, dd2, dd3, dd4, dd5, dd6, dd7, dd8, dd9, dd10, dd11, dd12, dd13, dd14⟩ : (∀ o : Obj, (w158.alloc o).cell? ⟨Rg, 0, none⟩ = some (.bool sg)) ∧ (∀ o : Obj, (w158.alloc o).cell? ⟨Rg, 1, none⟩ = some (S ng)) ∧ (∀ o : Obj, (w158.alloc o).cell? ⟨Rg, 2, none⟩ = some (S dg)) ∧ (∀ o : Obj, (w158.alloc o).cell? ⟨Ru, 0, none⟩ = some (.bool su)) ∧ (∀ o : Obj, (w158.alloc o).cell? ⟨Ru, 1, none⟩ = some (S nu)) ∧ (∀ o : Obj, (w158.alloc o).cell? ⟨Ru, 2, none⟩ = some (S du)) ∧ (∀ o : Obj, (w158.alloc o).cell? ⟨Rd, 0, none⟩ = some (.bool sd)) ∧ (∀ o : Obj, (w158.alloc o).cell? ⟨Rd, 1, none⟩ = some (S nd)) ∧ (∀ o : Obj, (w158.alloc o).cell? ⟨Rd, 2, none⟩ = some (S dd)) ∧ (∀ o : Obj, (w158.alloc o).cell? ⟨pa, 0, none⟩ = some (.bool sa)) ∧ (∀ o : Obj, (w158.alloc o).cell? ⟨pa, 1, none⟩ = some (S na)) ∧ (∀ o : Obj, (w158.alloc o).cell? ⟨pa, 2, none⟩ = some (S da)) ∧ (∀ o : Obj, (w158.alloc o).cell? ⟨pt, 0, none⟩ = some (.bool st)) ∧ (∀ o : Obj, (w158.alloc o).cell? ⟨pt, 1, none⟩ = some (S nt)) ∧ (∀ o : Obj, (w158.alloc o).cell? ⟨pt, 2, none⟩ = some (S dt)) := by
          have hall := fun o : Obj => HF106.out _ (HK.out.other o)
          exact ⟨fun o => (hall o).1, fun o => (hall o).2.1, fun o => (hall o).2.2.1, fun o => (hall o).2.2.2.1, fun o => (hall o).2.2.2.2.1, fun o => (hall o).2.2.2.2.2.1, fun o => (hall o).2.2.2.2.2.2.1, fun o => (hall o).2.2.2.2.2.2.2.1, fun o => (hall o).2.2.2.2.2.2.2.2.1, fun o => (hall o).2.2.2.2.2.2.2.2.2.1, fun o => (hall o).2.2.2.2.2.2.2.2.2.2.1, fun o => (hall o).2.2.2.2.2.2.2.2.2.2.2.1, fun o => (hall o).2.2.2.2.2.2.2.2.2.2.2.2.1, fun o => (hall o).2.2.2.2.2.2.2.2.2.2.2.2.2.1, fun o => (hall o).2.2.2.2.2.2.2.2.2.2.2.2.2.2⟩
        go_wp2_with fail
        clear cc0 cc1 cc2 cc3 cc4 cc5 cc6 cc7 cc8 cc9 cc10 cc11 cc12 cc13 cc14 dd0 dd1 dd2 dd3 dd4 dd5 dd6 dd7 dd8 dd9 dd10 dd11 dd12 dd13 dd14
        have HK2 := Lib.hid (HK.out.new #[.bool false, S ne, S de] 26)
        obtain ⟨w159, hW⟩ : ∃ W, w158.alloc (.cells #[.bool false, S ne, S de] 26 (0, 0)) = W := ⟨_, rfl⟩
        rw [hW] at HK2 ⊢
        obtain ⟨Ef, hA⟩ : ∃ A, w158.heap.size = A := ⟨_, rfl⟩
        rw [hA] at HK2 ⊢
        clear hA hW HK
        have HK := HK2
        clear HK2
        have HF107 := Lib.hid (show ∀ W, Kq w W [(Ef, 26, [.bool false, S ne, S de]), (Rg, 26, [.bool sg, S ng, S dg]), (Ru, 26, [.bool su, S nu, S du]), (Rd, 26, [.bool sd, S nd, S dd]), (pa, 26, [.bool sa, S na, S da]), (pt, 26, [.bool st, S nt, S dt])] → W.cell? ⟨Ef, 0, none⟩ = some (.bool false) ∧ W.cell? ⟨Ef, 1, none⟩ = some (S ne) ∧ W.cell? ⟨Ef, 2, none⟩ = some (S de) ∧ W.cell? ⟨Rg, 0, none⟩ = some (.bool sg) ∧ W.cell? ⟨Rg, 1, none⟩ = some (S ng) ∧ W.cell? ⟨Rg, 2, none⟩ = some (S dg) ∧ W.cell? ⟨Ru, 0, none⟩ = some (.bool su) ∧ W.cell? ⟨Ru, 1, none⟩ = some (S nu) ∧ W.cell? ⟨Ru, 2, none⟩ = some (S du) ∧ W.cell? ⟨Rd, 0, none⟩ = some (.bool sd) ∧ W.cell? ⟨Rd, 1, none⟩ = some (S nd) ∧ W.cell? ⟨Rd, 2, none⟩ = some (S dd) ∧ W.cell? ⟨pa, 0, none⟩ = some (.bool sa) ∧ W.cell? ⟨pa, 1, none⟩ = some (S na) ∧ W.cell? ⟨pa, 2, none⟩ = some (S da) ∧ W.cell? ⟨pt, 0, none⟩ = some (.bool st) ∧ W.cell? ⟨pt, 1, none⟩ = some (S nt) ∧ W.cell? ⟨pt, 2, none⟩ = some (S dt) from fun W h => ⟨(h.row _ (.head _)).cell 0, (h.row _ (.head _)).cell 1, (h.row _ (.head _)).cell 2, (h.row _ (.tail _ (.head _))).cell 0, (h.row _ (.tail _ (.head _))).cell 1, (h.row _ (.tail _ (.head _))).cell 2, (h.row _ (.tail _ (.tail _ (.head _)))).cell 0, (h.row _ (.tail _ (.tail _ (.head _)))).cell 1, (h.row _ (.tail _ (.tail _ (.head _)))).cell 2, (h.row _ (.tail _ (.tail _ (.tail _ (.head _))))).cell 0, (h.row _ (.tail _ (.tail _ (.tail _ (.head _))))).cell 1, (h.row _ (.tail _ (.tail _ (.tail _ (.head _))))).cell 2, (h.row _ (.tail _ (.tail _ (.tail _ (.tail _ (.head _)))))).cell 0, (h.row _ (.tail _ (.tail _ (.tail _ (.tail _ (.head _)))))).cell 1, (h.row _ (.tail _ (.tail _ (.tail _ (.tail _ (.head _)))))).cell 2, (h.row _ (.tail _ (.tail _ (.tail _ (.tail _ (.tail _ (.head _))))))).cell 0, (h.row _ (.tail _ (.tail _ (.tail _ (.tail _ (.tail _ (.head _))))))).cell 1, (h.row _ (.tail _ (.tail _ (.tail _ (.tail _ (.tail _ (.head _))))))).cell 2⟩)
        obtain ⟨cc0, cc1, cc2, cc3, cc4, cc5, cc6, cc7, cc8, cc9, cc10, cc11, cc12, cc13, cc14, cc15, cc16, cc17⟩ := HF107.out _ HK.out
        refine (H7.out _).mono ?_
        rintro e w160 ⟨rfl, hC⟩
        have HK2 := Lib.hid (HK.out.on hC)
        clear cc0 cc1 cc2 cc3 cc4 cc5 cc6 cc7 cc8 cc9 cc10 cc11 cc12 cc13 cc14 cc15 cc16 cc17
        clear hC HK
        have HK := HK2
        clear HK2
        obtain ⟨cc0, cc1, cc2, cc3, cc4, cc5, cc6, cc7, cc8, cc9, cc10, cc11, cc12, cc13, cc14, cc15, cc16, cc17⟩ := HF107.out _ HK.out
        obtain ⟨dd0, dd1, dd2, dd3, dd4, dd5, dd6, dd7, dd8, dd9, dd10, dd11, dd12, dd13, dd14, dd15, dd16, dd17⟩ : (∀ o : Obj, (w160.alloc o).cell? ⟨Ef, 0, none⟩ = some (.bool false)) ∧ (∀ o : Obj, (w160.alloc o).cell? ⟨Ef, 1, none⟩ = some (S ne)) ∧ (∀ o : Obj, (w160.alloc o).cell? ⟨Ef, 2, none⟩ = some (S de)) ∧ (∀ o : Obj, (w160.alloc o).cell? ⟨Rg, 0, none⟩ = some (.bool sg)) ∧ (∀ o : Obj, (w160.alloc o).cell? ⟨Rg, 1, none⟩ = some (S ng)) ∧ (∀ o : Obj, (w160.alloc o).cell? ⟨Rg, 2, none⟩ = some (S dg)) ∧ (∀ o : Obj, (w160.alloc o).cell? ⟨Ru, 0, none⟩ = some (.bool su)) ∧ (∀ o : Obj, (w160.alloc o).cell? ⟨Ru, 1, none⟩ = some (S nu)) ∧ (∀ o : Obj, (w160.alloc o).cell? ⟨Ru, 2, none⟩ = some (S du)) ∧ (∀ o : Obj, (w160.alloc o).cell? ⟨Rd, 0, none⟩ = some (.bool sd)) ∧ (∀ o : Obj, (w160.alloc o).cell? ⟨Rd, 1, none⟩ = some (S nd)) ∧ (∀ o : Obj, (w160.alloc o).cell? ⟨Rd, 2, none⟩ = some (S dd)) ∧ (∀ o : Obj, (w160.alloc o).cell? ⟨pa, 0, none⟩ = some (.bool sa)) ∧ (∀ o : Obj, (w160.alloc o).cell? ⟨pa, 1, none⟩ = some (S na)) ∧ (∀ o : Obj, (w160.alloc o).cell? ⟨pa, 2, none⟩ = some (S da)) ∧ (∀ o : Obj, (w160.alloc o).cell? ⟨pt, 0, none⟩ = some (.bool st)) ∧ (∀ o : Obj, (w160.alloc o).cell? ⟨pt, 1, none⟩ = some (S nt)) ∧ (∀ o : Obj, (w160.alloc o).cell? ⟨pt, 2, none⟩ = some (S dt)) := by
          have hall := fun o : Obj => HF107.out _ (HK.out.other o)
          exact ⟨fun o => (hall o).1, fun o => (hall o).2.1, fun o => (hall o).2.2.1, fun o => (hall o).2.2.2.1, fun o => (hall o).2.2.2.2.1, fun o => (hall o).2.2.2.2.2.1, fun o => (hall o).2.2.2.2.2.2.1, fun o => (hall o).2.2.2.2.2.2.2.1, fun o => (hall o).2.2.2.2.2.2.2.2.1, fun o => (hall o).2.2.2.2.2.2.2.2.2.1, fun o => (hall o).2.2.2.2.2.2.2.2.2.2.1, fun o => (hall o).2.2.2.2.2.2.2.2.2.2.2.1, fun o => (hall o).2.2.2.2.2.2.2.2.2.2.2.2.1, fun o => (hall o).2.2.2.2.2.2.2.2.2.2.2.2.2.1, fun o => (hall o).2.2.2.2.2.2.2.2.2.2.2.2.2.2.1, fun o => (hall o).2.2.2.2.2.2.2.2.2.2.2.2.2.2.2.1, fun o => (hall o).2.2.2.2.2.2.2.2.2.2.2.2.2.2.2.2.1, fun o => (hall o).2.2.2.2.2.2.2.2.2.2.2.2.2.2.2.2.2⟩
        go_wp2_with fail
        clear cc0 cc1 cc2 cc3 cc4 cc5 cc6 cc7 cc8 cc9 cc10 cc11 cc12 cc13 cc14 cc15 cc16 cc17 dd0 dd1 dd2 dd3 dd4 dd5 dd6 dd7 dd8 dd9 dd10 dd11 dd12 dd13 dd14 dd15 dd16 dd17
        have HK2 := Lib.hid (HK.out.new #[.bool false, S nf, S df] 26)
        obtain ⟨w161, hW⟩ : ∃ W, w160.alloc (.cells #[.bool false, S nf, S df] 26 (0, 0)) = W := ⟨_, rfl⟩
        rw [hW] at HK2 ⊢
        obtain ⟨Ff, hA⟩ : ∃ A, w160.heap.size = A := ⟨_, rfl⟩
        rw [hA] at HK2 ⊢
        clear hA hW HK
        have HK := HK2
        clear HK2
        have HF108 := Lib.hid (show ∀ W, Kq w W [(Ff, 26, [.bool false, S nf, S df]), (Ef, 26, [.bool false, S ne, S de]), (Rg, 26, [.bool sg, S ng, S dg]), (Ru, 26, [.bool su, S nu, S du]), (Rd, 26, [.bool sd, S nd, S dd]), (pa, 26, [.bool sa, S na, S da]), (pt, 26, [.bool st, S nt, S dt])] → W.cell? ⟨Ff, 0, none⟩ = some (.bool false) ∧ W.cell? ⟨Ff, 1, none⟩ = some (S nf) ∧ W.cell? ⟨Ff, 2, none⟩ = some (S df) ∧ W.cell? ⟨Ef, 0, none⟩ = some (.bool false) ∧ W.cell? ⟨Ef, 1, none⟩ = some (S ne) ∧ W.cell? ⟨Ef, 2, none⟩ = some (S de) ∧ W.cell? ⟨Rg, 0, none⟩ = some (.bool sg) ∧ W.cell? ⟨Rg, 1, none⟩ = some (S ng) ∧ W.cell? ⟨Rg, 2, none⟩ = some (S dg) ∧ W.cell? ⟨Ru, 0, none⟩ = some (.bool su) ∧ W.cell? ⟨Ru, 1, none⟩ = some (S nu) ∧ W.cell? ⟨Ru, 2, none⟩ = some (S du) ∧ W.cell? ⟨Rd, 0, none⟩ = some (.bool sd) ∧ W.cell? ⟨Rd, 1, none⟩ = some (S nd) ∧ W.cell? ⟨Rd, 2, none⟩ = some (S dd) ∧ W.cell? ⟨pa, 0, none⟩ = some (.bool sa) ∧ W.cell? ⟨pa, 1, none⟩ = some (S na) ∧ W.cell? ⟨pa, 2, none⟩ = some (S da) ∧ W.cell? ⟨pt, 0, none⟩ = some (.bool st) ∧ W.cell? ⟨pt, 1, none⟩ = some (S nt) ∧ W.cell? ⟨pt, 2, none⟩ = some (S dt) from fun W h => ⟨(h.row _ (.head _)).cell 0, (h.row _ (.head _)).cell 1, (h.row _ (.head _)).cell 2, (h.row _ (.tail _ (.head _))).cell 0, (h.row _ (.tail _ (.head _))).cell 1, (h.row _ (.tail _ (.head _))).cell 2, (h.row _ (.tail _ (.tail _ (.head _)))).cell 0, (h.row _ (.tail _ (.tail _ (.head _)))).cell 1, (h.row _ (.tail _ (.tail _ (.head _)))).cell 2, (h.row _ (.tail _ (.tail _ (.tail _ (.head _))))).cell 0, (h.row _ (.tail _ (.tail _ (.tail _ (.head _))))).cell 1, (h.row _ (.tail _ (.tail _ (.tail _ (.head _))))).cell 2, (h.row _ (.tail _ (.tail _ (.tail _ (.tail _ (.head _)))))).cell 0, (h.row _ (.tail _ (.tail _ (.tail _ (.tail _ (.head _)))))).cell 1, (h.row _ (.tail _ (.tail _ (.tail _ (.tail _ (.head _)))))).cell 2, (h.row _ (.tail _ (.tail _ (.tail _ (.tail _ (.tail _ (.head _))))))).cell 0, (h.row _ (.tail _ (.tail _ (.tail _ (.tail _ (.tail _ (.head _))))))).cell 1, (h.row _ (.tail _ (.tail _ (.tail _ (.tail _ (.tail _ (.head _))))))).cell 2, (h.row _ (.tail _ (.tail _ (.tail _ (.tail _ (.tail _ (.tail _ (.head _)))))))).cell 0, (h.row _ (.tail _ (.tail _ (.tail _ (.tail _ (.tail _ (.tail _ (.head _)))))))).cell 1, (h.row _ (.tail _ (.tail _ (.tail _ (.tail _ (.tail _ (.tail _ (.head _)))))))).cell 2⟩)
        obtain ⟨cc0, cc1, cc2, cc3, cc4, cc5, cc6, cc7, cc8, cc9, cc10, cc11, cc12, cc13, cc14, cc15, cc16, cc17, cc18, cc19, cc20⟩ := HF108.out _ HK.out
        refine (H8.out _).mono ?_
        rintro e w162 ⟨rfl, hC⟩
        have HK2 := Lib.hid (HK.out.on hC)
        clear cc0 cc1 cc2 cc3 cc4 cc5 cc6 cc7 cc8 cc9 cc10 cc11 cc12 cc13 cc14 cc15 cc16 cc17 cc18 cc19 cc20
        clear hC HK
        have HK := HK2
        clear HK2
        obtain ⟨cc0, cc1, cc2, cc3, cc4, cc5, cc6, cc7, cc8, cc9, cc10, cc11, cc12, cc13, cc14, cc15, cc16, cc17, cc18, cc19, cc20⟩ := HF108.out _ HK.out
        go_wp2_with fail
        refine (H9.out _).mono ?_
        rintro e w163 ⟨rfl, hC⟩
        have HK2 := Lib.hid (HK.out.on hC)
        clear cc0 cc1 cc2 cc3 cc4 cc5 cc6 cc7 cc8 cc9 cc10 cc11 cc12 cc13 cc14 cc15 cc16 cc17 cc18 cc19 cc20
        clear hC HK
        have HK := HK2
        clear HK2
        obtain ⟨cc0, cc1, cc2, cc3, cc4, cc5, cc6, cc7, cc8, cc9, cc10, cc11, cc12, cc13, cc14, cc15, cc16, cc17, cc18, cc19, cc20⟩ := HF108.out _ HK.out
        go_wp2_with fail
        refine (H10.out _).mono ?_
        rintro e w164 ⟨rfl, hC⟩
        have HK2 := Lib.hid (HK.out.on hC)
        clear cc0 cc1 cc2 cc3 cc4 cc5 cc6 cc7 cc8 cc9 cc10 cc11 cc12 cc13 cc14 cc15 cc16 cc17 cc18 cc19 cc20
        clear hC HK
        have HK := HK2
        clear HK2
        obtain ⟨cc0, cc1, cc2, cc3, cc4, cc5, cc6, cc7, cc8, cc9, cc10, cc11, cc12, cc13, cc14, cc15, cc16, cc17, cc18, cc19, cc20⟩ := HF108.out _ HK.out
        obtain ⟨hc3, rfl, rfl, rfl⟩ | ⟨hc3, rfl, rfl, rfl⟩ := hcs
        all_goals
          go_wp2_with fail
          go_ret
          exact ⟨rfl, HK.out.ch⟩
  have LS1_01 : ∀ (pa pt : Nat) (W : World), Kq w W [(B + 1, 22, [.int .i64 z0, .int .i64 z1, .int .i64 z2]), (B, 22, [.int .i64 x0, .int .i64 x1, .int .i64 x2])] → Blk W pa 26 [.bool false, S [], S []] → Blk W pt 26 [.bool false, S [], S []] → B + 1 < pa → B + 1 < pt → pa ≠ pt → X 3 #[true, true, true, false, true, true, false, false] { tmps := #[.agg #[.int .i64 x0, .int .i64 x1, .int .i64 x2], .agg #[.int .i64 z0, .int .i64 z1, .int .i64 z2], .pointer (some ⟨B, 0, none⟩), .pointer (some ⟨B + 1, 0, none⟩), .bool false, .bool true, .pointer (some ⟨pa, 0, none⟩), .pointer (some ⟨pt, 0, none⟩), undef, undef, undef, undef, undef, undef, undef, undef, undef, undef, undef, undef, undef, undef, undef, undef, .bool true, .agg #[.int .i64 x0, .int .i64 x1, .int .i64 x2], Rv sa na da, .agg #[.int .i64 z0, .int .i64 z1, .int .i64 z2], undef, undef, undef, undef, undef, undef, undef, undef, undef, undef, undef, undef, undef, undef, undef, undef, undef, undef, undef, undef, undef, undef, undef, undef, undef, undef, undef, undef, undef, undef, undef, undef, undef, undef, undef, undef, undef, undef, undef, undef, undef, undef, undef, undef, undef, undef, undef, undef, undef, undef, undef, undef, undef, undef, undef, undef, undef, undef, undef, undef, undef, undef, undef, undef, undef, undef, undef, undef, undef, undef, undef, undef, undef, undef, undef, undef, undef, undef, undef, undef, undef, undef, undef, undef, undef, undef, undef, undef, undef, undef, undef, undef, undef, undef, undef, undef, undef, undef, undef, undef, undef, undef, undef, undef, undef, undef, undef, undef, undef, undef, undef, undef, undef, undef, undef, undef, undef, undef, undef, undef, undef, undef], defers := [] } W := by
    intro pa pt W hK0 bpa bpt gpa gpt dpapt
    have HK := Lib.hid hK0
    clear hK0
    have hHeld := HF1.out _ HK.out
    refine HXO.out _ _ _ _ ?_
    refine wpAnyH_ready (rs := [3]) (by kernel_rfl) (by simp) ?_
    refine AllReadyH.cons (at_list rfl) (fun K hK => ?_) (AllReadyH.nil)
    · go_simp
      go_at_call 13
      with_reducible refine (H2.out _ (HT.out.ch HK.out.ch)).mono ?_
      rintro e wq ⟨rfl, hCq⟩
      have HK2 := Lib.hid (HK.out.on hCq)
      clear hHeld
      first | (refine hK.out _ _ ?_ (fun hHeld => ?_)) | (go_wp2_with fail; refine hK.out _ _ ?_ (fun hHeld => ?_))
      · (try dsimp only); exact HF1.out _ HK2.out
      (try simp only [List.setIfInBounds_toArray, List.set_cons_zero, List.set_cons_succ])
      exact HXI.out _ _ _ _ (LS2_01 _ _ _ HK2.out (hCq.blk bpa (Blk.lt bpa) (fun q => q)) (hCq.blk bpt (Blk.lt bpt) (fun q => q)) gpa gpt dpapt)
  have LS2_0 : ∀ (pa : Nat) (W : World), Kq w W [(B + 1, 22, [.int .i64 z0, .int .i64 z1, .int .i64 z2]), (B, 22, [.int .i64 x0, .int .i64 x1, .int .i64 x2])] → Blk W pa 26 [.bool false, S [], S []] → B + 1 < pa → X 3 #[true, true, true, true, true, false, false, false] { tmps := #[.agg #[.int .i64 x0, .int .i64 x1, .int .i64 x2], .agg #[.int .i64 z0, .int .i64 z1, .int .i64 z2], .pointer (some ⟨B, 0, none⟩), .pointer (some ⟨B + 1, 0, none⟩), .bool false, .bool true, .pointer (some ⟨pa, 0, none⟩), undef, undef, undef, undef, undef, undef, undef, undef, undef, undef, undef, undef, undef, undef, undef, undef, undef, .bool true, .agg #[.int .i64 x0, .int .i64 x1, .int .i64 x2], Rv sa na da, .agg #[.int .i64 z0, .int .i64 z1, .int .i64 z2], Rv st nt dt, undef, undef, undef, undef, undef, undef, undef, undef, undef, undef, undef, undef, undef, undef, undef, undef, undef, undef, undef, undef, undef, undef, undef, undef, undef, undef, undef, undef, undef, undef, undef, undef, undef, undef, undef, undef, undef, undef, undef, undef, undef, undef, undef, undef, undef, undef, undef, undef, undef, undef, undef, undef, undef, undef, undef, undef, undef, undef, undef, undef, undef, undef, undef, undef, undef, undef, undef, undef, undef, undef, undef, undef, undef, undef, undef, undef, undef, undef, undef, undef, undef, undef, undef, undef, undef, undef, undef, undef, undef, undef, undef, undef, undef, undef, undef, undef, undef, undef, undef, undef, undef, undef, undef, undef, undef, undef, undef, undef, undef, undef, undef, undef, undef, undef, undef, undef, undef, undef, undef, undef, undef], defers := [] } W := by
    intro pa W hK0 bpa gpa
    have HK := Lib.hid hK0
    clear hK0
    have hHeld := HF1.out _ HK.out
    refine HXO.out _ _ _ _ ?_
    refine wpAnyH_ready (rs := [5]) (by kernel_rfl) (by simp) ?_
    refine AllReadyH.cons (at_list rfl) (fun K hK => ?_) (AllReadyH.nil)
    · go_simp
      have HK2 := Lib.hid (HK.out.other (.cells #[.bool false, S [], S []] 26 (0, 0)))
      have nB := Blk.new W #[.bool false, S [], S []] 26
      have nG : B + 1 < W.heap.size := (HK.out.row _ (.head _)).lt
      clear hHeld
      refine hK.out _ _ ?_ (fun hHeld => ?_)
      · (try dsimp only); exact HF1.out _ HK2.out
      (try simp only [List.setIfInBounds_toArray, List.set_cons_zero, List.set_cons_succ])
      exact HXI.out _ _ _ _ (LS2_01 _ _ _ HK2.out (Blk.alloc bpa _) nB gpa nG (Nat.ne_of_lt (Blk.lt bpa)))
  have LS2_1 : ∀ (pt : Nat) (W : World), Kq w W [(B + 1, 22, [.int .i64 z0, .int .i64 z1, .int .i64 z2]), (B, 22, [.int .i64 x0, .int .i64 x1, .int .i64 x2])] → Blk W pt 26 [.bool false, S [], S []] → B + 1 < pt → X 3 #[true, true, true, true, false, true, false, false] { tmps := #[.agg #[.int .i64 x0, .int .i64 x1, .int .i64 x2], .agg #[.int .i64 z0, .int .i64 z1, .int .i64 z2], .pointer (some ⟨B, 0, none⟩), .pointer (some ⟨B + 1, 0, none⟩), .bool false, .bool true, undef, .pointer (some ⟨pt, 0, none⟩), undef, undef, undef, undef, undef, undef, undef, undef, undef, undef, undef, undef, undef, undef, undef, undef, .bool true, .agg #[.int .i64 x0, .int .i64 x1, .int .i64 x2], Rv sa na da, .agg #[.int .i64 z0, .int .i64 z1, .int .i64 z2], Rv st nt dt, undef, undef, undef, undef, undef, undef, undef, undef, undef, undef, undef, undef, undef, undef, undef, undef, undef, undef, undef, undef, undef, undef, undef, undef, undef, undef, undef, undef, undef, undef, undef, undef, undef, undef, undef, undef, undef, undef, undef, undef, undef, undef, undef, undef, undef, undef, undef, undef, undef, undef, undef, undef, undef, undef, undef, undef, undef, undef, undef, undef, undef, undef, undef, undef, undef, undef, undef, undef, undef, undef, undef, undef, undef, undef, undef, undef, undef, undef, undef, undef, undef, undef, undef, undef, undef, undef, undef, undef, undef, undef, undef, undef, undef, undef, undef, undef, undef, undef, undef, undef, undef, undef, undef, undef, undef, undef, undef, undef, undef, undef, undef, undef, undef, undef, undef, undef, undef, undef, undef, undef, undef], defers := [] } W := by
    intro pt W hK0 bpt gpt
    have HK := Lib.hid hK0
    clear hK0
    have hHeld := HF1.out _ HK.out
    refine HXO.out _ _ _ _ ?_
    refine wpAnyH_ready (rs := [4]) (by kernel_rfl) (by simp) ?_
    refine AllReadyH.cons (at_list rfl) (fun K hK => ?_) (AllReadyH.nil)
    · go_simp
      have HK2 := Lib.hid (HK.out.other (.cells #[.bool false, S [], S []] 26 (0, 0)))
      have nB := Blk.new W #[.bool false, S [], S []] 26
      have nG : B + 1 < W.heap.size := (HK.out.row _ (.head _)).lt
      clear hHeld
      refine hK.out _ _ ?_ (fun hHeld => ?_)
      · (try dsimp only); exact HF1.out _ HK2.out
      (try simp only [List.setIfInBounds_toArray, List.set_cons_zero, List.set_cons_succ])
      exact HXI.out _ _ _ _ (LS2_01 _ _ _ HK2.out nB (Blk.alloc bpt _) nG gpt (Nat.ne_of_gt (Blk.lt bpt)))
  have LS0_01 : ∀ (pa pt : Nat) (W : World), Kq w W [(B + 1, 22, [.int .i64 z0, .int .i64 z1, .int .i64 z2]), (B, 22, [.int .i64 x0, .int .i64 x1, .int .i64 x2])] → Blk W pa 26 [.bool false, S [], S []] → Blk W pt 26 [.bool false, S [], S []] → B + 1 < pa → B + 1 < pt → pa ≠ pt → X 4 #[true, false, true, false, true, true, false, false] { tmps := #[.agg #[.int .i64 x0, .int .i64 x1, .int .i64 x2], .agg #[.int .i64 z0, .int .i64 z1, .int .i64 z2], .pointer (some ⟨B, 0, none⟩), .pointer (some ⟨B + 1, 0, none⟩), .bool false, .bool true, .pointer (some ⟨pa, 0, none⟩), .pointer (some ⟨pt, 0, none⟩), undef, undef, undef, undef, undef, undef, undef, undef, undef, undef, undef, undef, undef, undef, undef, undef, .bool true, .agg #[.int .i64 x0, .int .i64 x1, .int .i64 x2], undef, .agg #[.int .i64 z0, .int .i64 z1, .int .i64 z2], undef, undef, undef, undef, undef, undef, undef, undef, undef, undef, undef, undef, undef, undef, undef, undef, undef, undef, undef, undef, undef, undef, undef, undef, undef, undef, undef, undef, undef, undef, undef, undef, undef, undef, undef, undef, undef, undef, undef, undef, undef, undef, undef, undef, undef, undef, undef, undef, undef, undef, undef, undef, undef, undef, undef, undef, undef, undef, undef, undef, undef, undef, undef, undef, undef, undef, undef, undef, undef, undef, undef, undef, undef, undef, undef, undef, undef, undef, undef, undef, undef, undef, undef, undef, undef, undef, undef, undef, undef, undef, undef, undef, undef, undef, undef, undef, undef, undef, undef, undef, undef, undef, undef, undef, undef, undef, undef, undef, undef, undef, undef, undef, undef, undef, undef, undef, undef, undef, undef, undef, undef, undef], defers := [] } W := by
    intro pa pt W hK0 bpa bpt gpa gpt dpapt
    have HK := Lib.hid hK0
    clear hK0
    have hHeld := HF1.out _ HK.out
    refine HXO.out _ _ _ _ ?_
    refine wpAnyH_ready (rs := [1]) (by kernel_rfl) (by simp) ?_
    refine AllReadyH.cons (at_list rfl) (fun K hK => ?_) (AllReadyH.nil)
    · go_simp
      go_at_call 12
      with_reducible refine (H1.out _).mono ?_
      rintro e wq ⟨rfl, hCq⟩
      have HK2 := Lib.hid (HK.out.on hCq)
      clear hHeld
      first | (refine hK.out _ _ ?_ (fun hHeld => ?_)) | (go_wp2_with fail; refine hK.out _ _ ?_ (fun hHeld => ?_))
      · (try dsimp only); exact HF1.out _ HK2.out
      (try simp only [List.setIfInBounds_toArray, List.set_cons_zero, List.set_cons_succ])
      exact HXI.out _ _ _ _ (LS1_01 _ _ _ HK2.out (hCq.blk bpa (Blk.lt bpa) (fun q => q)) (hCq.blk bpt (Blk.lt bpt) (fun q => q)) gpa gpt dpapt)
  have LS1_0 : ∀ (pa : Nat) (W : World), Kq w W [(B + 1, 22, [.int .i64 z0, .int .i64 z1, .int .i64 z2]), (B, 22, [.int .i64 x0, .int .i64 x1, .int .i64 x2])] → Blk W pa 26 [.bool false, S [], S []] → B + 1 < pa → X 4 #[true, true, true, false, true, false, false, false] { tmps := #[.agg #[.int .i64 x0, .int .i64 x1, .int .i64 x2], .agg #[.int .i64 z0, .int .i64 z1, .int .i64 z2], .pointer (some ⟨B, 0, none⟩), .pointer (some ⟨B + 1, 0, none⟩), .bool false, .bool true, .pointer (some ⟨pa, 0, none⟩), undef, undef, undef, undef, undef, undef, undef, undef, undef, undef, undef, undef, undef, undef, undef, undef, undef, .bool true, .agg #[.int .i64 x0, .int .i64 x1, .int .i64 x2], Rv sa na da, .agg #[.int .i64 z0, .int .i64 z1, .int .i64 z2], undef, undef, undef, undef, undef, undef, undef, undef, undef, undef, undef, undef, undef, undef, undef, undef, undef, undef, undef, undef, undef, undef, undef, undef, undef, undef, undef, undef, undef, undef, undef, undef, undef, undef, undef, undef, undef, undef, undef, undef, undef, undef, undef, undef, undef, undef, undef, undef, undef, undef, undef, undef, undef, undef, undef, undef, undef, undef, undef, undef, undef, undef, undef, undef, undef, undef, undef, undef, undef, undef, undef, undef, undef, undef, undef, undef, undef, undef, undef, undef, undef, undef, undef, undef, undef, undef, undef, undef, undef, undef, undef, undef, undef, undef, undef, undef, undef, undef, undef, undef, undef, undef, undef, undef, undef, undef, undef, undef, undef, undef, undef, undef, undef, undef, undef, undef, undef, undef, undef, undef, undef, undef], defers := [] } W := by
    intro pa W hK0 bpa gpa
    have HK := Lib.hid hK0
    clear hK0
    have hHeld := HF1.out _ HK.out
    refine HXO.out _ _ _ _ ?_
    refine wpAnyH_ready (rs := [3, 5]) (by kernel_rfl) (by simp) ?_
    refine AllReadyH.cons (at_list rfl) (fun K hK => ?_) (AllReadyH.cons (at_list rfl) (fun K hK => ?_) (AllReadyH.nil))
    · go_simp
      go_at_call 13
      with_reducible refine (H2.out _ (HT.out.ch HK.out.ch)).mono ?_
      rintro e wq ⟨rfl, hCq⟩
      have HK2 := Lib.hid (HK.out.on hCq)
      clear hHeld
      first | (refine hK.out _ _ ?_ (fun hHeld => ?_)) | (go_wp2_with fail; refine hK.out _ _ ?_ (fun hHeld => ?_))
      · (try dsimp only); exact HF1.out _ HK2.out
      (try simp only [List.setIfInBounds_toArray, List.set_cons_zero, List.set_cons_succ])
      exact HXI.out _ _ _ _ (LS2_0 _ _ HK2.out (hCq.blk bpa (Blk.lt bpa) (fun q => q)) gpa)
    · go_simp
      have HK2 := Lib.hid (HK.out.other (.cells #[.bool false, S [], S []] 26 (0, 0)))
      have nB := Blk.new W #[.bool false, S [], S []] 26
      have nG : B + 1 < W.heap.size := (HK.out.row _ (.head _)).lt
      clear hHeld
      refine hK.out _ _ ?_ (fun hHeld => ?_)
      · (try dsimp only); exact HF1.out _ HK2.out
      (try simp only [List.setIfInBounds_toArray, List.set_cons_zero, List.set_cons_succ])
      exact HXI.out _ _ _ _ (LS1_01 _ _ _ HK2.out (Blk.alloc bpa _) nB gpa nG (Nat.ne_of_lt (Blk.lt bpa)))
  have LS1_1 : ∀ (pt : Nat) (W : World), Kq w W [(B + 1, 22, [.int .i64 z0, .int .i64 z1, .int .i64 z2]), (B, 22, [.int .i64 x0, .int .i64 x1, .int .i64 x2])] → Blk W pt 26 [.bool false, S [], S []] → B + 1 < pt → X 4 #[true, true, true, false, false, true, false, false] { tmps := #[.agg #[.int .i64 x0, .int .i64 x1, .int .i64 x2], .agg #[.int .i64 z0, .int .i64 z1, .int .i64 z2], .pointer (some ⟨B, 0, none⟩), .pointer (some ⟨B + 1, 0, none⟩), .bool false, .bool true, undef, .pointer (some ⟨pt, 0, none⟩), undef, undef, undef, undef, undef, undef, undef, undef, undef, undef, undef, undef, undef, undef, undef, undef, .bool true, .agg #[.int .i64 x0, .int .i64 x1, .int .i64 x2], Rv sa na da, .agg #[.int .i64 z0, .int .i64 z1, .int .i64 z2], undef, undef, undef, undef, undef, undef, undef, undef, undef, undef, undef, undef, undef, undef, undef, undef, undef, undef, undef, undef, undef, undef, undef, undef, undef, undef, undef, undef, undef, undef, undef, undef, undef, undef, undef, undef, undef, undef, undef, undef, undef, undef, undef, undef, undef, undef, undef, undef, undef, undef, undef, undef, undef, undef, undef, undef, undef, undef, undef, undef, undef, undef, undef, undef, undef, undef, undef, undef, undef, undef, undef, undef, undef, undef, undef, undef, undef, undef, undef, undef, undef, undef, undef, undef, undef, undef, undef, undef, undef, undef, undef, undef, undef, undef, undef, undef, undef, undef, undef, undef, undef, undef, undef, undef, undef, undef, undef, undef, undef, undef, undef, undef, undef, undef, undef, undef, undef, undef, undef, undef, undef, undef], defers := [] } W := by
    intro pt W hK0 bpt gpt
    have HK := Lib.hid hK0
    clear hK0
    have hHeld := HF1.out _ HK.out
    refine HXO.out _ _ _ _ ?_
    refine wpAnyH_ready (rs := [3, 4]) (by kernel_rfl) (by simp) ?_
    refine AllReadyH.cons (at_list rfl) (fun K hK => ?_) (AllReadyH.cons (at_list rfl) (fun K hK => ?_) (AllReadyH.nil))
    · go_simp
      go_at_call 13
      with_reducible refine (H2.out _ (HT.out.ch HK.out.ch)).mono ?_
      rintro e wq ⟨rfl, hCq⟩
      have HK2 := Lib.hid (HK.out.on hCq)
      clear hHeld
      first | (refine hK.out _ _ ?_ (fun hHeld => ?_)) | (go_wp2_with fail; refine hK.out _ _ ?_ (fun hHeld => ?_))
      · (try dsimp only); exact HF1.out _ HK2.out
      (try simp only [List.setIfInBounds_toArray, List.set_cons_zero, List.set_cons_succ])
      exact HXI.out _ _ _ _ (LS2_1 _ _ HK2.out (hCq.blk bpt (Blk.lt bpt) (fun q => q)) gpt)
    · go_simp
      have HK2 := Lib.hid (HK.out.other (.cells #[.bool false, S [], S []] 26 (0, 0)))
      have nB := Blk.new W #[.bool false, S [], S []] 26
      have nG : B + 1 < W.heap.size := (HK.out.row _ (.head _)).lt
      clear hHeld
      refine hK.out _ _ ?_ (fun hHeld => ?_)
      · (try dsimp only); exact HF1.out _ HK2.out
      (try simp only [List.setIfInBounds_toArray, List.set_cons_zero, List.set_cons_succ])
      exact HXI.out _ _ _ _ (LS1_01 _ _ _ HK2.out nB (Blk.alloc bpt _) nG gpt (Nat.ne_of_gt (Blk.lt bpt)))
  have LS2_ : ∀ (W : World), Kq w W [(B + 1, 22, [.int .i64 z0, .int .i64 z1, .int .i64 z2]), (B, 22, [.int .i64 x0, .int .i64 x1, .int .i64 x2])] → X 4 #[true, true, true, true, false, false, false, false] { tmps := #[.agg #[.int .i64 x0, .int .i64 x1, .int .i64 x2], .agg #[.int .i64 z0, .int .i64 z1, .int .i64 z2], .pointer (some ⟨B, 0, none⟩), .pointer (some ⟨B + 1, 0, none⟩), .bool false, .bool true, undef, undef, undef, undef, undef, undef, undef, undef, undef, undef, undef, undef, undef, undef, undef, undef, undef, undef, .bool true, .agg #[.int .i64 x0, .int .i64 x1, .int .i64 x2], Rv sa na da, .agg #[.int .i64 z0, .int .i64 z1, .int .i64 z2], Rv st nt dt, undef, undef, undef, undef, undef, undef, undef, undef, undef, undef, undef, undef, undef, undef, undef, undef, undef, undef, undef, undef, undef, undef, undef, undef, undef, undef, undef, undef, undef, undef, undef, undef, undef, undef, undef, undef, undef, undef, undef, undef, undef, undef, undef, undef, undef, undef, undef, undef, undef, undef, undef, undef, undef, undef, undef, undef, undef, undef, undef, undef, undef, undef, undef, undef, undef, undef, undef, undef, undef, undef, undef, undef, undef, undef, undef, undef, undef, undef, undef, undef, undef, undef, undef, undef, undef, undef, undef, undef, undef, undef, undef, undef, undef, undef, undef, undef, undef, undef, undef, undef, undef, undef, undef, undef, undef, undef, undef, undef, undef, undef, undef, undef, undef, undef, undef, undef, undef, undef, undef, undef, undef], defers := [] } W := by
    intro  W hK0 
    have HK := Lib.hid hK0
    clear hK0
    have hHeld := HF1.out _ HK.out
    refine HXO.out _ _ _ _ ?_
    refine wpAnyH_ready (rs := [4, 5]) (by kernel_rfl) (by simp) ?_
    refine AllReadyH.cons (at_list rfl) (fun K hK => ?_) (AllReadyH.cons (at_list rfl) (fun K hK => ?_) (AllReadyH.nil))
    · go_simp
      have HK2 := Lib.hid (HK.out.other (.cells #[.bool false, S [], S []] 26 (0, 0)))
      have nB := Blk.new W #[.bool false, S [], S []] 26
      have nG : B + 1 < W.heap.size := (HK.out.row _ (.head _)).lt
      clear hHeld
      refine hK.out _ _ ?_ (fun hHeld => ?_)
      · (try dsimp only); exact HF1.out _ HK2.out
      (try simp only [List.setIfInBounds_toArray, List.set_cons_zero, List.set_cons_succ])
      exact HXI.out _ _ _ _ (LS2_0 _ _ HK2.out nB nG)
    · go_simp
      have HK2 := Lib.hid (HK.out.other (.cells #[.bool false, S [], S []] 26 (0, 0)))
      have nB := Blk.new W #[.bool false, S [], S []] 26
      have nG : B + 1 < W.heap.size := (HK.out.row _ (.head _)).lt
      clear hHeld
      refine hK.out _ _ ?_ (fun hHeld => ?_)
      · (try dsimp only); exact HF1.out _ HK2.out
      (try simp only [List.setIfInBounds_toArray, List.set_cons_zero, List.set_cons_succ])
      exact HXI.out _ _ _ _ (LS2_1 _ _ HK2.out nB nG)
  have LS0_0 : ∀ (pa : Nat) (W : World), Kq w W [(B + 1, 22, [.int .i64 z0, .int .i64 z1, .int .i64 z2]), (B, 22, [.int .i64 x0, .int .i64 x1, .int .i64 x2])] → Blk W pa 26 [.bool false, S [], S []] → B + 1 < pa → X 5 #[true, false, true, false, true, false, false, false] { tmps := #[.agg #[.int .i64 x0, .int .i64 x1, .int .i64 x2], .agg #[.int .i64 z0, .int .i64 z1, .int .i64 z2], .pointer (some ⟨B, 0, none⟩), .pointer (some ⟨B + 1, 0, none⟩), .bool false, .bool true, .pointer (some ⟨pa, 0, none⟩), undef, undef, undef, undef, undef, undef, undef, undef, undef, undef, undef, undef, undef, undef, undef, undef, undef, .bool true, .agg #[.int .i64 x0, .int .i64 x1, .int .i64 x2], undef, .agg #[.int .i64 z0, .int .i64 z1, .int .i64 z2], undef, undef, undef, undef, undef, undef, undef, undef, undef, undef, undef, undef, undef, undef, undef, undef, undef, undef, undef, undef, undef, undef, undef, undef, undef, undef, undef, undef, undef, undef, undef, undef, undef, undef, undef, undef, undef, undef, undef, undef, undef, undef, undef, undef, undef, undef, undef, undef, undef, undef, undef, undef, undef, undef, undef, undef, undef, undef, undef, undef, undef, undef, undef, undef, undef, undef, undef, undef, undef, undef, undef, undef, undef, undef, undef, undef, undef, undef, undef, undef, undef, undef, undef, undef, undef, undef, undef, undef, undef, undef, undef, undef, undef, undef, undef, undef, undef, undef, undef, undef, undef, undef, undef, undef, undef, undef, undef, undef, undef, undef, undef, undef, undef, undef, undef, undef, undef, undef, undef, undef, undef, undef], defers := [] } W := by
    intro pa W hK0 bpa gpa
    have HK := Lib.hid hK0
    clear hK0
    have hHeld := HF1.out _ HK.out
    refine HXO.out _ _ _ _ ?_
    refine wpAnyH_ready (rs := [1, 5]) (by kernel_rfl) (by simp) ?_
    refine AllReadyH.cons (at_list rfl) (fun K hK => ?_) (AllReadyH.cons (at_list rfl) (fun K hK => ?_) (AllReadyH.nil))
    · go_simp
      go_at_call 12
      with_reducible refine (H1.out _).mono ?_
      rintro e wq ⟨rfl, hCq⟩
      have HK2 := Lib.hid (HK.out.on hCq)
      clear hHeld
      first | (refine hK.out _ _ ?_ (fun hHeld => ?_)) | (go_wp2_with fail; refine hK.out _ _ ?_ (fun hHeld => ?_))
      · (try dsimp only); exact HF1.out _ HK2.out
      (try simp only [List.setIfInBounds_toArray, List.set_cons_zero, List.set_cons_succ])
      exact HXI.out _ _ _ _ (LS1_0 _ _ HK2.out (hCq.blk bpa (Blk.lt bpa) (fun q => q)) gpa)
    · go_simp
      have HK2 := Lib.hid (HK.out.other (.cells #[.bool false, S [], S []] 26 (0, 0)))
      have nB := Blk.new W #[.bool false, S [], S []] 26
      have nG : B + 1 < W.heap.size := (HK.out.row _ (.head _)).lt
      clear hHeld
      refine hK.out _ _ ?_ (fun hHeld => ?_)
      · (try dsimp only); exact HF1.out _ HK2.out
      (try simp only [List.setIfInBounds_toArray, List.set_cons_zero, List.set_cons_succ])
      exact HXI.out _ _ _ _ (LS0_01 _ _ _ HK2.out (Blk.alloc bpa _) nB gpa nG (Nat.ne_of_lt (Blk.lt bpa)))
  have LS0_1 : ∀ (pt : Nat) (W : World), Kq w W [(B + 1, 22, [.int .i64 z0, .int .i64 z1, .int .i64 z2]), (B, 22, [.int .i64 x0, .int .i64 x1, .int .i64 x2])] → Blk W pt 26 [.bool false, S [], S []] → B + 1 < pt → X 5 #[true, false, true, false, false, true, false, false] { tmps := #[.agg #[.int .i64 x0, .int .i64 x1, .int .i64 x2], .agg #[.int .i64 z0, .int .i64 z1, .int .i64 z2], .pointer (some ⟨B, 0, none⟩), .pointer (some ⟨B + 1, 0, none⟩), .bool false, .bool true, undef, .pointer (some ⟨pt, 0, none⟩), undef, undef, undef, undef, undef, undef, undef, undef, undef, undef, undef, undef, undef, undef, undef, undef, .bool true, .agg #[.int .i64 x0, .int .i64 x1, .int .i64 x2], undef, .agg #[.int .i64 z0, .int .i64 z1, .int .i64 z2], undef, undef, undef, undef, undef, undef, undef, undef, undef, undef, undef, undef, undef, undef, undef, undef, undef, undef, undef, undef, undef, undef, undef, undef, undef, undef, undef, undef, undef, undef, undef, undef, undef, undef, undef, undef, undef, undef, undef, undef, undef, undef, undef, undef, undef, undef, undef, undef, undef, undef, undef, undef, undef, undef, undef, undef, undef, undef, undef, undef, undef, undef, undef, undef, undef, undef, undef, undef, undef, undef, undef, undef, undef, undef, undef, undef, undef, undef, undef, undef, undef, undef, undef, undef, undef, undef, undef, undef, undef, undef, undef, undef, undef, undef, undef, undef, undef, undef, undef, undef, undef, undef, undef, undef, undef, undef, undef, undef, undef, undef, undef, undef, undef, undef, undef, undef, undef, undef, undef, undef, undef, undef], defers := [] } W := by
    intro pt W hK0 bpt gpt
    have HK := Lib.hid hK0
    clear hK0
    have hHeld := HF1.out _ HK.out
    refine HXO.out _ _ _ _ ?_
    refine wpAnyH_ready (rs := [1, 4]) (by kernel_rfl) (by simp) ?_
    refine AllReadyH.cons (at_list rfl) (fun K hK => ?_) (AllReadyH.cons (at_list rfl) (fun K hK => ?_) (AllReadyH.nil))
    · go_simp
      go_at_call 12
      with_reducible refine (H1.out _).mono ?_
      rintro e wq ⟨rfl, hCq⟩
      have HK2 := Lib.hid (HK.out.on hCq)
      clear hHeld
      first | (refine hK.out _ _ ?_ (fun hHeld => ?_)) | (go_wp2_with fail; refine hK.out _ _ ?_ (fun hHeld => ?_))
      · (try dsimp only); exact HF1.out _ HK2.out
      (try simp only [List.setIfInBounds_toArray, List.set_cons_zero, List.set_cons_succ])
      exact HXI.out _ _ _ _ (LS1_1 _ _ HK2.out (hCq.blk bpt (Blk.lt bpt) (fun q => q)) gpt)
    · go_simp
      have HK2 := Lib.hid (HK.out.other (.cells #[.bool false, S [], S []] 26 (0, 0)))
      have nB := Blk.new W #[.bool false, S [], S []] 26
      have nG : B + 1 < W.heap.size := (HK.out.row _ (.head _)).lt
      clear hHeld
      refine hK.out _ _ ?_ (fun hHeld => ?_)
      · (try dsimp only); exact HF1.out _ HK2.out
      (try simp only [List.setIfInBounds_toArray, List.set_cons_zero, List.set_cons_succ])
      exact HXI.out _ _ _ _ (LS0_01 _ _ _ HK2.out nB (Blk.alloc bpt _) nG gpt (Nat.ne_of_gt (Blk.lt bpt)))
  have LS1_ : ∀ (W : World), Kq w W [(B + 1, 22, [.int .i64 z0, .int .i64 z1, .int .i64 z2]), (B, 22, [.int .i64 x0, .int .i64 x1, .int .i64 x2])] → X 5 #[true, true, true, false, false, false, false, false] { tmps := #[.agg #[.int .i64 x0, .int .i64 x1, .int .i64 x2], .agg #[.int .i64 z0, .int .i64 z1, .int .i64 z2], .pointer (some ⟨B, 0, none⟩), .pointer (some ⟨B + 1, 0, none⟩), .bool false, .bool true, undef, undef, undef, undef, undef, undef, undef, undef, undef, undef, undef, undef, undef, undef, undef, undef, undef, undef, .bool true, .agg #[.int .i64 x0, .int .i64 x1, .int .i64 x2], Rv sa na da, .agg #[.int .i64 z0, .int .i64 z1, .int .i64 z2], undef, undef, undef, undef, undef, undef, undef, undef, undef, undef, undef, undef, undef, undef, undef, undef, undef, undef, undef, undef, undef, undef, undef, undef, undef, undef, undef, undef, undef, undef, undef, undef, undef, undef, undef, undef, undef, undef, undef, undef, undef, undef, undef, undef, undef, undef, undef, undef, undef, undef, undef, undef, undef, undef, undef, undef, undef, undef, undef, undef, undef, undef, undef, undef, undef, undef, undef, undef, undef, undef, undef, undef, undef, undef, undef, undef, undef, undef, undef, undef, undef, undef, undef, undef, undef, undef, undef, undef, undef, undef, undef, undef, undef, undef, undef, undef, undef, undef, undef, undef, undef, undef, undef, undef, undef, undef, undef, undef, undef, undef, undef, undef, undef, undef, undef, undef, undef, undef, undef, undef, undef, undef], defers := [] } W := by
    intro  W hK0 
    have HK := Lib.hid hK0
    clear hK0
    have hHeld := HF1.out _ HK.out
    refine HXO.out _ _ _ _ ?_
    refine wpAnyH_ready (rs := [3, 4, 5]) (by kernel_rfl) (by simp) ?_
    refine AllReadyH.cons (at_list rfl) (fun K hK => ?_) (AllReadyH.cons (at_list rfl) (fun K hK => ?_) (AllReadyH.cons (at_list rfl) (fun K hK => ?_) (AllReadyH.nil)))
    · go_simp
      go_at_call 13
      with_reducible refine (H2.out _ (HT.out.ch HK.out.ch)).mono ?_
      rintro e wq ⟨rfl, hCq⟩
      have HK2 := Lib.hid (HK.out.on hCq)
      clear hHeld
      first | (refine hK.out _ _ ?_ (fun hHeld => ?_)) | (go_wp2_with fail; refine hK.out _ _ ?_ (fun hHeld => ?_))
      · (try dsimp only); exact HF1.out _ HK2.out
      (try simp only [List.setIfInBounds_toArray, List.set_cons_zero, List.set_cons_succ])
      exact HXI.out _ _ _ _ (LS2_ _ HK2.out)
    · go_simp
      have HK2 := Lib.hid (HK.out.other (.cells #[.bool false, S [], S []] 26 (0, 0)))
      have nB := Blk.new W #[.bool false, S [], S []] 26
      have nG : B + 1 < W.heap.size := (HK.out.row _ (.head _)).lt
      clear hHeld
      refine hK.out _ _ ?_ (fun hHeld => ?_)
      · (try dsimp only); exact HF1.out _ HK2.out
      (try simp only [List.setIfInBounds_toArray, List.set_cons_zero, List.set_cons_succ])
      exact HXI.out _ _ _ _ (LS1_0 _ _ HK2.out nB nG)
    · go_simp
      have HK2 := Lib.hid (HK.out.other (.cells #[.bool false, S [], S []] 26 (0, 0)))
      have nB := Blk.new W #[.bool false, S [], S []] 26
      have nG : B + 1 < W.heap.size := (HK.out.row _ (.head _)).lt
      clear hHeld
      refine hK.out _ _ ?_ (fun hHeld => ?_)
      · (try dsimp only); exact HF1.out _ HK2.out
      (try simp only [List.setIfInBounds_toArray, List.set_cons_zero, List.set_cons_succ])
      exact HXI.out _ _ _ _ (LS1_1 _ _ HK2.out nB nG)
  have LS0_ : ∀ (W : World), Kq w W [(B + 1, 22, [.int .i64 z0, .int .i64 z1, .int .i64 z2]), (B, 22, [.int .i64 x0, .int .i64 x1, .int .i64 x2])] → X 6 #[true, false, true, false, false, false, false, false] { tmps := #[.agg #[.int .i64 x0, .int .i64 x1, .int .i64 x2], .agg #[.int .i64 z0, .int .i64 z1, .int .i64 z2], .pointer (some ⟨B, 0, none⟩), .pointer (some ⟨B + 1, 0, none⟩), .bool false, .bool true, undef, undef, undef, undef, undef, undef, undef, undef, undef, undef, undef, undef, undef, undef, undef, undef, undef, undef, .bool true, .agg #[.int .i64 x0, .int .i64 x1, .int .i64 x2], undef, .agg #[.int .i64 z0, .int .i64 z1, .int .i64 z2], undef, undef, undef, undef, undef, undef, undef, undef, undef, undef, undef, undef, undef, undef, undef, undef, undef, undef, undef, undef, undef, undef, undef, undef, undef, undef, undef, undef, undef, undef, undef, undef, undef, undef, undef, undef, undef, undef, undef, undef, undef, undef, undef, undef, undef, undef, undef, undef, undef, undef, undef, undef, undef, undef, undef, undef, undef, undef, undef, undef, undef, undef, undef, undef, undef, undef, undef, undef, undef, undef, undef, undef, undef, undef, undef, undef, undef, undef, undef, undef, undef, undef, undef, undef, undef, undef, undef, undef, undef, undef, undef, undef, undef, undef, undef, undef, undef, undef, undef, undef, undef, undef, undef, undef, undef, undef, undef, undef, undef, undef, undef, undef, undef, undef, undef, undef, undef, undef, undef, undef, undef, undef], defers := [] } W := by
    intro  W hK0 
    have HK := Lib.hid hK0
    clear hK0
    have hHeld := HF1.out _ HK.out
    refine HXO.out _ _ _ _ ?_
    refine wpAnyH_ready (rs := [1, 4, 5]) (by kernel_rfl) (by simp) ?_
    refine AllReadyH.cons (at_list rfl) (fun K hK => ?_) (AllReadyH.cons (at_list rfl) (fun K hK => ?_) (AllReadyH.cons (at_list rfl) (fun K hK => ?_) (AllReadyH.nil)))
    · go_simp
      go_at_call 12
      with_reducible refine (H1.out _).mono ?_
      rintro e wq ⟨rfl, hCq⟩
      have HK2 := Lib.hid (HK.out.on hCq)
      clear hHeld
      first | (refine hK.out _ _ ?_ (fun hHeld => ?_)) | (go_wp2_with fail; refine hK.out _ _ ?_ (fun hHeld => ?_))
      · (try dsimp only); exact HF1.out _ HK2.out
      (try simp only [List.setIfInBounds_toArray, List.set_cons_zero, List.set_cons_succ])
      exact HXI.out _ _ _ _ (LS1_ _ HK2.out)
    · go_simp
      have HK2 := Lib.hid (HK.out.other (.cells #[.bool false, S [], S []] 26 (0, 0)))
      have nB := Blk.new W #[.bool false, S [], S []] 26
      have nG : B + 1 < W.heap.size := (HK.out.row _ (.head _)).lt
      clear hHeld
      refine hK.out _ _ ?_ (fun hHeld => ?_)
      · (try dsimp only); exact HF1.out _ HK2.out
      (try simp only [List.setIfInBounds_toArray, List.set_cons_zero, List.set_cons_succ])
      exact HXI.out _ _ _ _ (LS0_0 _ _ HK2.out nB nG)
    · go_simp
      have HK2 := Lib.hid (HK.out.other (.cells #[.bool false, S [], S []] 26 (0, 0)))
      have nB := Blk.new W #[.bool false, S [], S []] 26
      have nG : B + 1 < W.heap.size := (HK.out.row _ (.head _)).lt
      clear hHeld
      refine hK.out _ _ ?_ (fun hHeld => ?_)
      · (try dsimp only); exact HF1.out _ HK2.out
      (try simp only [List.setIfInBounds_toArray, List.set_cons_zero, List.set_cons_succ])
      exact HXI.out _ _ _ _ (LS0_1 _ _ HK2.out nB nG)
  exact LS0_ _ HK0.out
end Go.Proofs.YtloamjofcojnhaaGreatDoor
