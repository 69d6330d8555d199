/- MoneyOrder: the walks. -/
import Derived.Test.YtloamjofcojnhaaGreatDoorAz
namespace Go.Proofs.YtloamjofcojnhaaGreatDoor
open Go.RowKit
/-- Two numbers change places. -/
theorem swap3 {w W : World} {a b c : Nat} {t : TypeId} {x0 x1 x2 y0 y1 y2 z0 z1 z2 : Value} (h : Kq w W [(a, t, [x0, x1, x2]), (b, t, [y0, y1, y2]), (c, t, [z0, z1, z2])]) (ha : w.heap.size ≤ a) (hb : w.heap.size ≤ b) (hab : a ≠ b) (hac : a ≠ c) (hbc : b ≠ c) (u0 u1 u2 v0 v1 v2 : Value) :
    Kq w ((((((W.setCell ⟨a, 0, none⟩ u0).setCell ⟨a, 1, none⟩ u1).setCell ⟨a, 2, none⟩ u2).setCell ⟨b, 0, none⟩ v0).setCell ⟨b, 1, none⟩ v1).setCell ⟨b, 2, none⟩ v2) [(a, t, [u0, u1, u2]), (b, t, [v0, v1, v2]), (c, t, [z0, z1, z2])] := by
  have h1 := h.put3 ha (by intro p hp; simp only [List.mem_cons, List.not_mem_nil, or_false] at hp; rcases hp with rfl | rfl <;> (simp only; omega)) u0 u1 u2
  have h2 := Kq.sub (l' := [(b, t, [y0, y1, y2]), (a, t, [u0, u1, u2]), (c, t, [z0, z1, z2])]) h1 (by intro p hp; simp only [List.mem_cons, List.not_mem_nil, or_false] at hp ⊢; rcases hp with rfl | rfl | rfl <;> simp)
  have h3 := h2.put3 hb (by intro p hp; simp only [List.mem_cons, List.not_mem_nil, or_false] at hp; rcases hp with rfl | rfl <;> (simp only; omega)) v0 v1 v2
  exact Kq.sub h3 (by intro p hp; simp only [List.mem_cons, List.not_mem_nil, or_false] at hp ⊢; rcases hp with rfl | rfl | rfl <;> simp)
set_option maxRecDepth 100000 in
set_option maxHeartbeats 12800000 in
theorem order_walk {x0 x1 x2 y0 y1 y2 z0 z1 z2 : Int} {sa sb st sp sq su sv sm sg : Bool} {na da nb db nt dt np dp nq dq nu du nv dv nm dm ng dg : List UInt8} {k k1 k2 k3 : Int} (w : World) (ht : Tm w) (hk1 : decide (k1 ≤ 0) = true) (hk2 : decide (k2 ≤ 0) = true) (hk3 : decide (k3 ≤ 0) = true)
    (hH0 : AnsM 11 #[] (.bool true)) (hH1 : Ans 12 #[.agg #[.int .i64 x0, .int .i64 x1, .int .i64 x2]] (Rv sa na da)) (hH2 : Ans 12 #[.agg #[.int .i64 y0, .int .i64 y1, .int .i64 y2]] (Rv sb nb db)) (hH3 : AnsM 13 #[.agg #[.int .i64 z0, .int .i64 z1, .int .i64 z2]] (Rv st nt dt)) (hH4 : Ans 28 #[Rv sa na da, Rv sb nb db] (.int .i64 k)) (hH11 : Ans 28 #[Rv sp np dp, Rv sq nq dq] (.int .i64 k1)) (hH12 : Ans 28 #[Rv su nu du, Rv sv nv dv] (.int .i64 k2)) (hH13 : Ans 28 #[Rv sm nm dm, Rv sg ng dg] (.int .i64 k3))
    (hcs : (decide (0 < k) = false ∧ AnsM 23 #[Rv sa na da, Rv st nt dt] (.tuple #[Rv sp np dp, .bool true]) ∧ AnsM 23 #[Rv sb nb db, Rv st nt dt] (.tuple #[Rv sq nq dq, .bool true]) ∧ AnsM 24 #[Rv sa na da, Rv st nt dt] (.tuple #[Rv su nu du, .bool true]) ∧ AnsM 24 #[Rv sb nb db, Rv st nt dt] (.tuple #[Rv sv nv dv, .bool true]) ∧ AnsM 25 #[Rv sa na da, Rv st nt dt] (.tuple #[Rv sm nm dm, .bool true]) ∧ AnsM 25 #[Rv sb nb db, Rv st nt dt] (.tuple #[Rv sg ng dg, .bool true])) ∨ (decide (0 < k) = true ∧ AnsM 23 #[Rv sb nb db, Rv st nt dt] (.tuple #[Rv sp np dp, .bool true]) ∧ AnsM 23 #[Rv sa na da, Rv st nt dt] (.tuple #[Rv sq nq dq, .bool true]) ∧ AnsM 24 #[Rv sb nb db, Rv st nt dt] (.tuple #[Rv su nu du, .bool true]) ∧ AnsM 24 #[Rv sa na da, Rv st nt dt] (.tuple #[Rv sv nv dv, .bool true]) ∧ AnsM 25 #[Rv sb nb db, Rv st nt dt] (.tuple #[Rv sm nm dm, .bool true]) ∧ AnsM 25 #[Rv sa na da, Rv st nt dt] (.tuple #[Rv sg ng dg, .bool true]))) :
    Calls Tryz.prog 6 #[.agg #[.int .i64 x0, .int .i64 x1, .int .i64 x2], .agg #[.int .i64 y0, .int .i64 y1, .int .i64 y2], .agg #[.int .i64 z0, .int .i64 z1, .int .i64 z2]] w (Yld w (.bool true)) := by
  have H0 := Lib.hid hH0
  have H1 := Lib.hid hH1
  have H2 := Lib.hid hH2
  have H3 := Lib.hid hH3
  have H4 := Lib.hid hH4
  have H11 := Lib.hid hH11
  have H12 := Lib.hid hH12
  have H13 := Lib.hid hH13
  have HT := Lib.hid ht
  clear ht hH0 hH1 hH2 hH3 hH4 hH11 hH12 hH13
  have HK := Lib.hid ((((Kq.nil w).new #[.int .i64 x0, .int .i64 x1, .int .i64 x2] 22).new #[.int .i64 y0, .int .i64 y1, .int .i64 y2] 22).new #[.int .i64 z0, .int .i64 z1, .int .i64 z2] 22)
  rw [World.size_alloc, World.size_alloc] at HK
  obtain ⟨B, hB⟩ : ∃ B, w.heap.size = B := ⟨_, rfl⟩
  rw [hB] at HK
  have HBB := Lib.hid hB
  have HF1 := Lib.hid (show ∀ W, Kq w W [(B + 1 + 1, 22, [.int .i64 z0, .int .i64 z1, .int .i64 z2]), (B + 1, 22, [.int .i64 y0, .int .i64 y1, .int .i64 y2]), (B, 22, [.int .i64 x0, .int .i64 x1, .int .i64 x2])] → W.cell? ⟨B + 1 + 1, 0, none⟩ = some (.int .i64 z0) ∧ W.cell? ⟨B + 1 + 1, 1, none⟩ = some (.int .i64 z1) ∧ W.cell? ⟨B + 1 + 1, 2, none⟩ = some (.int .i64 z2) ∧ W.cell? ⟨B + 1, 0, none⟩ = some (.int .i64 y0) ∧ W.cell? ⟨B + 1, 1, none⟩ = some (.int .i64 y1) ∧ W.cell? ⟨B + 1, 2, none⟩ = some (.int .i64 y2) ∧ W.cell? ⟨B, 0, none⟩ = some (.int .i64 x0) ∧ W.cell? ⟨B, 1, none⟩ = some (.int .i64 x1) ∧ W.cell? ⟨B, 2, none⟩ = some (.int .i64 x2) from fun W h => ⟨(h.row _ (.head _)).cell 0, (h.row _ (.head _)).cell 1, (h.row _ (.head _)).cell 2, (h.row _ (.tail _ (.head _))).cell 0, (h.row _ (.tail _ (.head _))).cell 1, (h.row _ (.tail _ (.head _))).cell 2, (h.row _ (.tail _ (.tail _ (.head _)))).cell 0, (h.row _ (.tail _ (.tail _ (.head _)))).cell 1, (h.row _ (.tail _ (.tail _ (.head _)))).cell 2⟩)
  obtain ⟨cc0, cc1, cc2, cc3, cc4, cc5, cc6, cc7, cc8⟩ := HF1.out _ HK.out
  go_enter Tryz.func6, Tryz.ntmps6
  go_wp2_with fail
  refine (H0.out _ (HT.out.ch HK.out.ch)).mono ?_
  rintro e w1 ⟨rfl, hC⟩
  have HK2 := Lib.hid (HK.out.on hC)
  clear cc0 cc1 cc2 cc3 cc4 cc5 cc6 cc7 cc8
  clear hC HK
  have HK := HK2
  clear HK2
  obtain ⟨cc0, cc1, cc2, cc3, cc4, cc5, cc6, cc7, cc8⟩ := HF1.out _ HK.out
  go_wp2_with fail
  clear cc0 cc1 cc2 cc3 cc4 cc5 cc6 cc7 cc8
  have HKD := Lib.hid HK.out.drew
  clear HK
  have HK := HKD
  clear HKD
  refine wp_region_held_drew (S := fun w' => w'.cell? ⟨B + 1 + 1, 0, none⟩ = some (.int .i64 z0) ∧ w'.cell? ⟨B + 1 + 1, 1, none⟩ = some (.int .i64 z1) ∧ w'.cell? ⟨B + 1 + 1, 2, none⟩ = some (.int .i64 z2) ∧ w'.cell? ⟨B + 1, 0, none⟩ = some (.int .i64 y0) ∧ w'.cell? ⟨B + 1, 1, none⟩ = some (.int .i64 y1) ∧ w'.cell? ⟨B + 1, 2, none⟩ = some (.int .i64 y2) ∧ w'.cell? ⟨B, 0, none⟩ = some (.int .i64 x0) ∧ w'.cell? ⟨B, 1, none⟩ = some (.int .i64 x1) ∧ w'.cell? ⟨B, 2, none⟩ = some (.int .i64 x2)) (by kernel_rfl) ?_ (fun hHeld => ?_)
  · (try dsimp only); exact HF1.out _ HK.out
  refine tk 0 (v := ?_) hHeld ?_ ?_
  rotate_left 1
  · intro _ hw; (try dsimp only at hw); go_simp; try with_reducible rfl
  (try simp only [Act.put, List.setIfInBounds_toArray, List.set_cons_zero, List.set_cons_succ])
  refine tk 2 (v := ?_) hHeld ?_ ?_
  rotate_left 1
  · intro _ hw; (try dsimp only at hw); go_simp; try with_reducible rfl
  (try simp only [Act.put, List.setIfInBounds_toArray, List.set_cons_zero, List.set_cons_succ])
  refine tk 4 (v := ?_) hHeld ?_ ?_
  rotate_left 1
  · intro _ hw; (try dsimp only at hw); go_simp; try with_reducible rfl
  (try simp only [Act.put, List.setIfInBounds_toArray, List.set_cons_zero, List.set_cons_succ])
  generalize hX : @wpAnyH _ _ _ _ _ = X
  have hXi : ∀ f l a W, X f l a W → wpAnyH _ _ _ _ _ f l a W := fun f l a W h => by rw [hX]; exact h
  have hXo : ∀ f l a W, wpAnyH _ _ _ _ _ f l a W → X f l a W := fun f l a W h => by rw [← hX]; exact h
  have HXI := Lib.hid hXi
  have HXO := Lib.hid hXo
  clear hXi hXo hX hHeld
  have HK0 := HK
  clear HK
  have LS3_012 : ∀ (pa pb pt : Nat) (W : World), Kq w W [(B + 1 + 1, 22, [.int .i64 z0, .int .i64 z1, .int .i64 z2]), (B + 1, 22, [.int .i64 y0, .int .i64 y1, .int .i64 y2]), (B, 22, [.int .i64 x0, .int .i64 x1, .int .i64 x2])] → Blk W pa 26 [.bool false, S [], S []] → Blk W pb 26 [.bool false, S [], S []] → Blk W pt 26 [.bool false, S [], S []] → B + 1 + 1 < pa → B + 1 + 1 < pb → B + 1 + 1 < pt → pa ≠ pb → pa ≠ pt → pb ≠ pt → X 3 #[true, true, true, true, true, true, true, true, true, false, false, false] { tmps := #[.agg #[.int .i64 x0, .int .i64 x1, .int .i64 x2], .agg #[.int .i64 y0, .int .i64 y1, .int .i64 y2], .agg #[.int .i64 z0, .int .i64 z1, .int .i64 z2], .pointer (some ⟨B, 0, none⟩), .pointer (some ⟨B + 1, 0, none⟩), .pointer (some ⟨B + 1 + 1, 0, none⟩), .bool false, .bool true, .pointer (some ⟨pa, 0, none⟩), .pointer (some ⟨pb, 0, none⟩), .pointer (some ⟨pt, 0, none⟩), undef, undef, undef, undef, undef, undef, undef, undef, undef, undef, undef, undef, .bool true, .agg #[.int .i64 x0, .int .i64 x1, .int .i64 x2], Rv sa na da, .agg #[.int .i64 y0, .int .i64 y1, .int .i64 y2], Rv sb nb db, .agg #[.int .i64 z0, .int .i64 z1, .int .i64 z2], Rv st nt dt, undef, undef, undef, undef, undef, undef, undef, undef, undef, undef, undef, undef, undef, undef, undef, undef, undef, undef, undef, undef, undef, undef, undef, undef, undef, undef, undef, undef, undef, undef, undef, undef, undef, undef, undef, undef, undef, undef, undef, undef, undef, undef, undef, undef, undef, undef, undef, undef, undef, undef, undef, undef, undef, undef, undef, undef, undef, undef, undef, undef, undef], defers := [] } W := by
    intro pa pb pt W hK0 bpa bpb bpt gpa gpb gpt dpapb dpapt dpbpt
    have HK := Lib.hid hK0
    clear hK0
    have hHeld := HF1.out _ HK.out
    refine HXO.out _ _ _ _ ?_
    have HK2 := Lib.hid (((HK.out.add bpt).add bpb).add bpa)
    clear HK
    have HK := HK2
    clear HK2
    clear bpa bpb bpt
    have e0 := (HK.out.row _ (.head _)).cell 0
    have f0 := (HK.out.row _ (.head _)).frozen 0
    have e1 := (HK.out.row _ (.head _)).cell 1
    have f1 := (HK.out.row _ (.head _)).frozen 1
    have e2 := (HK.out.row _ (.head _)).cell 2
    have f2 := (HK.out.row _ (.head _)).frozen 2
    simp only [List.getElem?_cons_zero, List.getElem?_cons_succ] at e0 e1 e2
    refine wpAnyH_ready (rs := [9]) (by kernel_rfl) (by simp) ?_
    refine AllReadyH.cons (at_list rfl) (fun K hK => ?_) AllReadyH.nil
    go_simp
    clear hHeld e0 e1 e2 f0 f1 f2
    have HKp := Lib.hid (Kq.sub (l' := [(pa, 26, [.bool false, S [], S []]), (pb, 26, [.bool false, S [], S []]), (pt, 26, [.bool false, S [], S []]), (B + 1 + 1, 22, [.int .i64 z0, .int .i64 z1, .int .i64 z2]), (B + 1, 22, [.int .i64 y0, .int .i64 y1, .int .i64 y2]), (B, 22, [.int .i64 x0, .int .i64 x1, .int .i64 x2])]) HK.out (by intro p hp; simp only [List.mem_cons, List.not_mem_nil, or_false] at hp ⊢; rcases hp with rfl | rfl | rfl | rfl | rfl | rfl <;> simp))
    have HKq := Lib.hid (HKp.out.put3 (by have := HBB.out; omega) (by intro p hp; simp only [List.mem_cons, List.not_mem_nil, or_false] at hp; rcases hp with rfl | rfl | rfl | rfl | rfl <;> (simp only; omega)) (.bool sa) (S na) (S da))
    have HK2 := Lib.hid (Kq.sub (l' := [(pa, 26, [.bool sa, S na, S da]), (pb, 26, [.bool false, S [], S []]), (pt, 26, [.bool false, S [], S []]), (B + 1 + 1, 22, [.int .i64 z0, .int .i64 z1, .int .i64 z2]), (B + 1, 22, [.int .i64 y0, .int .i64 y1, .int .i64 y2]), (B, 22, [.int .i64 x0, .int .i64 x1, .int .i64 x2])]) HKq.out (by intro p hp; simp only [List.mem_cons, List.not_mem_nil, or_false] at hp ⊢; rcases hp with rfl | rfl | rfl | rfl | rfl | rfl <;> simp))
    refine hK.out _ _ ?_ (fun hHeld => ?_)
    · (try dsimp only); exact HF1.out _ (Kq.sub HK2.out (by intro p hp; simp only [List.mem_cons, List.not_mem_nil, or_false] at hp ⊢; rcases hp with rfl | rfl | rfl <;> simp))
    clear hK K HK HKp HKq
    have HK := HK2
    clear HK2
    (try simp only [List.setIfInBounds_toArray, List.set_cons_zero, List.set_cons_succ])
    have e0 := (HK.out.row _ (.tail _ (.head _))).cell 0
    have f0 := (HK.out.row _ (.tail _ (.head _))).frozen 0
    have e1 := (HK.out.row _ (.tail _ (.head _))).cell 1
    have f1 := (HK.out.row _ (.tail _ (.head _))).frozen 1
    have e2 := (HK.out.row _ (.tail _ (.head _))).cell 2
    have f2 := (HK.out.row _ (.tail _ (.head _))).frozen 2
    simp only [List.getElem?_cons_zero, List.getElem?_cons_succ] at e0 e1 e2
    refine wpAnyH_ready (rs := [10]) (by kernel_rfl) (by simp) ?_
    refine AllReadyH.cons (at_list rfl) (fun K hK => ?_) AllReadyH.nil
    go_simp
    clear hHeld e0 e1 e2 f0 f1 f2
    have HKp := Lib.hid (Kq.sub (l' := [(pb, 26, [.bool false, S [], S []]), (pa, 26, [.bool sa, S na, S da]), (pt, 26, [.bool false, S [], S []]), (B + 1 + 1, 22, [.int .i64 z0, .int .i64 z1, .int .i64 z2]), (B + 1, 22, [.int .i64 y0, .int .i64 y1, .int .i64 y2]), (B, 22, [.int .i64 x0, .int .i64 x1, .int .i64 x2])]) HK.out (by intro p hp; simp only [List.mem_cons, List.not_mem_nil, or_false] at hp ⊢; rcases hp with rfl | rfl | rfl | rfl | rfl | rfl <;> simp))
    have HKq := Lib.hid (HKp.out.put3 (by have := HBB.out; omega) (by intro p hp; simp only [List.mem_cons, List.not_mem_nil, or_false] at hp; rcases hp with rfl | rfl | rfl | rfl | rfl <;> (simp only; omega)) (.bool sb) (S nb) (S db))
    have HK2 := Lib.hid (Kq.sub (l' := [(pa, 26, [.bool sa, S na, S da]), (pb, 26, [.bool sb, S nb, S db]), (pt, 26, [.bool false, S [], S []]), (B + 1 + 1, 22, [.int .i64 z0, .int .i64 z1, .int .i64 z2]), (B + 1, 22, [.int .i64 y0, .int .i64 y1, .int .i64 y2]), (B, 22, [.int .i64 x0, .int .i64 x1, .int .i64 x2])]) HKq.out (by intro p hp; simp only [List.mem_cons, List.not_mem_nil, or_false] at hp ⊢; rcases hp with rfl | rfl | rfl | rfl | rfl | rfl <;> simp))
    refine hK.out _ _ ?_ (fun hHeld => ?_)
    · (try dsimp only); exact HF1.out _ (Kq.sub HK2.out (by intro p hp; simp only [List.mem_cons, List.not_mem_nil, or_false] at hp ⊢; rcases hp with rfl | rfl | rfl <;> simp))
    clear hK K HK HKp HKq
    have HK := HK2
    clear HK2
    (try simp only [List.setIfInBounds_toArray, List.set_cons_zero, List.set_cons_succ])
    have e0 := (HK.out.row _ (.tail _ (.tail _ (.head _)))).cell 0
    have f0 := (HK.out.row _ (.tail _ (.tail _ (.head _)))).frozen 0
    have e1 := (HK.out.row _ (.tail _ (.tail _ (.head _)))).cell 1
    have f1 := (HK.out.row _ (.tail _ (.tail _ (.head _)))).frozen 1
    have e2 := (HK.out.row _ (.tail _ (.tail _ (.head _)))).cell 2
    have f2 := (HK.out.row _ (.tail _ (.tail _ (.head _)))).frozen 2
    simp only [List.getElem?_cons_zero, List.getElem?_cons_succ] at e0 e1 e2
    refine wpAnyH_ready (rs := [11]) (by kernel_rfl) (by simp) ?_
    refine AllReadyH.cons (at_list rfl) (fun K hK => ?_) AllReadyH.nil
    go_simp
    clear hHeld e0 e1 e2 f0 f1 f2
    have HKp := Lib.hid (Kq.sub (l' := [(pt, 26, [.bool false, S [], S []]), (pa, 26, [.bool sa, S na, S da]), (pb, 26, [.bool sb, S nb, S db]), (B + 1 + 1, 22, [.int .i64 z0, .int .i64 z1, .int .i64 z2]), (B + 1, 22, [.int .i64 y0, .int .i64 y1, .int .i64 y2]), (B, 22, [.int .i64 x0, .int .i64 x1, .int .i64 x2])]) HK.out (by intro p hp; simp only [List.mem_cons, List.not_mem_nil, or_false] at hp ⊢; rcases hp with rfl | rfl | rfl | rfl | rfl | rfl <;> simp))
    have HKq := Lib.hid (HKp.out.put3 (by have := HBB.out; omega) (by intro p hp; simp only [List.mem_cons, List.not_mem_nil, or_false] at hp; rcases hp with rfl | rfl | rfl | rfl | rfl <;> (simp only; omega)) (.bool st) (S nt) (S dt))
    have HK2 := Lib.hid (Kq.sub (l' := [(pa, 26, [.bool sa, S na, S da]), (pb, 26, [.bool sb, S nb, S db]), (pt, 26, [.bool st, S nt, S dt]), (B + 1 + 1, 22, [.int .i64 z0, .int .i64 z1, .int .i64 z2]), (B + 1, 22, [.int .i64 y0, .int .i64 y1, .int .i64 y2]), (B, 22, [.int .i64 x0, .int .i64 x1, .int .i64 x2])]) HKq.out (by intro p hp; simp only [List.mem_cons, List.not_mem_nil, or_false] at hp ⊢; rcases hp with rfl | rfl | rfl | rfl | rfl | rfl <;> simp))
    refine hK.out _ _ ?_ (fun hHeld => ?_)
    · (try dsimp only); exact HF1.out _ (Kq.sub HK2.out (by intro p hp; simp only [List.mem_cons, List.not_mem_nil, or_false] at hp ⊢; rcases hp with rfl | rfl | rfl <;> simp))
    clear hK K HK HKp HKq
    have HK := HK2
    clear HK2
    (try simp only [List.setIfInBounds_toArray, List.set_cons_zero, List.set_cons_succ])
    refine wpAnyH_done (by kernel_rfl) ?_ _
    clear hHeld
    have HK2 := Lib.hid (Kq.sub (l' := [(pa, 26, [.bool sa, S na, S da]), (pb, 26, [.bool sb, S nb, S db]), (pt, 26, [.bool st, S nt, S dt])]) HK.out (by intro p hp; simp only [List.mem_cons, List.not_mem_nil, or_false] at hp ⊢; rcases hp with rfl | rfl | rfl <;> simp))
    clear HK
    have HK := HK2
    clear HK2
    have HF52 := Lib.hid (show ∀ W, Kq w W [(pa, 26, [.bool sa, S na, S da]), (pb, 26, [.bool sb, S nb, S db]), (pt, 26, [.bool st, S nt, S dt])] → W.cell? ⟨pa, 0, none⟩ = some (.bool sa) ∧ W.cell? ⟨pa, 1, none⟩ = some (S na) ∧ W.cell? ⟨pa, 2, none⟩ = some (S da) ∧ W.cell? ⟨pb, 0, none⟩ = some (.bool sb) ∧ W.cell? ⟨pb, 1, none⟩ = some (S nb) ∧ W.cell? ⟨pb, 2, none⟩ = some (S db) ∧ W.cell? ⟨pt, 0, none⟩ = some (.bool st) ∧ W.cell? ⟨pt, 1, none⟩ = some (S nt) ∧ W.cell? ⟨pt, 2, none⟩ = some (S dt) from fun W h => ⟨(h.row _ (.head _)).cell 0, (h.row _ (.head _)).cell 1, (h.row _ (.head _)).cell 2, (h.row _ (.tail _ (.head _))).cell 0, (h.row _ (.tail _ (.head _))).cell 1, (h.row _ (.tail _ (.head _))).cell 2, (h.row _ (.tail _ (.tail _ (.head _)))).cell 0, (h.row _ (.tail _ (.tail _ (.head _)))).cell 1, (h.row _ (.tail _ (.tail _ (.head _)))).cell 2⟩)
    obtain ⟨cc0, cc1, cc2, cc3, cc4, cc5, cc6, cc7, cc8⟩ := HF52.out _ HK.out
    go_wp2_with fail
    rcases hcs with ⟨hk, h5, h6, h7, h8, h9, h10⟩ | ⟨hk, h5, h6, h7, h8, h9, h10⟩
    · have H5 := Lib.hid h5
      have H6 := Lib.hid h6
      have H7 := Lib.hid h7
      have H8 := Lib.hid h8
      have H9 := Lib.hid h9
      have H10 := Lib.hid h10
      clear h5 h6 h7 h8 h9 h10
      refine (H4.out _).mono ?_
      rintro e w152 ⟨rfl, hC⟩
      have HK2 := Lib.hid (HK.out.on hC)
      clear cc0 cc1 cc2 cc3 cc4 cc5 cc6 cc7 cc8
      clear hC HK
      have HK := HK2
      clear HK2
      obtain ⟨cc0, cc1, cc2, cc3, cc4, cc5, cc6, cc7, cc8⟩ := HF52.out _ HK.out
      go_wp2_with fail
      refine (H5.out _ (HT.out.ch HK.out.ch)).mono ?_
      rintro e w153 ⟨rfl, hC⟩
      have HK2 := Lib.hid (HK.out.on hC)
      clear cc0 cc1 cc2 cc3 cc4 cc5 cc6 cc7 cc8
      clear hC HK
      have HK := HK2
      clear HK2
      obtain ⟨cc0, cc1, cc2, cc3, cc4, cc5, cc6, cc7, cc8⟩ := HF52.out _ HK.out
      obtain ⟨dd0, dd1, dd2, dd3, dd4, dd5, dd6, dd7, dd8⟩ : (∀ o : Obj, (w153.alloc o).cell? ⟨pa, 0, none⟩ = some (.bool sa)) ∧ (∀ o : Obj, (w153.alloc o).cell? ⟨pa, 1, none⟩ = some (S na)) ∧ (∀ o : Obj, (w153.alloc o).cell? ⟨pa, 2, none⟩ = some (S da)) ∧ (∀ o : Obj, (w153.alloc o).cell? ⟨pb, 0, none⟩ = some (.bool sb)) ∧ (∀ o : Obj, (w153.alloc o).cell? ⟨pb, 1, none⟩ = some (S nb)) ∧ (∀ o : Obj, (w153.alloc o).cell? ⟨pb, 2, none⟩ = some (S db)) ∧ (∀ o : Obj, (w153.alloc o).cell? ⟨pt, 0, none⟩ = some (.bool st)) ∧ (∀ o : Obj, (w153.alloc o).cell? ⟨pt, 1, none⟩ = some (S nt)) ∧ (∀ o : Obj, (w153.alloc o).cell? ⟨pt, 2, none⟩ = some (S dt)) := by
        have hall := fun o : Obj => HF52.out _ (HK.out.other o)
        exact ⟨fun o => (hall o).1, fun o => (hall o).2.1, fun o => (hall o).2.2.1, fun o => (hall o).2.2.2.1, fun o => (hall o).2.2.2.2.1, fun o => (hall o).2.2.2.2.2.1, fun o => (hall o).2.2.2.2.2.2.1, fun o => (hall o).2.2.2.2.2.2.2.1, fun o => (hall o).2.2.2.2.2.2.2.2⟩
      go_wp2_with fail
      clear cc0 cc1 cc2 cc3 cc4 cc5 cc6 cc7 cc8 dd0 dd1 dd2 dd3 dd4 dd5 dd6 dd7 dd8
      have HK2 := Lib.hid (HK.out.new #[.bool sp, S np, S dp] 26)
      obtain ⟨w154, hW⟩ : ∃ W, w153.alloc (.cells #[.bool sp, S np, S dp] 26 (0, 0)) = W := ⟨_, rfl⟩
      rw [hW] at HK2 ⊢
      obtain ⟨Rp, hA⟩ : ∃ A, w153.heap.size = A := ⟨_, rfl⟩
      rw [hA] at HK2 ⊢
      clear hA hW HK
      have HK := HK2
      clear HK2
      have HF153 := Lib.hid (show ∀ W, Kq w W [(Rp, 26, [.bool sp, S np, S dp]), (pa, 26, [.bool sa, S na, S da]), (pb, 26, [.bool sb, S nb, S db]), (pt, 26, [.bool st, S nt, S dt])] → W.cell? ⟨pa, 0, none⟩ = some (.bool sa) ∧ W.cell? ⟨pa, 1, none⟩ = some (S na) ∧ W.cell? ⟨pa, 2, none⟩ = some (S da) ∧ W.cell? ⟨pb, 0, none⟩ = some (.bool sb) ∧ W.cell? ⟨pb, 1, none⟩ = some (S nb) ∧ W.cell? ⟨pb, 2, none⟩ = some (S db) ∧ W.cell? ⟨pt, 0, none⟩ = some (.bool st) ∧ W.cell? ⟨pt, 1, none⟩ = some (S nt) ∧ W.cell? ⟨pt, 2, none⟩ = some (S dt) from fun W h => ⟨(h.row _ (.tail _ (.head _))).cell 0, (h.row _ (.tail _ (.head _))).cell 1, (h.row _ (.tail _ (.head _))).cell 2, (h.row _ (.tail _ (.tail _ (.head _)))).cell 0, (h.row _ (.tail _ (.tail _ (.head _)))).cell 1, (h.row _ (.tail _ (.tail _ (.head _)))).cell 2, (h.row _ (.tail _ (.tail _ (.tail _ (.head _))))).cell 0, (h.row _ (.tail _ (.tail _ (.tail _ (.head _))))).cell 1, (h.row _ (.tail _ (.tail _ (.tail _ (.head _))))).cell 2⟩)
      obtain ⟨cc0, cc1, cc2, cc3, cc4, cc5, cc6, cc7, cc8⟩ := HF153.out _ HK.out
      refine (H6.out _ (HT.out.ch HK.out.ch)).mono ?_
      rintro e w155 ⟨rfl, hC⟩
      have HK2 := Lib.hid (HK.out.on hC)
      clear cc0 cc1 cc2 cc3 cc4 cc5 cc6 cc7 cc8
      clear hC HK
      have HK := HK2
      clear HK2
      obtain ⟨cc0, cc1, cc2, cc3, cc4, cc5, cc6, cc7, cc8⟩ := HF153.out _ HK.out
      obtain ⟨dd0, dd1, dd2, dd3, dd4, dd5, dd6, dd7, dd8⟩ : (∀ o : Obj, (w155.alloc o).cell? ⟨pa, 0, none⟩ = some (.bool sa)) ∧ (∀ o : Obj, (w155.alloc o).cell? ⟨pa, 1, none⟩ = some (S na)) ∧ (∀ o : Obj, (w155.alloc o).cell? ⟨pa, 2, none⟩ = some (S da)) ∧ (∀ o : Obj, (w155.alloc o).cell? ⟨pb, 0, none⟩ = some (.bool sb)) ∧ (∀ o : Obj, (w155.alloc o).cell? ⟨pb, 1, none⟩ = some (S nb)) ∧ (∀ o : Obj, (w155.alloc o).cell? ⟨pb, 2, none⟩ = some (S db)) ∧ (∀ o : Obj, (w155.alloc o).cell? ⟨pt, 0, none⟩ = some (.bool st)) ∧ (∀ o : Obj, (w155.alloc o).cell? ⟨pt, 1, none⟩ = some (S nt)) ∧ (∀ o : Obj, (w155.alloc o).cell? ⟨pt, 2, none⟩ = some (S dt)) := by
        have hall := fun o : Obj => HF153.out _ (HK.out.other o)
        exact ⟨fun o => (hall o).1, fun o => (hall o).2.1, fun o => (hall o).2.2.1, fun o => (hall o).2.2.2.1, fun o => (hall o).2.2.2.2.1, fun o => (hall o).2.2.2.2.2.1, fun o => (hall o).2.2.2.2.2.2.1, fun o => (hall o).2.2.2.2.2.2.2.1, fun o => (hall o).2.2.2.2.2.2.2.2⟩
      go_wp2_with fail
      clear cc0 cc1 cc2 cc3 cc4 cc5 cc6 cc7 cc8 dd0 dd1 dd2 dd3 dd4 dd5 dd6 dd7 dd8
      have HK2 := Lib.hid (HK.out.new #[.bool sq, S nq, S dq] 26)
      obtain ⟨w156, hW⟩ : ∃ W, w155.alloc (.cells #[.bool sq, S nq, S dq] 26 (0, 0)) = W := ⟨_, rfl⟩
      rw [hW] at HK2 ⊢
      obtain ⟨Rq, hA⟩ : ∃ A, w155.heap.size = A := ⟨_, rfl⟩
      rw [hA] at HK2 ⊢
      clear hA hW HK
      have HK := HK2
      clear HK2
      have HF154 := Lib.hid (show ∀ W, Kq w W [(Rq, 26, [.bool sq, S nq, S dq]), (Rp, 26, [.bool sp, S np, S dp]), (pa, 26, [.bool sa, S na, S da]), (pb, 26, [.bool sb, S nb, S db]), (pt, 26, [.bool st, S nt, S dt])] → W.cell? ⟨pa, 0, none⟩ = some (.bool sa) ∧ W.cell? ⟨pa, 1, none⟩ = some (S na) ∧ W.cell? ⟨pa, 2, none⟩ = some (S da) ∧ W.cell? ⟨pb, 0, none⟩ = some (.bool sb) ∧ W.cell? ⟨pb, 1, none⟩ = some (S nb) ∧ W.cell? ⟨pb, 2, none⟩ = some (S db) ∧ W.cell? ⟨pt, 0, none⟩ = some (.bool st) ∧ W.cell? ⟨pt, 1, none⟩ = some (S nt) ∧ W.cell? ⟨pt, 2, none⟩ = some (S dt) from fun W h => ⟨(h.row _ (.tail _ (.tail _ (.head _)))).cell 0, (h.row _ (.tail _ (.tail _ (.head _)))).cell 1, (h.row _ (.tail _ (.tail _ (.head _)))).cell 2, (h.row _ (.tail _ (.tail _ (.tail _ (.head _))))).cell 0, (h.row _ (.tail _ (.tail _ (.tail _ (.head _))))).cell 1, (h.row _ (.tail _ (.tail _ (.tail _ (.head _))))).cell 2, (h.row _ (.tail _ (.tail _ (.tail _ (.tail _ (.head _)))))).cell 0, (h.row _ (.tail _ (.tail _ (.tail _ (.tail _ (.head _)))))).cell 1, (h.row _ (.tail _ (.tail _ (.tail _ (.tail _ (.head _)))))).cell 2⟩)
      obtain ⟨cc0, cc1, cc2, cc3, cc4, cc5, cc6, cc7, cc8⟩ := HF154.out _ HK.out
      refine (H7.out _ (HT.out.ch HK.out.ch)).mono ?_
      rintro e w157 ⟨rfl, hC⟩
      have HK2 := Lib.hid (HK.out.on hC)
      clear cc0 cc1 cc2 cc3 cc4 cc5 cc6 cc7 cc8
      clear hC HK
      have HK := HK2
      clear HK2
      obtain ⟨cc0, cc1, cc2, cc3, cc4, cc5, cc6, cc7, cc8⟩ := HF154.out _ HK.out
      obtain ⟨dd0, dd1, dd2, dd3, dd4, dd5, dd6, dd7, dd8⟩ : (∀ o : Obj, (w157.alloc o).cell? ⟨pa, 0, none⟩ = some (.bool sa)) ∧ (∀ o : Obj, (w157.alloc o).cell? ⟨pa, 1, none⟩ = some (S na)) ∧ (∀ o : Obj, (w157.alloc o).cell? ⟨pa, 2, none⟩ = some (S da)) ∧ (∀ o : Obj, (w157.alloc o).cell? ⟨pb, 0, none⟩ = some (.bool sb)) ∧ (∀ o : Obj, (w157.alloc o).cell? ⟨pb, 1, none⟩ = some (S nb)) ∧ (∀ o : Obj, (w157.alloc o).cell? ⟨pb, 2, none⟩ = some (S db)) ∧ (∀ o : Obj, (w157.alloc o).cell? ⟨pt, 0, none⟩ = some (.bool st)) ∧ (∀ o : Obj, (w157.alloc o).cell? ⟨pt, 1, none⟩ = some (S nt)) ∧ (∀ o : Obj, (w157.alloc o).cell? ⟨pt, 2, none⟩ = some (S dt)) := by
        have hall := fun o : Obj => HF154.out _ (HK.out.other o)
        exact ⟨fun o => (hall o).1, fun o => (hall o).2.1, fun o => (hall o).2.2.1, fun o => (hall o).2.2.2.1, fun o => (hall o).2.2.2.2.1, fun o => (hall o).2.2.2.2.2.1, fun o => (hall o).2.2.2.2.2.2.1, fun o => (hall o).2.2.2.2.2.2.2.1, fun o => (hall o).2.2.2.2.2.2.2.2⟩
      go_wp2_with fail
      clear cc0 cc1 cc2 cc3 cc4 cc5 cc6 cc7 cc8 dd0 dd1 dd2 dd3 dd4 dd5 dd6 dd7 dd8
      have HK2 := Lib.hid (HK.out.new #[.bool su, S nu, S du] 26)
      obtain ⟨w158, hW⟩ : ∃ W, w157.alloc (.cells #[.bool su, S nu, S du] 26 (0, 0)) = W := ⟨_, rfl⟩
      rw [hW] at HK2 ⊢
      obtain ⟨Ru, hA⟩ : ∃ A, w157.heap.size = A := ⟨_, rfl⟩
      rw [hA] at HK2 ⊢
      clear hA hW HK
      have HK := HK2
      clear HK2
      have HF155 := Lib.hid (show ∀ W, Kq w W [(Ru, 26, [.bool su, S nu, S du]), (Rq, 26, [.bool sq, S nq, S dq]), (Rp, 26, [.bool sp, S np, S dp]), (pa, 26, [.bool sa, S na, S da]), (pb, 26, [.bool sb, S nb, S db]), (pt, 26, [.bool st, S nt, S dt])] → W.cell? ⟨pa, 0, none⟩ = some (.bool sa) ∧ W.cell? ⟨pa, 1, none⟩ = some (S na) ∧ W.cell? ⟨pa, 2, none⟩ = some (S da) ∧ W.cell? ⟨pb, 0, none⟩ = some (.bool sb) ∧ W.cell? ⟨pb, 1, none⟩ = some (S nb) ∧ W.cell? ⟨pb, 2, none⟩ = some (S db) ∧ W.cell? ⟨pt, 0, none⟩ = some (.bool st) ∧ W.cell? ⟨pt, 1, none⟩ = some (S nt) ∧ W.cell? ⟨pt, 2, none⟩ = some (S dt) from fun W h => ⟨(h.row _ (.tail _ (.tail _ (.tail _ (.head _))))).cell 0, (h.row _ (.tail _ (.tail _ (.tail _ (.head _))))).cell 1, (h.row _ (.tail _ (.tail _ (.tail _ (.head _))))).cell 2, (h.row _ (.tail _ (.tail _ (.tail _ (.tail _ (.head _)))))).cell 0, (h.row _ (.tail _ (.tail _ (.tail _ (.tail _ (.head _)))))).cell 1, (h.row _ (.tail _ (.tail _ (.tail _ (.tail _ (.head _)))))).cell 2, (h.row _ (.tail _ (.tail _ (.tail _ (.tail _ (.tail _ (.head _))))))).cell 0, (h.row _ (.tail _ (.tail _ (.tail _ (.tail _ (.tail _ (.head _))))))).cell 1, (h.row _ (.tail _ (.tail _ (.tail _ (.tail _ (.tail _ (.head _))))))).cell 2⟩)
      obtain ⟨cc0, cc1, cc2, cc3, cc4, cc5, cc6, cc7, cc8⟩ := HF155.out _ HK.out
      refine (H8.out _ (HT.out.ch HK.out.ch)).mono ?_
      rintro e w159 ⟨rfl, hC⟩
      have HK2 := Lib.hid (HK.out.on hC)
      clear cc0 cc1 cc2 cc3 cc4 cc5 cc6 cc7 cc8
      clear hC HK
      have HK := HK2
      clear HK2
      obtain ⟨cc0, cc1, cc2, cc3, cc4, cc5, cc6, cc7, cc8⟩ := HF155.out _ HK.out
      obtain ⟨dd0, dd1, dd2, dd3, dd4, dd5, dd6, dd7, dd8⟩ : (∀ o : Obj, (w159.alloc o).cell? ⟨pa, 0, none⟩ = some (.bool sa)) ∧ (∀ o : Obj, (w159.alloc o).cell? ⟨pa, 1, none⟩ = some (S na)) ∧ (∀ o : Obj, (w159.alloc o).cell? ⟨pa, 2, none⟩ = some (S da)) ∧ (∀ o : Obj, (w159.alloc o).cell? ⟨pb, 0, none⟩ = some (.bool sb)) ∧ (∀ o : Obj, (w159.alloc o).cell? ⟨pb, 1, none⟩ = some (S nb)) ∧ (∀ o : Obj, (w159.alloc o).cell? ⟨pb, 2, none⟩ = some (S db)) ∧ (∀ o : Obj, (w159.alloc o).cell? ⟨pt, 0, none⟩ = some (.bool st)) ∧ (∀ o : Obj, (w159.alloc o).cell? ⟨pt, 1, none⟩ = some (S nt)) ∧ (∀ o : Obj, (w159.alloc o).cell? ⟨pt, 2, none⟩ = some (S dt)) := by
        have hall := fun o : Obj => HF155.out _ (HK.out.other o)
        exact ⟨fun o => (hall o).1, fun o => (hall o).2.1, fun o => (hall o).2.2.1, fun o => (hall o).2.2.2.1, fun o => (hall o).2.2.2.2.1, fun o => (hall o).2.2.2.2.2.1, fun o => (hall o).2.2.2.2.2.2.1, fun o => (hall o).2.2.2.2.2.2.2.1, fun o => (hall o).2.2.2.2.2.2.2.2⟩
      go_wp2_with fail
      clear cc0 cc1 cc2 cc3 cc4 cc5 cc6 cc7 cc8 dd0 dd1 dd2 dd3 dd4 dd5 dd6 dd7 dd8
      have HK2 := Lib.hid (HK.out.new #[.bool sv, S nv, S dv] 26)
      obtain ⟨w160, hW⟩ : ∃ W, w159.alloc (.cells #[.bool sv, S nv, S dv] 26 (0, 0)) = W := ⟨_, rfl⟩
      rw [hW] at HK2 ⊢
      obtain ⟨Rv, hA⟩ : ∃ A, w159.heap.size = A := ⟨_, rfl⟩
      rw [hA] at HK2 ⊢
      clear hA hW HK
      have HK := HK2
      clear HK2
      have HF156 := Lib.hid (show ∀ W, Kq w W [(Rv, 26, [.bool sv, S nv, S dv]), (Ru, 26, [.bool su, S nu, S du]), (Rq, 26, [.bool sq, S nq, S dq]), (Rp, 26, [.bool sp, S np, S dp]), (pa, 26, [.bool sa, S na, S da]), (pb, 26, [.bool sb, S nb, S db]), (pt, 26, [.bool st, S nt, S dt])] → W.cell? ⟨pa, 0, none⟩ = some (.bool sa) ∧ W.cell? ⟨pa, 1, none⟩ = some (S na) ∧ W.cell? ⟨pa, 2, none⟩ = some (S da) ∧ W.cell? ⟨pb, 0, none⟩ = some (.bool sb) ∧ W.cell? ⟨pb, 1, none⟩ = some (S nb) ∧ W.cell? ⟨pb, 2, none⟩ = some (S db) ∧ W.cell? ⟨pt, 0, none⟩ = some (.bool st) ∧ W.cell? ⟨pt, 1, none⟩ = some (S nt) ∧ W.cell? ⟨pt, 2, none⟩ = some (S dt) from fun W h => ⟨(h.row _ (.tail _ (.tail _ (.tail _ (.tail _ (.head _)))))).cell 0, (h.row _ (.tail _ (.tail _ (.tail _ (.tail _ (.head _)))))).cell 1, (h.row _ (.tail _ (.tail _ (.tail _ (.tail _ (.head _)))))).cell 2, (h.row _ (.tail _ (.tail _ (.tail _ (.tail _ (.tail _ (.head _))))))).cell 0, (h.row _ (.tail _ (.tail _ (.tail _ (.tail _ (.tail _ (.head _))))))).cell 1, (h.row _ (.tail _ (.tail _ (.tail _ (.tail _ (.tail _ (.head _))))))).cell 2, (h.row _ (.tail _ (.tail _ (.tail _ (.tail _ (.tail _ (.tail _ (.head _)))))))).cell 0, (h.row _ (.tail _ (.tail _ (.tail _ (.tail _ (.tail _ (.tail _ (.head _)))))))).cell 1, (h.row _ (.tail _ (.tail _ (.tail _ (.tail _ (.tail _ (.tail _ (.head _)))))))).cell 2⟩)
      obtain ⟨cc0, cc1, cc2, cc3, cc4, cc5, cc6, cc7, cc8⟩ := HF156.out _ HK.out
      refine (H9.out _ (HT.out.ch HK.out.ch)).mono ?_
      rintro e w161 ⟨rfl, hC⟩
      have HK2 := Lib.hid (HK.out.on hC)
      clear cc0 cc1 cc2 cc3 cc4 cc5 cc6 cc7 cc8
      clear hC HK
      have HK := HK2
      clear HK2
      obtain ⟨cc0, cc1, cc2, cc3, cc4, cc5, cc6, cc7, cc8⟩ := HF156.out _ HK.out
      obtain ⟨dd0, dd1, dd2, dd3, dd4, dd5, dd6, dd7, dd8⟩ : (∀ o : Obj, (w161.alloc o).cell? ⟨pa, 0, none⟩ = some (.bool sa)) ∧ (∀ o : Obj, (w161.alloc o).cell? ⟨pa, 1, none⟩ = some (S na)) ∧ (∀ o : Obj, (w161.alloc o).cell? ⟨pa, 2, none⟩ = some (S da)) ∧ (∀ o : Obj, (w161.alloc o).cell? ⟨pb, 0, none⟩ = some (.bool sb)) ∧ (∀ o : Obj, (w161.alloc o).cell? ⟨pb, 1, none⟩ = some (S nb)) ∧ (∀ o : Obj, (w161.alloc o).cell? ⟨pb, 2, none⟩ = some (S db)) ∧ (∀ o : Obj, (w161.alloc o).cell? ⟨pt, 0, none⟩ = some (.bool st)) ∧ (∀ o : Obj, (w161.alloc o).cell? ⟨pt, 1, none⟩ = some (S nt)) ∧ (∀ o : Obj, (w161.alloc o).cell? ⟨pt, 2, none⟩ = some (S dt)) := by
        have hall := fun o : Obj => HF156.out _ (HK.out.other o)
        exact ⟨fun o => (hall o).1, fun o => (hall o).2.1, fun o => (hall o).2.2.1, fun o => (hall o).2.2.2.1, fun o => (hall o).2.2.2.2.1, fun o => (hall o).2.2.2.2.2.1, fun o => (hall o).2.2.2.2.2.2.1, fun o => (hall o).2.2.2.2.2.2.2.1, fun o => (hall o).2.2.2.2.2.2.2.2⟩
      go_wp2_with fail
      clear cc0 cc1 cc2 cc3 cc4 cc5 cc6 cc7 cc8 dd0 dd1 dd2 dd3 dd4 dd5 dd6 dd7 dd8
      have HK2 := Lib.hid (HK.out.new #[.bool sm, S nm, S dm] 26)
      obtain ⟨w162, hW⟩ : ∃ W, w161.alloc (.cells #[.bool sm, S nm, S dm] 26 (0, 0)) = W := ⟨_, rfl⟩
      rw [hW] at HK2 ⊢
      obtain ⟨Rm, hA⟩ : ∃ A, w161.heap.size = A := ⟨_, rfl⟩
      rw [hA] at HK2 ⊢
      clear hA hW HK
      have HK := HK2
      clear HK2
      have HF157 := Lib.hid (show ∀ W, Kq w W [(Rm, 26, [.bool sm, S nm, S dm]), (Rv, 26, [.bool sv, S nv, S dv]), (Ru, 26, [.bool su, S nu, S du]), (Rq, 26, [.bool sq, S nq, S dq]), (Rp, 26, [.bool sp, S np, S dp]), (pa, 26, [.bool sa, S na, S da]), (pb, 26, [.bool sb, S nb, S db]), (pt, 26, [.bool st, S nt, S dt])] → W.cell? ⟨pa, 0, none⟩ = some (.bool sa) ∧ W.cell? ⟨pa, 1, none⟩ = some (S na) ∧ W.cell? ⟨pa, 2, none⟩ = some (S da) ∧ W.cell? ⟨pb, 0, none⟩ = some (.bool sb) ∧ W.cell? ⟨pb, 1, none⟩ = some (S nb) ∧ W.cell? ⟨pb, 2, none⟩ = some (S db) ∧ W.cell? ⟨pt, 0, none⟩ = some (.bool st) ∧ W.cell? ⟨pt, 1, none⟩ = some (S nt) ∧ W.cell? ⟨pt, 2, none⟩ = some (S dt) from fun W h => ⟨(h.row _ (.tail _ (.tail _ (.tail _ (.tail _ (.tail _ (.head _))))))).cell 0, (h.row _ (.tail _ (.tail _ (.tail _ (.tail _ (.tail _ (.head _))))))).cell 1, (h.row _ (.tail _ (.tail _ (.tail _ (.tail _ (.tail _ (.head _))))))).cell 2, (h.row _ (.tail _ (.tail _ (.tail _ (.tail _ (.tail _ (.tail _ (.head _)))))))).cell 0, (h.row _ (.tail _ (.tail _ (.tail _ (.tail _ (.tail _ (.tail _ (.head _)))))))).cell 1, (h.row _ (.tail _ (.tail _ (.tail _ (.tail _ (.tail _ (.tail _ (.head _)))))))).cell 2, (h.row _ (.tail _ (.tail _ (.tail _ (.tail _ (.tail _ (.tail _ (.tail _ (.head _))))))))).cell 0, (h.row _ (.tail _ (.tail _ (.tail _ (.tail _ (.tail _ (.tail _ (.tail _ (.head _))))))))).cell 1, (h.row _ (.tail _ (.tail _ (.tail _ (.tail _ (.tail _ (.tail _ (.tail _ (.head _))))))))).cell 2⟩)
      obtain ⟨cc0, cc1, cc2, cc3, cc4, cc5, cc6, cc7, cc8⟩ := HF157.out _ HK.out
      clear cc0 cc1 cc2 cc3 cc4 cc5 cc6 cc7 cc8
      have HF158 := Lib.hid (show ∀ W, Kq w W [(Rm, 26, [.bool sm, S nm, S dm]), (Rv, 26, [.bool sv, S nv, S dv]), (Ru, 26, [.bool su, S nu, S du]), (Rq, 26, [.bool sq, S nq, S dq]), (Rp, 26, [.bool sp, S np, S dp]), (pa, 26, [.bool sa, S na, S da]), (pb, 26, [.bool sb, S nb, S db]), (pt, 26, [.bool st, S nt, S dt])] → W.cell? ⟨Rm, 0, none⟩ = some (.bool sm) ∧ W.cell? ⟨Rm, 1, none⟩ = some (S nm) ∧ W.cell? ⟨Rm, 2, none⟩ = some (S dm) ∧ W.cell? ⟨Rv, 0, none⟩ = some (.bool sv) ∧ W.cell? ⟨Rv, 1, none⟩ = some (S nv) ∧ W.cell? ⟨Rv, 2, none⟩ = some (S dv) ∧ W.cell? ⟨Ru, 0, none⟩ = some (.bool su) ∧ W.cell? ⟨Ru, 1, none⟩ = some (S nu) ∧ W.cell? ⟨Ru, 2, none⟩ = some (S du) ∧ W.cell? ⟨Rq, 0, none⟩ = some (.bool sq) ∧ W.cell? ⟨Rq, 1, none⟩ = some (S nq) ∧ W.cell? ⟨Rq, 2, none⟩ = some (S dq) ∧ W.cell? ⟨Rp, 0, none⟩ = some (.bool sp) ∧ W.cell? ⟨Rp, 1, none⟩ = some (S np) ∧ W.cell? ⟨Rp, 2, none⟩ = some (S dp) ∧ W.cell? ⟨pa, 0, none⟩ = some (.bool sa) ∧ W.cell? ⟨pa, 1, none⟩ = some (S na) ∧ W.cell? ⟨pa, 2, none⟩ = some (S da) ∧ W.cell? ⟨pb, 0, none⟩ = some (.bool sb) ∧ W.cell? ⟨pb, 1, none⟩ = some (S nb) ∧ W.cell? ⟨pb, 2, none⟩ = some (S db) ∧ W.cell? ⟨pt, 0, none⟩ = some (.bool st) ∧ W.cell? ⟨pt, 1, none⟩ = some (S nt) ∧ W.cell? ⟨pt, 2, none⟩ = some (S dt) from fun W h => ⟨(h.row _ (.head _)).cell 0, (h.row _ (.head _)).cell 1, (h.row _ (.head _)).cell 2, (h.row _ (.tail _ (.head _))).cell 0, (h.row _ (.tail _ (.head _))).cell 1, (h.row _ (.tail _ (.head _))).cell 2, (h.row _ (.tail _ (.tail _ (.head _)))).cell 0, (h.row _ (.tail _ (.tail _ (.head _)))).cell 1, (h.row _ (.tail _ (.tail _ (.head _)))).cell 2, (h.row _ (.tail _ (.tail _ (.tail _ (.head _))))).cell 0, (h.row _ (.tail _ (.tail _ (.tail _ (.head _))))).cell 1, (h.row _ (.tail _ (.tail _ (.tail _ (.head _))))).cell 2, (h.row _ (.tail _ (.tail _ (.tail _ (.tail _ (.head _)))))).cell 0, (h.row _ (.tail _ (.tail _ (.tail _ (.tail _ (.head _)))))).cell 1, (h.row _ (.tail _ (.tail _ (.tail _ (.tail _ (.head _)))))).cell 2, (h.row _ (.tail _ (.tail _ (.tail _ (.tail _ (.tail _ (.head _))))))).cell 0, (h.row _ (.tail _ (.tail _ (.tail _ (.tail _ (.tail _ (.head _))))))).cell 1, (h.row _ (.tail _ (.tail _ (.tail _ (.tail _ (.tail _ (.head _))))))).cell 2, (h.row _ (.tail _ (.tail _ (.tail _ (.tail _ (.tail _ (.tail _ (.head _)))))))).cell 0, (h.row _ (.tail _ (.tail _ (.tail _ (.tail _ (.tail _ (.tail _ (.head _)))))))).cell 1, (h.row _ (.tail _ (.tail _ (.tail _ (.tail _ (.tail _ (.tail _ (.head _)))))))).cell 2, (h.row _ (.tail _ (.tail _ (.tail _ (.tail _ (.tail _ (.tail _ (.tail _ (.head _))))))))).cell 0, (h.row _ (.tail _ (.tail _ (.tail _ (.tail _ (.tail _ (.tail _ (.tail _ (.head _))))))))).cell 1, (h.row _ (.tail _ (.tail _ (.tail _ (.tail _ (.tail _ (.tail _ (.tail _ (.head _))))))))).cell 2⟩)
      obtain ⟨cc0, cc1, cc2, cc3, cc4, cc5, cc6, cc7, cc8, cc9, cc10, cc11, cc12, cc13, cc14, cc15, cc16, cc17, cc18, cc19, cc20, cc21, cc22, cc23⟩ := HF158.out _ HK.out
      refine (H10.out _ (HT.out.ch HK.out.ch)).mono ?_
      rintro e w163 ⟨rfl, hC⟩
      have HK2 := Lib.hid (HK.out.on hC)
      clear cc0 cc1 cc2 cc3 cc4 cc5 cc6 cc7 cc8 cc9 cc10 cc11 cc12 cc13 cc14 cc15 cc16 cc17 cc18 cc19 cc20 cc21 cc22 cc23
      clear hC HK
      have HK := HK2
      clear HK2
      obtain ⟨cc0, cc1, cc2, cc3, cc4, cc5, cc6, cc7, cc8, cc9, cc10, cc11, cc12, cc13, cc14, cc15, cc16, cc17, cc18, cc19, cc20, cc21, cc22, cc23⟩ := HF158.out _ HK.out
      obtain ⟨dd0, dd1, dd2, dd3, dd4, dd5, dd6, dd7, dd8, dd9, dd10, dd11, dd12, dd13, dd14, dd15, dd16, dd17, dd18, dd19, dd20, dd21, dd22, dd23⟩ : (∀ o : Obj, (w163.alloc o).cell? ⟨Rm, 0, none⟩ = some (.bool sm)) ∧ (∀ o : Obj, (w163.alloc o).cell? ⟨Rm, 1, none⟩ = some (S nm)) ∧ (∀ o : Obj, (w163.alloc o).cell? ⟨Rm, 2, none⟩ = some (S dm)) ∧ (∀ o : Obj, (w163.alloc o).cell? ⟨Rv, 0, none⟩ = some (.bool sv)) ∧ (∀ o : Obj, (w163.alloc o).cell? ⟨Rv, 1, none⟩ = some (S nv)) ∧ (∀ o : Obj, (w163.alloc o).cell? ⟨Rv, 2, none⟩ = some (S dv)) ∧ (∀ o : Obj, (w163.alloc o).cell? ⟨Ru, 0, none⟩ = some (.bool su)) ∧ (∀ o : Obj, (w163.alloc o).cell? ⟨Ru, 1, none⟩ = some (S nu)) ∧ (∀ o : Obj, (w163.alloc o).cell? ⟨Ru, 2, none⟩ = some (S du)) ∧ (∀ o : Obj, (w163.alloc o).cell? ⟨Rq, 0, none⟩ = some (.bool sq)) ∧ (∀ o : Obj, (w163.alloc o).cell? ⟨Rq, 1, none⟩ = some (S nq)) ∧ (∀ o : Obj, (w163.alloc o).cell? ⟨Rq, 2, none⟩ = some (S dq)) ∧ (∀ o : Obj, (w163.alloc o).cell? ⟨Rp, 0, none⟩ = some (.bool sp)) ∧ (∀ o : Obj, (w163.alloc o).cell? ⟨Rp, 1, none⟩ = some (S np)) ∧ (∀ o : Obj, (w163.alloc o).cell? ⟨Rp, 2, none⟩ = some (S dp)) ∧ (∀ o : Obj, (w163.alloc o).cell? ⟨pa, 0, none⟩ = some (.bool sa)) ∧ (∀ o : Obj, (w163.alloc o).cell? ⟨pa, 1, none⟩ = some (S na)) ∧ (∀ o : Obj, (w163.alloc o).cell? ⟨pa, 2, none⟩ = some (S da)) ∧ (∀ o : Obj, (w163.alloc o).cell? ⟨pb, 0, none⟩ = some (.bool sb)) ∧ (∀ o : Obj, (w163.alloc o).cell? ⟨pb, 1, none⟩ = some (S nb)) ∧ (∀ o : Obj, (w163.alloc o).cell? ⟨pb, 2, none⟩ = some (S db)) ∧ (∀ o : Obj, (w163.alloc o).cell? ⟨pt, 0, none⟩ = some (.bool st)) ∧ (∀ o : Obj, (w163.alloc o).cell? ⟨pt, 1, none⟩ = some (S nt)) ∧ (∀ o : Obj, (w163.alloc o).cell? ⟨pt, 2, none⟩ = some (S dt)) := by
        have hall := fun o : Obj => HF158.out _ (HK.out.other o)
        exact ⟨fun o => (hall o).1, fun o => (hall o).2.1, fun o => (hall o).2.2.1, fun o => (hall o).2.2.2.1, fun o => (hall o).2.2.2.2.1, fun o => (hall o).2.2.2.2.2.1, fun o => (hall o).2.2.2.2.2.2.1, fun o => (hall o).2.2.2.2.2.2.2.1, fun o => (hall o).2.2.2.2.2.2.2.2.1, fun o => (hall o).2.2.2.2.2.2.2.2.2.1, fun o => (hall o).2.2.2.2.2.2.2.2.2.2.1, fun o => (hall o).2.2.2.2.2.2.2.2.2.2.2.1, fun o => (hall o).2.2.2.2.2.2.2.2.2.2.2.2.1, fun o => (hall o).2.2.2.2.2.2.2.2.2.2.2.2.2.1, fun o => (hall o).2.2.2.2.2.2.2.2.2.2.2.2.2.2.1, fun o => (hall o).2.2.2.2.2.2.2.2.2.2.2.2.2.2.2.1, fun o => (hall o).2.2.2.2.2.2.2.2.2.2.2.2.2.2.2.2.1, fun o => (hall o).2.2.2.2.2.2.2.2.2.2.2.2.2.2.2.2.2.1, fun o => (hall o).2.2.2.2.2.2.2.2.2.2.2.2.2.2.2.2.2.2.1, fun o => (hall o).2.2.2.2.2.2.2.2.2.2.2.2.2.2.2.2.2.2.2.1, fun o => (hall o).2.2.2.2.2.2.2.2.2.2.2.2.2.2.2.2.2.2.2.2.1, fun o => (hall o).2.2.2.2.2.2.2.2.2.2.2.2.2.2.2.2.2.2.2.2.2.1, fun o => (hall o).2.2.2.2.2.2.2.2.2.2.2.2.2.2.2.2.2.2.2.2.2.2.1, fun o => (hall o).2.2.2.2.2.2.2.2.2.2.2.2.2.2.2.2.2.2.2.2.2.2.2⟩
      go_wp2_with fail
      clear cc0 cc1 cc2 cc3 cc4 cc5 cc6 cc7 cc8 cc9 cc10 cc11 cc12 cc13 cc14 cc15 cc16 cc17 cc18 cc19 cc20 cc21 cc22 cc23 dd0 dd1 dd2 dd3 dd4 dd5 dd6 dd7 dd8 dd9 dd10 dd11 dd12 dd13 dd14 dd15 dd16 dd17 dd18 dd19 dd20 dd21 dd22 dd23
      have HK2 := Lib.hid (HK.out.new #[.bool sg, S ng, S dg] 26)
      obtain ⟨w164, hW⟩ : ∃ W, w163.alloc (.cells #[.bool sg, S ng, S dg] 26 (0, 0)) = W := ⟨_, rfl⟩
      rw [hW] at HK2 ⊢
      obtain ⟨Rg, hA⟩ : ∃ A, w163.heap.size = A := ⟨_, rfl⟩
      rw [hA] at HK2 ⊢
      clear hA hW HK
      have HK := HK2
      clear HK2
      have HF159 := Lib.hid (show ∀ W, Kq w W [(Rg, 26, [.bool sg, S ng, S dg]), (Rm, 26, [.bool sm, S nm, S dm]), (Rv, 26, [.bool sv, S nv, S dv]), (Ru, 26, [.bool su, S nu, S du]), (Rq, 26, [.bool sq, S nq, S dq]), (Rp, 26, [.bool sp, S np, S dp]), (pa, 26, [.bool sa, S na, S da]), (pb, 26, [.bool sb, S nb, S db]), (pt, 26, [.bool st, S nt, S dt])] → W.cell? ⟨Rg, 0, none⟩ = some (.bool sg) ∧ W.cell? ⟨Rg, 1, none⟩ = some (S ng) ∧ W.cell? ⟨Rg, 2, none⟩ = some (S dg) ∧ W.cell? ⟨Rm, 0, none⟩ = some (.bool sm) ∧ W.cell? ⟨Rm, 1, none⟩ = some (S nm) ∧ W.cell? ⟨Rm, 2, none⟩ = some (S dm) ∧ W.cell? ⟨Rv, 0, none⟩ = some (.bool sv) ∧ W.cell? ⟨Rv, 1, none⟩ = some (S nv) ∧ W.cell? ⟨Rv, 2, none⟩ = some (S dv) ∧ W.cell? ⟨Ru, 0, none⟩ = some (.bool su) ∧ W.cell? ⟨Ru, 1, none⟩ = some (S nu) ∧ W.cell? ⟨Ru, 2, none⟩ = some (S du) ∧ W.cell? ⟨Rq, 0, none⟩ = some (.bool sq) ∧ W.cell? ⟨Rq, 1, none⟩ = some (S nq) ∧ W.cell? ⟨Rq, 2, none⟩ = some (S dq) ∧ W.cell? ⟨Rp, 0, none⟩ = some (.bool sp) ∧ W.cell? ⟨Rp, 1, none⟩ = some (S np) ∧ W.cell? ⟨Rp, 2, none⟩ = some (S dp) ∧ W.cell? ⟨pa, 0, none⟩ = some (.bool sa) ∧ W.cell? ⟨pa, 1, none⟩ = some (S na) ∧ W.cell? ⟨pa, 2, none⟩ = some (S da) ∧ W.cell? ⟨pb, 0, none⟩ = some (.bool sb) ∧ W.cell? ⟨pb, 1, none⟩ = some (S nb) ∧ W.cell? ⟨pb, 2, none⟩ = some (S db) ∧ W.cell? ⟨pt, 0, none⟩ = some (.bool st) ∧ W.cell? ⟨pt, 1, none⟩ = some (S nt) ∧ W.cell? ⟨pt, 2, none⟩ = some (S dt) from fun W h => ⟨(h.row _ (.head _)).cell 0, (h.row _ (.head _)).cell 1, (h.row _ (.head _)).cell 2, (h.row _ (.tail _ (.head _))).cell 0, (h.row _ (.tail _ (.head _))).cell 1, (h.row _ (.tail _ (.head _))).cell 2, (h.row _ (.tail _ (.tail _ (.head _)))).cell 0, (h.row _ (.tail _ (.tail _ (.head _)))).cell 1, (h.row _ (.tail _ (.tail _ (.head _)))).cell 2, (h.row _ (.tail _ (.tail _ (.tail _ (.head _))))).cell 0, (h.row _ (.tail _ (.tail _ (.tail _ (.head _))))).cell 1, (h.row _ (.tail _ (.tail _ (.tail _ (.head _))))).cell 2, (h.row _ (.tail _ (.tail _ (.tail _ (.tail _ (.head _)))))).cell 0, (h.row _ (.tail _ (.tail _ (.tail _ (.tail _ (.head _)))))).cell 1, (h.row _ (.tail _ (.tail _ (.tail _ (.tail _ (.head _)))))).cell 2, (h.row _ (.tail _ (.tail _ (.tail _ (.tail _ (.tail _ (.head _))))))).cell 0, (h.row _ (.tail _ (.tail _ (.tail _ (.tail _ (.tail _ (.head _))))))).cell 1, (h.row _ (.tail _ (.tail _ (.tail _ (.tail _ (.tail _ (.head _))))))).cell 2, (h.row _ (.tail _ (.tail _ (.tail _ (.tail _ (.tail _ (.tail _ (.head _)))))))).cell 0, (h.row _ (.tail _ (.tail _ (.tail _ (.tail _ (.tail _ (.tail _ (.head _)))))))).cell 1, (h.row _ (.tail _ (.tail _ (.tail _ (.tail _ (.tail _ (.tail _ (.head _)))))))).cell 2, (h.row _ (.tail _ (.tail _ (.tail _ (.tail _ (.tail _ (.tail _ (.tail _ (.head _))))))))).cell 0, (h.row _ (.tail _ (.tail _ (.tail _ (.tail _ (.tail _ (.tail _ (.tail _ (.head _))))))))).cell 1, (h.row _ (.tail _ (.tail _ (.tail _ (.tail _ (.tail _ (.tail _ (.tail _ (.head _))))))))).cell 2, (h.row _ (.tail _ (.tail _ (.tail _ (.tail _ (.tail _ (.tail _ (.tail _ (.tail _ (.head _)))))))))).cell 0, (h.row _ (.tail _ (.tail _ (.tail _ (.tail _ (.tail _ (.tail _ (.tail _ (.tail _ (.head _)))))))))).cell 1, (h.row _ (.tail _ (.tail _ (.tail _ (.tail _ (.tail _ (.tail _ (.tail _ (.tail _ (.head _)))))))))).cell 2⟩)
      obtain ⟨cc0, cc1, cc2, cc3, cc4, cc5, cc6, cc7, cc8, cc9, cc10, cc11, cc12, cc13, cc14, cc15, cc16, cc17, cc18, cc19, cc20, cc21, cc22, cc23, cc24, cc25, cc26⟩ := HF159.out _ HK.out
      refine (H11.out _).mono ?_
      rintro e w165 ⟨rfl, hC⟩
      have HK2 := Lib.hid (HK.out.on hC)
      clear cc0 cc1 cc2 cc3 cc4 cc5 cc6 cc7 cc8 cc9 cc10 cc11 cc12 cc13 cc14 cc15 cc16 cc17 cc18 cc19 cc20 cc21 cc22 cc23 cc24 cc25 cc26
      clear hC HK
      have HK := HK2
      clear HK2
      obtain ⟨cc0, cc1, cc2, cc3, cc4, cc5, cc6, cc7, cc8, cc9, cc10, cc11, cc12, cc13, cc14, cc15, cc16, cc17, cc18, cc19, cc20, cc21, cc22, cc23, cc24, cc25, cc26⟩ := HF159.out _ HK.out
      go_wp2_with fail
      refine (H12.out _).mono ?_
      rintro e w166 ⟨rfl, hC⟩
      have HK2 := Lib.hid (HK.out.on hC)
      clear cc0 cc1 cc2 cc3 cc4 cc5 cc6 cc7 cc8 cc9 cc10 cc11 cc12 cc13 cc14 cc15 cc16 cc17 cc18 cc19 cc20 cc21 cc22 cc23 cc24 cc25 cc26
      clear hC HK
      have HK := HK2
      clear HK2
      obtain ⟨cc0, cc1, cc2, cc3, cc4, cc5, cc6, cc7, cc8, cc9, cc10, cc11, cc12, cc13, cc14, cc15, cc16, cc17, cc18, cc19, cc20, cc21, cc22, cc23, cc24, cc25, cc26⟩ := HF159.out _ HK.out
      go_wp2_with fail
      refine (H13.out _).mono ?_
      rintro e w167 ⟨rfl, hC⟩
      have HK2 := Lib.hid (HK.out.on hC)
      clear cc0 cc1 cc2 cc3 cc4 cc5 cc6 cc7 cc8 cc9 cc10 cc11 cc12 cc13 cc14 cc15 cc16 cc17 cc18 cc19 cc20 cc21 cc22 cc23 cc24 cc25 cc26
      clear hC HK
      have HK := HK2
      clear HK2
      obtain ⟨cc0, cc1, cc2, cc3, cc4, cc5, cc6, cc7, cc8, cc9, cc10, cc11, cc12, cc13, cc14, cc15, cc16, cc17, cc18, cc19, cc20, cc21, cc22, cc23, cc24, cc25, cc26⟩ := HF159.out _ HK.out
      go_wp2_with fail
      go_ret
      exact ⟨rfl, HK.out.ch⟩
    · have H5 := Lib.hid h5
      have H6 := Lib.hid h6
      have H7 := Lib.hid h7
      have H8 := Lib.hid h8
      have H9 := Lib.hid h9
      have H10 := Lib.hid h10
      clear h5 h6 h7 h8 h9 h10
      refine (H4.out _).mono ?_
      rintro e w152 ⟨rfl, hC⟩
      have HK2 := Lib.hid (HK.out.on hC)
      clear cc0 cc1 cc2 cc3 cc4 cc5 cc6 cc7 cc8
      clear hC HK
      have HK := HK2
      clear HK2
      obtain ⟨cc0, cc1, cc2, cc3, cc4, cc5, cc6, cc7, cc8⟩ := HF52.out _ HK.out
      clear cc0 cc1 cc2 cc3 cc4 cc5 cc6 cc7 cc8
      have epa0 := (HK.out.row _ (.head _)).cell 0
      have fpa0 := (HK.out.row _ (.head _)).frozen 0
      have epa1 := (HK.out.row _ (.head _)).cell 1
      have fpa1 := (HK.out.row _ (.head _)).frozen 1
      have epa2 := (HK.out.row _ (.head _)).cell 2
      have fpa2 := (HK.out.row _ (.head _)).frozen 2
      have epb0 := (HK.out.row _ (.tail _ (.head _))).cell 0
      have fpb0 := (HK.out.row _ (.tail _ (.head _))).frozen 0
      have epb1 := (HK.out.row _ (.tail _ (.head _))).cell 1
      have fpb1 := (HK.out.row _ (.tail _ (.head _))).frozen 1
      have epb2 := (HK.out.row _ (.tail _ (.head _))).cell 2
      have fpb2 := (HK.out.row _ (.tail _ (.head _))).frozen 2
      simp only [List.getElem?_cons_zero, List.getElem?_cons_succ] at epa0 epa1 epa2 epb0 epb1 epb2
      have t0 := (HK.out.row _ (.tail _ (.tail _ (.head _)))).cell 0
      have t1 := (HK.out.row _ (.tail _ (.tail _ (.head _)))).cell 1
      have t2 := (HK.out.row _ (.tail _ (.tail _ (.head _)))).cell 2
      simp only [List.getElem?_cons_zero, List.getElem?_cons_succ] at t0 t1 t2
      go_wp2_with fail
      have HK2 := Lib.hid (swap3 HK.out (by have := HBB.out; omega) (by have := HBB.out; omega) dpapb dpapt dpbpt (.bool sb) (S nb) (S db) (.bool sa) (S na) (S da))
      clear HK epa0 fpa0 epa1 fpa1 epa2 fpa2 epb0 fpb0 epb1 fpb1 epb2 fpb2 t0 t1 t2
      have HK := HK2
      clear HK2
      obtain ⟨V, hV⟩ : ∃ V, ((((((w152.setCell ⟨pa, 0, none⟩ (.bool sb)).setCell ⟨pa, 1, none⟩ (S nb)).setCell ⟨pa, 2, none⟩ (S db)).setCell ⟨pb, 0, none⟩ (.bool sa)).setCell ⟨pb, 1, none⟩ (S na)).setCell ⟨pb, 2, none⟩ (S da)) = V := ⟨_, rfl⟩
      rw [hV] at HK ⊢
      clear hV
      have HF253 := Lib.hid (show ∀ W, Kq w W [(pa, 26, [.bool sb, S nb, S db]), (pb, 26, [.bool sa, S na, S da]), (pt, 26, [.bool st, S nt, S dt])] → W.cell? ⟨pa, 0, none⟩ = some (.bool sb) ∧ W.cell? ⟨pa, 1, none⟩ = some (S nb) ∧ W.cell? ⟨pa, 2, none⟩ = some (S db) ∧ W.cell? ⟨pb, 0, none⟩ = some (.bool sa) ∧ W.cell? ⟨pb, 1, none⟩ = some (S na) ∧ W.cell? ⟨pb, 2, none⟩ = some (S da) ∧ W.cell? ⟨pt, 0, none⟩ = some (.bool st) ∧ W.cell? ⟨pt, 1, none⟩ = some (S nt) ∧ W.cell? ⟨pt, 2, none⟩ = some (S dt) from fun W h => ⟨(h.row _ (.head _)).cell 0, (h.row _ (.head _)).cell 1, (h.row _ (.head _)).cell 2, (h.row _ (.tail _ (.head _))).cell 0, (h.row _ (.tail _ (.head _))).cell 1, (h.row _ (.tail _ (.head _))).cell 2, (h.row _ (.tail _ (.tail _ (.head _)))).cell 0, (h.row _ (.tail _ (.tail _ (.head _)))).cell 1, (h.row _ (.tail _ (.tail _ (.head _)))).cell 2⟩)
      obtain ⟨cc0, cc1, cc2, cc3, cc4, cc5, cc6, cc7, cc8⟩ := HF253.out _ HK.out
      refine (H5.out _ (HT.out.ch HK.out.ch)).mono ?_
      rintro e w154 ⟨rfl, hC⟩
      have HK2 := Lib.hid (HK.out.on hC)
      clear cc0 cc1 cc2 cc3 cc4 cc5 cc6 cc7 cc8
      clear hC HK
      have HK := HK2
      clear HK2
      obtain ⟨cc0, cc1, cc2, cc3, cc4, cc5, cc6, cc7, cc8⟩ := HF253.out _ HK.out
      obtain ⟨dd0, dd1, dd2, dd3, dd4, dd5, dd6, dd7, dd8⟩ : (∀ o : Obj, (w154.alloc o).cell? ⟨pa, 0, none⟩ = some (.bool sb)) ∧ (∀ o : Obj, (w154.alloc o).cell? ⟨pa, 1, none⟩ = some (S nb)) ∧ (∀ o : Obj, (w154.alloc o).cell? ⟨pa, 2, none⟩ = some (S db)) ∧ (∀ o : Obj, (w154.alloc o).cell? ⟨pb, 0, none⟩ = some (.bool sa)) ∧ (∀ o : Obj, (w154.alloc o).cell? ⟨pb, 1, none⟩ = some (S na)) ∧ (∀ o : Obj, (w154.alloc o).cell? ⟨pb, 2, none⟩ = some (S da)) ∧ (∀ o : Obj, (w154.alloc o).cell? ⟨pt, 0, none⟩ = some (.bool st)) ∧ (∀ o : Obj, (w154.alloc o).cell? ⟨pt, 1, none⟩ = some (S nt)) ∧ (∀ o : Obj, (w154.alloc o).cell? ⟨pt, 2, none⟩ = some (S dt)) := by
        have hall := fun o : Obj => HF253.out _ (HK.out.other o)
        exact ⟨fun o => (hall o).1, fun o => (hall o).2.1, fun o => (hall o).2.2.1, fun o => (hall o).2.2.2.1, fun o => (hall o).2.2.2.2.1, fun o => (hall o).2.2.2.2.2.1, fun o => (hall o).2.2.2.2.2.2.1, fun o => (hall o).2.2.2.2.2.2.2.1, fun o => (hall o).2.2.2.2.2.2.2.2⟩
      go_wp2_with fail
      clear cc0 cc1 cc2 cc3 cc4 cc5 cc6 cc7 cc8 dd0 dd1 dd2 dd3 dd4 dd5 dd6 dd7 dd8
      have HK2 := Lib.hid (HK.out.new #[.bool sp, S np, S dp] 26)
      obtain ⟨w155, hW⟩ : ∃ W, w154.alloc (.cells #[.bool sp, S np, S dp] 26 (0, 0)) = W := ⟨_, rfl⟩
      rw [hW] at HK2 ⊢
      obtain ⟨Rp, hA⟩ : ∃ A, w154.heap.size = A := ⟨_, rfl⟩
      rw [hA] at HK2 ⊢
      clear hA hW HK
      have HK := HK2
      clear HK2
      have HF254 := Lib.hid (show ∀ W, Kq w W [(Rp, 26, [.bool sp, S np, S dp]), (pa, 26, [.bool sb, S nb, S db]), (pb, 26, [.bool sa, S na, S da]), (pt, 26, [.bool st, S nt, S dt])] → W.cell? ⟨pa, 0, none⟩ = some (.bool sb) ∧ W.cell? ⟨pa, 1, none⟩ = some (S nb) ∧ W.cell? ⟨pa, 2, none⟩ = some (S db) ∧ W.cell? ⟨pb, 0, none⟩ = some (.bool sa) ∧ W.cell? ⟨pb, 1, none⟩ = some (S na) ∧ W.cell? ⟨pb, 2, none⟩ = some (S da) ∧ W.cell? ⟨pt, 0, none⟩ = some (.bool st) ∧ W.cell? ⟨pt, 1, none⟩ = some (S nt) ∧ W.cell? ⟨pt, 2, none⟩ = some (S dt) from fun W h => ⟨(h.row _ (.tail _ (.head _))).cell 0, (h.row _ (.tail _ (.head _))).cell 1, (h.row _ (.tail _ (.head _))).cell 2, (h.row _ (.tail _ (.tail _ (.head _)))).cell 0, (h.row _ (.tail _ (.tail _ (.head _)))).cell 1, (h.row _ (.tail _ (.tail _ (.head _)))).cell 2, (h.row _ (.tail _ (.tail _ (.tail _ (.head _))))).cell 0, (h.row _ (.tail _ (.tail _ (.tail _ (.head _))))).cell 1, (h.row _ (.tail _ (.tail _ (.tail _ (.head _))))).cell 2⟩)
      obtain ⟨cc0, cc1, cc2, cc3, cc4, cc5, cc6, cc7, cc8⟩ := HF254.out _ HK.out
      refine (H6.out _ (HT.out.ch HK.out.ch)).mono ?_
      rintro e w156 ⟨rfl, hC⟩
      have HK2 := Lib.hid (HK.out.on hC)
      clear cc0 cc1 cc2 cc3 cc4 cc5 cc6 cc7 cc8
      clear hC HK
      have HK := HK2
      clear HK2
      obtain ⟨cc0, cc1, cc2, cc3, cc4, cc5, cc6, cc7, cc8⟩ := HF254.out _ HK.out
      obtain ⟨dd0, dd1, dd2, dd3, dd4, dd5, dd6, dd7, dd8⟩ : (∀ o : Obj, (w156.alloc o).cell? ⟨pa, 0, none⟩ = some (.bool sb)) ∧ (∀ o : Obj, (w156.alloc o).cell? ⟨pa, 1, none⟩ = some (S nb)) ∧ (∀ o : Obj, (w156.alloc o).cell? ⟨pa, 2, none⟩ = some (S db)) ∧ (∀ o : Obj, (w156.alloc o).cell? ⟨pb, 0, none⟩ = some (.bool sa)) ∧ (∀ o : Obj, (w156.alloc o).cell? ⟨pb, 1, none⟩ = some (S na)) ∧ (∀ o : Obj, (w156.alloc o).cell? ⟨pb, 2, none⟩ = some (S da)) ∧ (∀ o : Obj, (w156.alloc o).cell? ⟨pt, 0, none⟩ = some (.bool st)) ∧ (∀ o : Obj, (w156.alloc o).cell? ⟨pt, 1, none⟩ = some (S nt)) ∧ (∀ o : Obj, (w156.alloc o).cell? ⟨pt, 2, none⟩ = some (S dt)) := by
        have hall := fun o : Obj => HF254.out _ (HK.out.other o)
        exact ⟨fun o => (hall o).1, fun o => (hall o).2.1, fun o => (hall o).2.2.1, fun o => (hall o).2.2.2.1, fun o => (hall o).2.2.2.2.1, fun o => (hall o).2.2.2.2.2.1, fun o => (hall o).2.2.2.2.2.2.1, fun o => (hall o).2.2.2.2.2.2.2.1, fun o => (hall o).2.2.2.2.2.2.2.2⟩
      go_wp2_with fail
      clear cc0 cc1 cc2 cc3 cc4 cc5 cc6 cc7 cc8 dd0 dd1 dd2 dd3 dd4 dd5 dd6 dd7 dd8
      have HK2 := Lib.hid (HK.out.new #[.bool sq, S nq, S dq] 26)
      obtain ⟨w157, hW⟩ : ∃ W, w156.alloc (.cells #[.bool sq, S nq, S dq] 26 (0, 0)) = W := ⟨_, rfl⟩
      rw [hW] at HK2 ⊢
      obtain ⟨Rq, hA⟩ : ∃ A, w156.heap.size = A := ⟨_, rfl⟩
      rw [hA] at HK2 ⊢
      clear hA hW HK
      have HK := HK2
      clear HK2
      have HF255 := Lib.hid (show ∀ W, Kq w W [(Rq, 26, [.bool sq, S nq, S dq]), (Rp, 26, [.bool sp, S np, S dp]), (pa, 26, [.bool sb, S nb, S db]), (pb, 26, [.bool sa, S na, S da]), (pt, 26, [.bool st, S nt, S dt])] → W.cell? ⟨pa, 0, none⟩ = some (.bool sb) ∧ W.cell? ⟨pa, 1, none⟩ = some (S nb) ∧ W.cell? ⟨pa, 2, none⟩ = some (S db) ∧ W.cell? ⟨pb, 0, none⟩ = some (.bool sa) ∧ W.cell? ⟨pb, 1, none⟩ = some (S na) ∧ W.cell? ⟨pb, 2, none⟩ = some (S da) ∧ W.cell? ⟨pt, 0, none⟩ = some (.bool st) ∧ W.cell? ⟨pt, 1, none⟩ = some (S nt) ∧ W.cell? ⟨pt, 2, none⟩ = some (S dt) from fun W h => ⟨(h.row _ (.tail _ (.tail _ (.head _)))).cell 0, (h.row _ (.tail _ (.tail _ (.head _)))).cell 1, (h.row _ (.tail _ (.tail _ (.head _)))).cell 2, (h.row _ (.tail _ (.tail _ (.tail _ (.head _))))).cell 0, (h.row _ (.tail _ (.tail _ (.tail _ (.head _))))).cell 1, (h.row _ (.tail _ (.tail _ (.tail _ (.head _))))).cell 2, (h.row _ (.tail _ (.tail _ (.tail _ (.tail _ (.head _)))))).cell 0, (h.row _ (.tail _ (.tail _ (.tail _ (.tail _ (.head _)))))).cell 1, (h.row _ (.tail _ (.tail _ (.tail _ (.tail _ (.head _)))))).cell 2⟩)
      obtain ⟨cc0, cc1, cc2, cc3, cc4, cc5, cc6, cc7, cc8⟩ := HF255.out _ HK.out
      refine (H7.out _ (HT.out.ch HK.out.ch)).mono ?_
      rintro e w158 ⟨rfl, hC⟩
      have HK2 := Lib.hid (HK.out.on hC)
      clear cc0 cc1 cc2 cc3 cc4 cc5 cc6 cc7 cc8
      clear hC HK
      have HK := HK2
      clear HK2
      obtain ⟨cc0, cc1, cc2, cc3, cc4, cc5, cc6, cc7, cc8⟩ := HF255.out _ HK.out
      obtain ⟨dd0, dd1, dd2, dd3, dd4, dd5, dd6, dd7, dd8⟩ : (∀ o : Obj, (w158.alloc o).cell? ⟨pa, 0, none⟩ = some (.bool sb)) ∧ (∀ o : Obj, (w158.alloc o).cell? ⟨pa, 1, none⟩ = some (S nb)) ∧ (∀ o : Obj, (w158.alloc o).cell? ⟨pa, 2, none⟩ = some (S db)) ∧ (∀ o : Obj, (w158.alloc o).cell? ⟨pb, 0, none⟩ = some (.bool sa)) ∧ (∀ o : Obj, (w158.alloc o).cell? ⟨pb, 1, none⟩ = some (S na)) ∧ (∀ o : Obj, (w158.alloc o).cell? ⟨pb, 2, none⟩ = some (S da)) ∧ (∀ o : Obj, (w158.alloc o).cell? ⟨pt, 0, none⟩ = some (.bool st)) ∧ (∀ o : Obj, (w158.alloc o).cell? ⟨pt, 1, none⟩ = some (S nt)) ∧ (∀ o : Obj, (w158.alloc o).cell? ⟨pt, 2, none⟩ = some (S dt)) := by
        have hall := fun o : Obj => HF255.out _ (HK.out.other o)
        exact ⟨fun o => (hall o).1, fun o => (hall o).2.1, fun o => (hall o).2.2.1, fun o => (hall o).2.2.2.1, fun o => (hall o).2.2.2.2.1, fun o => (hall o).2.2.2.2.2.1, fun o => (hall o).2.2.2.2.2.2.1, fun o => (hall o).2.2.2.2.2.2.2.1, fun o => (hall o).2.2.2.2.2.2.2.2⟩
      go_wp2_with fail
      clear cc0 cc1 cc2 cc3 cc4 cc5 cc6 cc7 cc8 dd0 dd1 dd2 dd3 dd4 dd5 dd6 dd7 dd8
      have HK2 := Lib.hid (HK.out.new #[.bool su, S nu, S du] 26)
      obtain ⟨w159, hW⟩ : ∃ W, w158.alloc (.cells #[.bool su, S nu, S du] 26 (0, 0)) = W := ⟨_, rfl⟩
      rw [hW] at HK2 ⊢
      obtain ⟨Ru, hA⟩ : ∃ A, w158.heap.size = A := ⟨_, rfl⟩
      rw [hA] at HK2 ⊢
      clear hA hW HK
      have HK := HK2
      clear HK2
      have HF256 := Lib.hid (show ∀ W, Kq w W [(Ru, 26, [.bool su, S nu, S du]), (Rq, 26, [.bool sq, S nq, S dq]), (Rp, 26, [.bool sp, S np, S dp]), (pa, 26, [.bool sb, S nb, S db]), (pb, 26, [.bool sa, S na, S da]), (pt, 26, [.bool st, S nt, S dt])] → W.cell? ⟨pa, 0, none⟩ = some (.bool sb) ∧ W.cell? ⟨pa, 1, none⟩ = some (S nb) ∧ W.cell? ⟨pa, 2, none⟩ = some (S db) ∧ W.cell? ⟨pb, 0, none⟩ = some (.bool sa) ∧ W.cell? ⟨pb, 1, none⟩ = some (S na) ∧ W.cell? ⟨pb, 2, none⟩ = some (S da) ∧ W.cell? ⟨pt, 0, none⟩ = some (.bool st) ∧ W.cell? ⟨pt, 1, none⟩ = some (S nt) ∧ W.cell? ⟨pt, 2, none⟩ = some (S dt) from fun W h => ⟨(h.row _ (.tail _ (.tail _ (.tail _ (.head _))))).cell 0, (h.row _ (.tail _ (.tail _ (.tail _ (.head _))))).cell 1, (h.row _ (.tail _ (.tail _ (.tail _ (.head _))))).cell 2, (h.row _ (.tail _ (.tail _ (.tail _ (.tail _ (.head _)))))).cell 0, (h.row _ (.tail _ (.tail _ (.tail _ (.tail _ (.head _)))))).cell 1, (h.row _ (.tail _ (.tail _ (.tail _ (.tail _ (.head _)))))).cell 2, (h.row _ (.tail _ (.tail _ (.tail _ (.tail _ (.tail _ (.head _))))))).cell 0, (h.row _ (.tail _ (.tail _ (.tail _ (.tail _ (.tail _ (.head _))))))).cell 1, (h.row _ (.tail _ (.tail _ (.tail _ (.tail _ (.tail _ (.head _))))))).cell 2⟩)
      obtain ⟨cc0, cc1, cc2, cc3, cc4, cc5, cc6, cc7, cc8⟩ := HF256.out _ HK.out
      refine (H8.out _ (HT.out.ch HK.out.ch)).mono ?_
      rintro e w160 ⟨rfl, hC⟩
      have HK2 := Lib.hid (HK.out.on hC)
      clear cc0 cc1 cc2 cc3 cc4 cc5 cc6 cc7 cc8
      clear hC HK
      have HK := HK2
      clear HK2
      obtain ⟨cc0, cc1, cc2, cc3, cc4, cc5, cc6, cc7, cc8⟩ := HF256.out _ HK.out
      obtain ⟨dd0, dd1, dd2, dd3, dd4, dd5, dd6, dd7, dd8⟩ : (∀ o : Obj, (w160.alloc o).cell? ⟨pa, 0, none⟩ = some (.bool sb)) ∧ (∀ o : Obj, (w160.alloc o).cell? ⟨pa, 1, none⟩ = some (S nb)) ∧ (∀ o : Obj, (w160.alloc o).cell? ⟨pa, 2, none⟩ = some (S db)) ∧ (∀ o : Obj, (w160.alloc o).cell? ⟨pb, 0, none⟩ = some (.bool sa)) ∧ (∀ o : Obj, (w160.alloc o).cell? ⟨pb, 1, none⟩ = some (S na)) ∧ (∀ o : Obj, (w160.alloc o).cell? ⟨pb, 2, none⟩ = some (S da)) ∧ (∀ o : Obj, (w160.alloc o).cell? ⟨pt, 0, none⟩ = some (.bool st)) ∧ (∀ o : Obj, (w160.alloc o).cell? ⟨pt, 1, none⟩ = some (S nt)) ∧ (∀ o : Obj, (w160.alloc o).cell? ⟨pt, 2, none⟩ = some (S dt)) := by
        have hall := fun o : Obj => HF256.out _ (HK.out.other o)
        exact ⟨fun o => (hall o).1, fun o => (hall o).2.1, fun o => (hall o).2.2.1, fun o => (hall o).2.2.2.1, fun o => (hall o).2.2.2.2.1, fun o => (hall o).2.2.2.2.2.1, fun o => (hall o).2.2.2.2.2.2.1, fun o => (hall o).2.2.2.2.2.2.2.1, fun o => (hall o).2.2.2.2.2.2.2.2⟩
      go_wp2_with fail
      clear cc0 cc1 cc2 cc3 cc4 cc5 cc6 cc7 cc8 dd0 dd1 dd2 dd3 dd4 dd5 dd6 dd7 dd8
      have HK2 := Lib.hid (HK.out.new #[.bool sv, S nv, S dv] 26)
      obtain ⟨w161, hW⟩ : ∃ W, w160.alloc (.cells #[.bool sv, S nv, S dv] 26 (0, 0)) = W := ⟨_, rfl⟩
      rw [hW] at HK2 ⊢
      obtain ⟨Rv, hA⟩ : ∃ A, w160.heap.size = A := ⟨_, rfl⟩
      rw [hA] at HK2 ⊢
      clear hA hW HK
      have HK := HK2
      clear HK2
      have HF257 := Lib.hid (show ∀ W, Kq w W [(Rv, 26, [.bool sv, S nv, S dv]), (Ru, 26, [.bool su, S nu, S du]), (Rq, 26, [.bool sq, S nq, S dq]), (Rp, 26, [.bool sp, S np, S dp]), (pa, 26, [.bool sb, S nb, S db]), (pb, 26, [.bool sa, S na, S da]), (pt, 26, [.bool st, S nt, S dt])] → W.cell? ⟨pa, 0, none⟩ = some (.bool sb) ∧ W.cell? ⟨pa, 1, none⟩ = some (S nb) ∧ W.cell? ⟨pa, 2, none⟩ = some (S db) ∧ W.cell? ⟨pb, 0, none⟩ = some (.bool sa) ∧ W.cell? ⟨pb, 1, none⟩ = some (S na) ∧ W.cell? ⟨pb, 2, none⟩ = some (S da) ∧ W.cell? ⟨pt, 0, none⟩ = some (.bool st) ∧ W.cell? ⟨pt, 1, none⟩ = some (S nt) ∧ W.cell? ⟨pt, 2, none⟩ = some (S dt) from fun W h => ⟨(h.row _ (.tail _ (.tail _ (.tail _ (.tail _ (.head _)))))).cell 0, (h.row _ (.tail _ (.tail _ (.tail _ (.tail _ (.head _)))))).cell 1, (h.row _ (.tail _ (.tail _ (.tail _ (.tail _ (.head _)))))).cell 2, (h.row _ (.tail _ (.tail _ (.tail _ (.tail _ (.tail _ (.head _))))))).cell 0, (h.row _ (.tail _ (.tail _ (.tail _ (.tail _ (.tail _ (.head _))))))).cell 1, (h.row _ (.tail _ (.tail _ (.tail _ (.tail _ (.tail _ (.head _))))))).cell 2, (h.row _ (.tail _ (.tail _ (.tail _ (.tail _ (.tail _ (.tail _ (.head _)))))))).cell 0, (h.row _ (.tail _ (.tail _ (.tail _ (.tail _ (.tail _ (.tail _ (.head _)))))))).cell 1, (h.row _ (.tail _ (.tail _ (.tail _ (.tail _ (.tail _ (.tail _ (.head _)))))))).cell 2⟩)
      obtain ⟨cc0, cc1, cc2, cc3, cc4, cc5, cc6, cc7, cc8⟩ := HF257.out _ HK.out
      refine (H9.out _ (HT.out.ch HK.out.ch)).mono ?_
      rintro e w162 ⟨rfl, hC⟩
      have HK2 := Lib.hid (HK.out.on hC)
      clear cc0 cc1 cc2 cc3 cc4 cc5 cc6 cc7 cc8
      clear hC HK
      have HK := HK2
      clear HK2
      obtain ⟨cc0, cc1, cc2, cc3, cc4, cc5, cc6, cc7, cc8⟩ := HF257.out _ HK.out
      obtain ⟨dd0, dd1, dd2, dd3, dd4, dd5, dd6, dd7, dd8⟩ : (∀ o : Obj, (w162.alloc o).cell? ⟨pa, 0, none⟩ = some (.bool sb)) ∧ (∀ o : Obj, (w162.alloc o).cell? ⟨pa, 1, none⟩ = some (S nb)) ∧ (∀ o : Obj, (w162.alloc o).cell? ⟨pa, 2, none⟩ = some (S db)) ∧ (∀ o : Obj, (w162.alloc o).cell? ⟨pb, 0, none⟩ = some (.bool sa)) ∧ (∀ o : Obj, (w162.alloc o).cell? ⟨pb, 1, none⟩ = some (S na)) ∧ (∀ o : Obj, (w162.alloc o).cell? ⟨pb, 2, none⟩ = some (S da)) ∧ (∀ o : Obj, (w162.alloc o).cell? ⟨pt, 0, none⟩ = some (.bool st)) ∧ (∀ o : Obj, (w162.alloc o).cell? ⟨pt, 1, none⟩ = some (S nt)) ∧ (∀ o : Obj, (w162.alloc o).cell? ⟨pt, 2, none⟩ = some (S dt)) := by
        have hall := fun o : Obj => HF257.out _ (HK.out.other o)
        exact ⟨fun o => (hall o).1, fun o => (hall o).2.1, fun o => (hall o).2.2.1, fun o => (hall o).2.2.2.1, fun o => (hall o).2.2.2.2.1, fun o => (hall o).2.2.2.2.2.1, fun o => (hall o).2.2.2.2.2.2.1, fun o => (hall o).2.2.2.2.2.2.2.1, fun o => (hall o).2.2.2.2.2.2.2.2⟩
      go_wp2_with fail
      clear cc0 cc1 cc2 cc3 cc4 cc5 cc6 cc7 cc8 dd0 dd1 dd2 dd3 dd4 dd5 dd6 dd7 dd8
      have HK2 := Lib.hid (HK.out.new #[.bool sm, S nm, S dm] 26)
      obtain ⟨w163, hW⟩ : ∃ W, w162.alloc (.cells #[.bool sm, S nm, S dm] 26 (0, 0)) = W := ⟨_, rfl⟩
      rw [hW] at HK2 ⊢
      obtain ⟨Rm, hA⟩ : ∃ A, w162.heap.size = A := ⟨_, rfl⟩
      rw [hA] at HK2 ⊢
      clear hA hW HK
      have HK := HK2
      clear HK2
      have HF258 := Lib.hid (show ∀ W, Kq w W [(Rm, 26, [.bool sm, S nm, S dm]), (Rv, 26, [.bool sv, S nv, S dv]), (Ru, 26, [.bool su, S nu, S du]), (Rq, 26, [.bool sq, S nq, S dq]), (Rp, 26, [.bool sp, S np, S dp]), (pa, 26, [.bool sb, S nb, S db]), (pb, 26, [.bool sa, S na, S da]), (pt, 26, [.bool st, S nt, S dt])] → W.cell? ⟨pa, 0, none⟩ = some (.bool sb) ∧ W.cell? ⟨pa, 1, none⟩ = some (S nb) ∧ W.cell? ⟨pa, 2, none⟩ = some (S db) ∧ W.cell? ⟨pb, 0, none⟩ = some (.bool sa) ∧ W.cell? ⟨pb, 1, none⟩ = some (S na) ∧ W.cell? ⟨pb, 2, none⟩ = some (S da) ∧ W.cell? ⟨pt, 0, none⟩ = some (.bool st) ∧ W.cell? ⟨pt, 1, none⟩ = some (S nt) ∧ W.cell? ⟨pt, 2, none⟩ = some (S dt) from fun W h => ⟨(h.row _ (.tail _ (.tail _ (.tail _ (.tail _ (.tail _ (.head _))))))).cell 0, (h.row _ (.tail _ (.tail _ (.tail _ (.tail _ (.tail _ (.head _))))))).cell 1, (h.row _ (.tail _ (.tail _ (.tail _ (.tail _ (.tail _ (.head _))))))).cell 2, (h.row _ (.tail _ (.tail _ (.tail _ (.tail _ (.tail _ (.tail _ (.head _)))))))).cell 0, (h.row _ (.tail _ (.tail _ (.tail _ (.tail _ (.tail _ (.tail _ (.head _)))))))).cell 1, (h.row _ (.tail _ (.tail _ (.tail _ (.tail _ (.tail _ (.tail _ (.head _)))))))).cell 2, (h.row _ (.tail _ (.tail _ (.tail _ (.tail _ (.tail _ (.tail _ (.tail _ (.head _))))))))).cell 0, (h.row _ (.tail _ (.tail _ (.tail _ (.tail _ (.tail _ (.tail _ (.tail _ (.head _))))))))).cell 1, (h.row _ (.tail _ (.tail _ (.tail _ (.tail _ (.tail _ (.tail _ (.tail _ (.head _))))))))).cell 2⟩)
      obtain ⟨cc0, cc1, cc2, cc3, cc4, cc5, cc6, cc7, cc8⟩ := HF258.out _ HK.out
      clear cc0 cc1 cc2 cc3 cc4 cc5 cc6 cc7 cc8
      have HF259 := Lib.hid (show ∀ W, Kq w W [(Rm, 26, [.bool sm, S nm, S dm]), (Rv, 26, [.bool sv, S nv, S dv]), (Ru, 26, [.bool su, S nu, S du]), (Rq, 26, [.bool sq, S nq, S dq]), (Rp, 26, [.bool sp, S np, S dp]), (pa, 26, [.bool sb, S nb, S db]), (pb, 26, [.bool sa, S na, S da]), (pt, 26, [.bool st, S nt, S dt])] → W.cell? ⟨Rm, 0, none⟩ = some (.bool sm) ∧ W.cell? ⟨Rm, 1, none⟩ = some (S nm) ∧ W.cell? ⟨Rm, 2, none⟩ = some (S dm) ∧ W.cell? ⟨Rv, 0, none⟩ = some (.bool sv) ∧ W.cell? ⟨Rv, 1, none⟩ = some (S nv) ∧ W.cell? ⟨Rv, 2, none⟩ = some (S dv) ∧ W.cell? ⟨Ru, 0, none⟩ = some (.bool su) ∧ W.cell? ⟨Ru, 1, none⟩ = some (S nu) ∧ W.cell? ⟨Ru, 2, none⟩ = some (S du) ∧ W.cell? ⟨Rq, 0, none⟩ = some (.bool sq) ∧ W.cell? ⟨Rq, 1, none⟩ = some (S nq) ∧ W.cell? ⟨Rq, 2, none⟩ = some (S dq) ∧ W.cell? ⟨Rp, 0, none⟩ = some (.bool sp) ∧ W.cell? ⟨Rp, 1, none⟩ = some (S np) ∧ W.cell? ⟨Rp, 2, none⟩ = some (S dp) ∧ W.cell? ⟨pa, 0, none⟩ = some (.bool sb) ∧ W.cell? ⟨pa, 1, none⟩ = some (S nb) ∧ W.cell? ⟨pa, 2, none⟩ = some (S db) ∧ W.cell? ⟨pb, 0, none⟩ = some (.bool sa) ∧ W.cell? ⟨pb, 1, none⟩ = some (S na) ∧ W.cell? ⟨pb, 2, none⟩ = some (S da) ∧ W.cell? ⟨pt, 0, none⟩ = some (.bool st) ∧ W.cell? ⟨pt, 1, none⟩ = some (S nt) ∧ W.cell? ⟨pt, 2, none⟩ = some (S dt) from fun W h => ⟨(h.row _ (.head _)).cell 0, (h.row _ (.head _)).cell 1, (h.row _ (.head _)).cell 2, (h.row _ (.tail _ (.head _))).cell 0, (h.row _ (.tail _ (.head _))).cell 1, (h.row _ (.tail _ (.head _))).cell 2, (h.row _ (.tail _ (.tail _ (.head _)))).cell 0, (h.row _ (.tail _ (.tail _ (.head _)))).cell 1, (h.row _ (.tail _ (.tail _ (.head _)))).cell 2, (h.row _ (.tail _ (.tail _ (.tail _ (.head _))))).cell 0, (h.row _ (.tail _ (.tail _ (.tail _ (.head _))))).cell 1, (h.row _ (.tail _ (.tail _ (.tail _ (.head _))))).cell 2, (h.row _ (.tail _ (.tail _ (.tail _ (.tail _ (.head _)))))).cell 0, (h.row _ (.tail _ (.tail _ (.tail _ (.tail _ (.head _)))))).cell 1, (h.row _ (.tail _ (.tail _ (.tail _ (.tail _ (.head _)))))).cell 2, (h.row _ (.tail _ (.tail _ (.tail _ (.tail _ (.tail _ (.head _))))))).cell 0, (h.row _ (.tail _ (.tail _ (.tail _ (.tail _ (.tail _ (.head _))))))).cell 1, (h.row _ (.tail _ (.tail _ (.tail _ (.tail _ (.tail _ (.head _))))))).cell 2, (h.row _ (.tail _ (.tail _ (.tail _ (.tail _ (.tail _ (.tail _ (.head _)))))))).cell 0, (h.row _ (.tail _ (.tail _ (.tail _ (.tail _ (.tail _ (.tail _ (.head _)))))))).cell 1, (h.row _ (.tail _ (.tail _ (.tail _ (.tail _ (.tail _ (.tail _ (.head _)))))))).cell 2, (h.row _ (.tail _ (.tail _ (.tail _ (.tail _ (.tail _ (.tail _ (.tail _ (.head _))))))))).cell 0, (h.row _ (.tail _ (.tail _ (.tail _ (.tail _ (.tail _ (.tail _ (.tail _ (.head _))))))))).cell 1, (h.row _ (.tail _ (.tail _ (.tail _ (.tail _ (.tail _ (.tail _ (.tail _ (.head _))))))))).cell 2⟩)
      obtain ⟨cc0, cc1, cc2, cc3, cc4, cc5, cc6, cc7, cc8, cc9, cc10, cc11, cc12, cc13, cc14, cc15, cc16, cc17, cc18, cc19, cc20, cc21, cc22, cc23⟩ := HF259.out _ HK.out
      refine (H10.out _ (HT.out.ch HK.out.ch)).mono ?_
      rintro e w164 ⟨rfl, hC⟩
      have HK2 := Lib.hid (HK.out.on hC)
      clear cc0 cc1 cc2 cc3 cc4 cc5 cc6 cc7 cc8 cc9 cc10 cc11 cc12 cc13 cc14 cc15 cc16 cc17 cc18 cc19 cc20 cc21 cc22 cc23
      clear hC HK
      have HK := HK2
      clear HK2
      obtain ⟨cc0, cc1, cc2, cc3, cc4, cc5, cc6, cc7, cc8, cc9, cc10, cc11, cc12, cc13, cc14, cc15, cc16, cc17, cc18, cc19, cc20, cc21, cc22, cc23⟩ := HF259.out _ HK.out
      obtain ⟨dd0, dd1, dd2, dd3, dd4, dd5, dd6, dd7, dd8, dd9, dd10, dd11, dd12, dd13, dd14, dd15, dd16, dd17, dd18, dd19, dd20, dd21, dd22, dd23⟩ : (∀ o : Obj, (w164.alloc o).cell? ⟨Rm, 0, none⟩ = some (.bool sm)) ∧ (∀ o : Obj, (w164.alloc o).cell? ⟨Rm, 1, none⟩ = some (S nm)) ∧ (∀ o : Obj, (w164.alloc o).cell? ⟨Rm, 2, none⟩ = some (S dm)) ∧ (∀ o : Obj, (w164.alloc o).cell? ⟨Rv, 0, none⟩ = some (.bool sv)) ∧ (∀ o : Obj, (w164.alloc o).cell? ⟨Rv, 1, none⟩ = some (S nv)) ∧ (∀ o : Obj, (w164.alloc o).cell? ⟨Rv, 2, none⟩ = some (S dv)) ∧ (∀ o : Obj, (w164.alloc o).cell? ⟨Ru, 0, none⟩ = some (.bool su)) ∧ (∀ o : Obj, (w164.alloc o).cell? ⟨Ru, 1, none⟩ = some (S nu)) ∧ (∀ o : Obj, (w164.alloc o).cell? ⟨Ru, 2, none⟩ = some (S du)) ∧ (∀ o : Obj, (w164.alloc o).cell? ⟨Rq, 0, none⟩ = some (.bool sq)) ∧ (∀ o : Obj, (w164.alloc o).cell? ⟨Rq, 1, none⟩ = some (S nq)) ∧ (∀ o : Obj, (w164.alloc o).cell? ⟨Rq, 2, none⟩ = some (S dq)) ∧ (∀ o : Obj, (w164.alloc o).cell? ⟨Rp, 0, none⟩ = some (.bool sp)) ∧ (∀ o : Obj, (w164.alloc o).cell? ⟨Rp, 1, none⟩ = some (S np)) ∧ (∀ o : Obj, (w164.alloc o).cell? ⟨Rp, 2, none⟩ = some (S dp)) ∧ (∀ o : Obj, (w164.alloc o).cell? ⟨pa, 0, none⟩ = some (.bool sb)) ∧ (∀ o : Obj, (w164.alloc o).cell? ⟨pa, 1, none⟩ = some (S nb)) ∧ (∀ o : Obj, (w164.alloc o).cell? ⟨pa, 2, none⟩ = some (S db)) ∧ (∀ o : Obj, (w164.alloc o).cell? ⟨pb, 0, none⟩ = some (.bool sa)) ∧ (∀ o : Obj, (w164.alloc o).cell? ⟨pb, 1, none⟩ = some (S na)) ∧ (∀ o : Obj, (w164.alloc o).cell? ⟨pb, 2, none⟩ = some (S da)) ∧ (∀ o : Obj, (w164.alloc o).cell? ⟨pt, 0, none⟩ = some (.bool st)) ∧ (∀ o : Obj, (w164.alloc o).cell? ⟨pt, 1, none⟩ = some (S nt)) ∧ (∀ o : Obj, (w164.alloc o).cell? ⟨pt, 2, none⟩ = some (S dt)) := by
        have hall := fun o : Obj => HF259.out _ (HK.out.other o)
        exact ⟨fun o => (hall o).1, fun o => (hall o).2.1, fun o => (hall o).2.2.1, fun o => (hall o).2.2.2.1, fun o => (hall o).2.2.2.2.1, fun o => (hall o).2.2.2.2.2.1, fun o => (hall o).2.2.2.2.2.2.1, fun o => (hall o).2.2.2.2.2.2.2.1, fun o => (hall o).2.2.2.2.2.2.2.2.1, fun o => (hall o).2.2.2.2.2.2.2.2.2.1, fun o => (hall o).2.2.2.2.2.2.2.2.2.2.1, fun o => (hall o).2.2.2.2.2.2.2.2.2.2.2.1, fun o => (hall o).2.2.2.2.2.2.2.2.2.2.2.2.1, fun o => (hall o).2.2.2.2.2.2.2.2.2.2.2.2.2.1, fun o => (hall o).2.2.2.2.2.2.2.2.2.2.2.2.2.2.1, fun o => (hall o).2.2.2.2.2.2.2.2.2.2.2.2.2.2.2.1, fun o => (hall o).2.2.2.2.2.2.2.2.2.2.2.2.2.2.2.2.1, fun o => (hall o).2.2.2.2.2.2.2.2.2.2.2.2.2.2.2.2.2.1, fun o => (hall o).2.2.2.2.2.2.2.2.2.2.2.2.2.2.2.2.2.2.1, fun o => (hall o).2.2.2.2.2.2.2.2.2.2.2.2.2.2.2.2.2.2.2.1, fun o => (hall o).2.2.2.2.2.2.2.2.2.2.2.2.2.2.2.2.2.2.2.2.1, fun o => (hall o).2.2.2.2.2.2.2.2.2.2.2.2.2.2.2.2.2.2.2.2.2.1, fun o => (hall o).2.2.2.2.2.2.2.2.2.2.2.2.2.2.2.2.2.2.2.2.2.2.1, fun o => (hall o).2.2.2.2.2.2.2.2.2.2.2.2.2.2.2.2.2.2.2.2.2.2.2⟩
      go_wp2_with fail
      clear cc0 cc1 cc2 cc3 cc4 cc5 cc6 cc7 cc8 cc9 cc10 cc11 cc12 cc13 cc14 cc15 cc16 cc17 cc18 cc19 cc20 cc21 cc22 cc23 dd0 dd1 dd2 dd3 dd4 dd5 dd6 dd7 dd8 dd9 dd10 dd11 dd12 dd13 dd14 dd15 dd16 dd17 dd18 dd19 dd20 dd21 dd22 dd23
      have HK2 := Lib.hid (HK.out.new #[.bool sg, S ng, S dg] 26)
      obtain ⟨w165, hW⟩ : ∃ W, w164.alloc (.cells #[.bool sg, S ng, S dg] 26 (0, 0)) = W := ⟨_, rfl⟩
      rw [hW] at HK2 ⊢
      obtain ⟨Rg, hA⟩ : ∃ A, w164.heap.size = A := ⟨_, rfl⟩
      rw [hA] at HK2 ⊢
      clear hA hW HK
      have HK := HK2
      clear HK2
      have HF260 := Lib.hid (show ∀ W, Kq w W [(Rg, 26, [.bool sg, S ng, S dg]), (Rm, 26, [.bool sm, S nm, S dm]), (Rv, 26, [.bool sv, S nv, S dv]), (Ru, 26, [.bool su, S nu, S du]), (Rq, 26, [.bool sq, S nq, S dq]), (Rp, 26, [.bool sp, S np, S dp]), (pa, 26, [.bool sb, S nb, S db]), (pb, 26, [.bool sa, S na, S da]), (pt, 26, [.bool st, S nt, S dt])] → W.cell? ⟨Rg, 0, none⟩ = some (.bool sg) ∧ W.cell? ⟨Rg, 1, none⟩ = some (S ng) ∧ W.cell? ⟨Rg, 2, none⟩ = some (S dg) ∧ W.cell? ⟨Rm, 0, none⟩ = some (.bool sm) ∧ W.cell? ⟨Rm, 1, none⟩ = some (S nm) ∧ W.cell? ⟨Rm, 2, none⟩ = some (S dm) ∧ W.cell? ⟨Rv, 0, none⟩ = some (.bool sv) ∧ W.cell? ⟨Rv, 1, none⟩ = some (S nv) ∧ W.cell? ⟨Rv, 2, none⟩ = some (S dv) ∧ W.cell? ⟨Ru, 0, none⟩ = some (.bool su) ∧ W.cell? ⟨Ru, 1, none⟩ = some (S nu) ∧ W.cell? ⟨Ru, 2, none⟩ = some (S du) ∧ W.cell? ⟨Rq, 0, none⟩ = some (.bool sq) ∧ W.cell? ⟨Rq, 1, none⟩ = some (S nq) ∧ W.cell? ⟨Rq, 2, none⟩ = some (S dq) ∧ W.cell? ⟨Rp, 0, none⟩ = some (.bool sp) ∧ W.cell? ⟨Rp, 1, none⟩ = some (S np) ∧ W.cell? ⟨Rp, 2, none⟩ = some (S dp) ∧ W.cell? ⟨pa, 0, none⟩ = some (.bool sb) ∧ W.cell? ⟨pa, 1, none⟩ = some (S nb) ∧ W.cell? ⟨pa, 2, none⟩ = some (S db) ∧ W.cell? ⟨pb, 0, none⟩ = some (.bool sa) ∧ W.cell? ⟨pb, 1, none⟩ = some (S na) ∧ W.cell? ⟨pb, 2, none⟩ = some (S da) ∧ W.cell? ⟨pt, 0, none⟩ = some (.bool st) ∧ W.cell? ⟨pt, 1, none⟩ = some (S nt) ∧ W.cell? ⟨pt, 2, none⟩ = some (S dt) from fun W h => ⟨(h.row _ (.head _)).cell 0, (h.row _ (.head _)).cell 1, (h.row _ (.head _)).cell 2, (h.row _ (.tail _ (.head _))).cell 0, (h.row _ (.tail _ (.head _))).cell 1, (h.row _ (.tail _ (.head _))).cell 2, (h.row _ (.tail _ (.tail _ (.head _)))).cell 0, (h.row _ (.tail _ (.tail _ (.head _)))).cell 1, (h.row _ (.tail _ (.tail _ (.head _)))).cell 2, (h.row _ (.tail _ (.tail _ (.tail _ (.head _))))).cell 0, (h.row _ (.tail _ (.tail _ (.tail _ (.head _))))).cell 1, (h.row _ (.tail _ (.tail _ (.tail _ (.head _))))).cell 2, (h.row _ (.tail _ (.tail _ (.tail _ (.tail _ (.head _)))))).cell 0, (h.row _ (.tail _ (.tail _ (.tail _ (.tail _ (.head _)))))).cell 1, (h.row _ (.tail _ (.tail _ (.tail _ (.tail _ (.head _)))))).cell 2, (h.row _ (.tail _ (.tail _ (.tail _ (.tail _ (.tail _ (.head _))))))).cell 0, (h.row _ (.tail _ (.tail _ (.tail _ (.tail _ (.tail _ (.head _))))))).cell 1, (h.row _ (.tail _ (.tail _ (.tail _ (.tail _ (.tail _ (.head _))))))).cell 2, (h.row _ (.tail _ (.tail _ (.tail _ (.tail _ (.tail _ (.tail _ (.head _)))))))).cell 0, (h.row _ (.tail _ (.tail _ (.tail _ (.tail _ (.tail _ (.tail _ (.head _)))))))).cell 1, (h.row _ (.tail _ (.tail _ (.tail _ (.tail _ (.tail _ (.tail _ (.head _)))))))).cell 2, (h.row _ (.tail _ (.tail _ (.tail _ (.tail _ (.tail _ (.tail _ (.tail _ (.head _))))))))).cell 0, (h.row _ (.tail _ (.tail _ (.tail _ (.tail _ (.tail _ (.tail _ (.tail _ (.head _))))))))).cell 1, (h.row _ (.tail _ (.tail _ (.tail _ (.tail _ (.tail _ (.tail _ (.tail _ (.head _))))))))).cell 2, (h.row _ (.tail _ (.tail _ (.tail _ (.tail _ (.tail _ (.tail _ (.tail _ (.tail _ (.head _)))))))))).cell 0, (h.row _ (.tail _ (.tail _ (.tail _ (.tail _ (.tail _ (.tail _ (.tail _ (.tail _ (.head _)))))))))).cell 1, (h.row _ (.tail _ (.tail _ (.tail _ (.tail _ (.tail _ (.tail _ (.tail _ (.tail _ (.head _)))))))))).cell 2⟩)
      obtain ⟨cc0, cc1, cc2, cc3, cc4, cc5, cc6, cc7, cc8, cc9, cc10, cc11, cc12, cc13, cc14, cc15, cc16, cc17, cc18, cc19, cc20, cc21, cc22, cc23, cc24, cc25, cc26⟩ := HF260.out _ HK.out
      refine (H11.out _).mono ?_
      rintro e w166 ⟨rfl, hC⟩
      have HK2 := Lib.hid (HK.out.on hC)
      clear cc0 cc1 cc2 cc3 cc4 cc5 cc6 cc7 cc8 cc9 cc10 cc11 cc12 cc13 cc14 cc15 cc16 cc17 cc18 cc19 cc20 cc21 cc22 cc23 cc24 cc25 cc26
      clear hC HK
      have HK := HK2
      clear HK2
      obtain ⟨cc0, cc1, cc2, cc3, cc4, cc5, cc6, cc7, cc8, cc9, cc10, cc11, cc12, cc13, cc14, cc15, cc16, cc17, cc18, cc19, cc20, cc21, cc22, cc23, cc24, cc25, cc26⟩ := HF260.out _ HK.out
      go_wp2_with fail
      refine (H12.out _).mono ?_
      rintro e w167 ⟨rfl, hC⟩
      have HK2 := Lib.hid (HK.out.on hC)
      clear cc0 cc1 cc2 cc3 cc4 cc5 cc6 cc7 cc8 cc9 cc10 cc11 cc12 cc13 cc14 cc15 cc16 cc17 cc18 cc19 cc20 cc21 cc22 cc23 cc24 cc25 cc26
      clear hC HK
      have HK := HK2
      clear HK2
      obtain ⟨cc0, cc1, cc2, cc3, cc4, cc5, cc6, cc7, cc8, cc9, cc10, cc11, cc12, cc13, cc14, cc15, cc16, cc17, cc18, cc19, cc20, cc21, cc22, cc23, cc24, cc25, cc26⟩ := HF260.out _ HK.out
      go_wp2_with fail
      refine (H13.out _).mono ?_
      rintro e w168 ⟨rfl, hC⟩
      have HK2 := Lib.hid (HK.out.on hC)
      clear cc0 cc1 cc2 cc3 cc4 cc5 cc6 cc7 cc8 cc9 cc10 cc11 cc12 cc13 cc14 cc15 cc16 cc17 cc18 cc19 cc20 cc21 cc22 cc23 cc24 cc25 cc26
      clear hC HK
      have HK := HK2
      clear HK2
      obtain ⟨cc0, cc1, cc2, cc3, cc4, cc5, cc6, cc7, cc8, cc9, cc10, cc11, cc12, cc13, cc14, cc15, cc16, cc17, cc18, cc19, cc20, cc21, cc22, cc23, cc24, cc25, cc26⟩ := HF260.out _ HK.out
      go_wp2_with fail
      go_ret
      exact ⟨rfl, HK.out.ch⟩
  have LS2_012 : ∀ (pa pb pt : Nat) (W : World), Kq w W [(B + 1 + 1, 22, [.int .i64 z0, .int .i64 z1, .int .i64 z2]), (B + 1, 22, [.int .i64 y0, .int .i64 y1, .int .i64 y2]), (B, 22, [.int .i64 x0, .int .i64 x1, .int .i64 x2])] → Blk W pa 26 [.bool false, S [], S []] → Blk W pb 26 [.bool false, S [], S []] → Blk W pt 26 [.bool false, S [], S []] → B + 1 + 1 < pa → B + 1 + 1 < pb → B + 1 + 1 < pt → pa ≠ pb → pa ≠ pt → pb ≠ pt → X 4 #[true, true, true, true, true, false, true, true, true, false, false, false] { tmps := #[.agg #[.int .i64 x0, .int .i64 x1, .int .i64 x2], .agg #[.int .i64 y0, .int .i64 y1, .int .i64 y2], .agg #[.int .i64 z0, .int .i64 z1, .int .i64 z2], .pointer (some ⟨B, 0, none⟩), .pointer (some ⟨B + 1, 0, none⟩), .pointer (some ⟨B + 1 + 1, 0, none⟩), .bool false, .bool true, .pointer (some ⟨pa, 0, none⟩), .pointer (some ⟨pb, 0, none⟩), .pointer (some ⟨pt, 0, none⟩), undef, undef, undef, undef, undef, undef, undef, undef, undef, undef, undef, undef, .bool true, .agg #[.int .i64 x0, .int .i64 x1, .int .i64 x2], Rv sa na da, .agg #[.int .i64 y0, .int .i64 y1, .int .i64 y2], Rv sb nb db, .agg #[.int .i64 z0, .int .i64 z1, .int .i64 z2], undef, undef, undef, undef, undef, undef, undef, undef, undef, undef, undef, undef, undef, undef, undef, undef, undef, undef, undef, undef, undef, undef, undef, undef, undef, undef, undef, undef, undef, undef, undef, undef, undef, undef, undef, undef, undef, undef, undef, undef, undef, undef, undef, undef, undef, undef, undef, undef, undef, undef, undef, undef, undef, undef, undef, undef, undef, undef, undef, undef, undef, undef], defers := [] } W := by
    intro pa pb pt W hK0 bpa bpb bpt gpa gpb gpt dpapb dpapt dpbpt
    have HK := Lib.hid hK0
    clear hK0
    have hHeld := HF1.out _ HK.out
    refine HXO.out _ _ _ _ ?_
    refine wpAnyH_ready (rs := [5]) (by kernel_rfl) (by simp) ?_
    refine AllReadyH.cons (at_list rfl) (fun K hK => ?_) (AllReadyH.nil)
    · go_simp
      go_at_call 13
      with_reducible refine (H3.out _ (HT.out.ch HK.out.ch)).mono ?_
      rintro e wq ⟨rfl, hCq⟩
      have HK2 := Lib.hid (HK.out.on hCq)
      clear hHeld
      first | (refine hK.out _ _ ?_ (fun hHeld => ?_)) | (go_wp2_with fail; refine hK.out _ _ ?_ (fun hHeld => ?_))
      · (try dsimp only); exact HF1.out _ HK2.out
      (try simp only [List.setIfInBounds_toArray, List.set_cons_zero, List.set_cons_succ])
      exact HXI.out _ _ _ _ (LS3_012 _ _ _ _ HK2.out (hCq.blk bpa (Blk.lt bpa) (fun q => q)) (hCq.blk bpb (Blk.lt bpb) (fun q => q)) (hCq.blk bpt (Blk.lt bpt) (fun q => q)) gpa gpb gpt dpapb dpapt dpbpt)
  have LS3_01 : ∀ (pa pb : Nat) (W : World), Kq w W [(B + 1 + 1, 22, [.int .i64 z0, .int .i64 z1, .int .i64 z2]), (B + 1, 22, [.int .i64 y0, .int .i64 y1, .int .i64 y2]), (B, 22, [.int .i64 x0, .int .i64 x1, .int .i64 x2])] → Blk W pa 26 [.bool false, S [], S []] → Blk W pb 26 [.bool false, S [], S []] → B + 1 + 1 < pa → B + 1 + 1 < pb → pa ≠ pb → X 4 #[true, true, true, true, true, true, true, true, false, false, false, false] { tmps := #[.agg #[.int .i64 x0, .int .i64 x1, .int .i64 x2], .agg #[.int .i64 y0, .int .i64 y1, .int .i64 y2], .agg #[.int .i64 z0, .int .i64 z1, .int .i64 z2], .pointer (some ⟨B, 0, none⟩), .pointer (some ⟨B + 1, 0, none⟩), .pointer (some ⟨B + 1 + 1, 0, none⟩), .bool false, .bool true, .pointer (some ⟨pa, 0, none⟩), .pointer (some ⟨pb, 0, none⟩), undef, undef, undef, undef, undef, undef, undef, undef, undef, undef, undef, undef, undef, .bool true, .agg #[.int .i64 x0, .int .i64 x1, .int .i64 x2], Rv sa na da, .agg #[.int .i64 y0, .int .i64 y1, .int .i64 y2], Rv sb nb db, .agg #[.int .i64 z0, .int .i64 z1, .int .i64 z2], Rv st nt dt, undef, undef, undef, undef, undef, undef, undef, undef, undef, undef, undef, undef, undef, undef, undef, undef, undef, undef, undef, undef, undef, undef, undef, undef, undef, undef, undef, undef, undef, undef, undef, undef, undef, undef, undef, undef, undef, undef, undef, undef, undef, undef, undef, undef, undef, undef, undef, undef, undef, undef, undef, undef, undef, undef, undef, undef, undef, undef, undef, undef, undef], defers := [] } W := by
    intro pa pb W hK0 bpa bpb gpa gpb dpapb
    have HK := Lib.hid hK0
    clear hK0
    have hHeld := HF1.out _ HK.out
    refine HXO.out _ _ _ _ ?_
    refine wpAnyH_ready (rs := [8]) (by kernel_rfl) (by simp) ?_
    refine AllReadyH.cons (at_list rfl) (fun K hK => ?_) (AllReadyH.nil)
    · go_simp
      have HK2 := Lib.hid (HK.out.other (.cells #[.bool false, S [], S []] 26 (0, 0)))
      have nB := Blk.new W #[.bool false, S [], S []] 26
      have nG : B + 1 + 1 < W.heap.size := (HK.out.row _ (.head _)).lt
      clear hHeld
      refine hK.out _ _ ?_ (fun hHeld => ?_)
      · (try dsimp only); exact HF1.out _ HK2.out
      (try simp only [List.setIfInBounds_toArray, List.set_cons_zero, List.set_cons_succ])
      exact HXI.out _ _ _ _ (LS3_012 _ _ _ _ HK2.out (Blk.alloc bpa _) (Blk.alloc bpb _) nB gpa gpb nG dpapb (Nat.ne_of_lt (Blk.lt bpa)) (Nat.ne_of_lt (Blk.lt bpb)))
  have LS3_02 : ∀ (pa pt : Nat) (W : World), Kq w W [(B + 1 + 1, 22, [.int .i64 z0, .int .i64 z1, .int .i64 z2]), (B + 1, 22, [.int .i64 y0, .int .i64 y1, .int .i64 y2]), (B, 22, [.int .i64 x0, .int .i64 x1, .int .i64 x2])] → Blk W pa 26 [.bool false, S [], S []] → Blk W pt 26 [.bool false, S [], S []] → B + 1 + 1 < pa → B + 1 + 1 < pt → pa ≠ pt → X 4 #[true, true, true, true, true, true, true, false, true, false, false, false] { tmps := #[.agg #[.int .i64 x0, .int .i64 x1, .int .i64 x2], .agg #[.int .i64 y0, .int .i64 y1, .int .i64 y2], .agg #[.int .i64 z0, .int .i64 z1, .int .i64 z2], .pointer (some ⟨B, 0, none⟩), .pointer (some ⟨B + 1, 0, none⟩), .pointer (some ⟨B + 1 + 1, 0, none⟩), .bool false, .bool true, .pointer (some ⟨pa, 0, none⟩), undef, .pointer (some ⟨pt, 0, none⟩), undef, undef, undef, undef, undef, undef, undef, undef, undef, undef, undef, undef, .bool true, .agg #[.int .i64 x0, .int .i64 x1, .int .i64 x2], Rv sa na da, .agg #[.int .i64 y0, .int .i64 y1, .int .i64 y2], Rv sb nb db, .agg #[.int .i64 z0, .int .i64 z1, .int .i64 z2], Rv st nt dt, undef, undef, undef, undef, undef, undef, undef, undef, undef, undef, undef, undef, undef, undef, undef, undef, undef, undef, undef, undef, undef, undef, undef, undef, undef, undef, undef, undef, undef, undef, undef, undef, undef, undef, undef, undef, undef, undef, undef, undef, undef, undef, undef, undef, undef, undef, undef, undef, undef, undef, undef, undef, undef, undef, undef, undef, undef, undef, undef, undef, undef], defers := [] } W := by
    intro pa pt W hK0 bpa bpt gpa gpt dpapt
    have HK := Lib.hid hK0
    clear hK0
    have hHeld := HF1.out _ HK.out
    refine HXO.out _ _ _ _ ?_
    refine wpAnyH_ready (rs := [7]) (by kernel_rfl) (by simp) ?_
    refine AllReadyH.cons (at_list rfl) (fun K hK => ?_) (AllReadyH.nil)
    · go_simp
      have HK2 := Lib.hid (HK.out.other (.cells #[.bool false, S [], S []] 26 (0, 0)))
      have nB := Blk.new W #[.bool false, S [], S []] 26
      have nG : B + 1 + 1 < W.heap.size := (HK.out.row _ (.head _)).lt
      clear hHeld
      refine hK.out _ _ ?_ (fun hHeld => ?_)
      · (try dsimp only); exact HF1.out _ HK2.out
      (try simp only [List.setIfInBounds_toArray, List.set_cons_zero, List.set_cons_succ])
      exact HXI.out _ _ _ _ (LS3_012 _ _ _ _ HK2.out (Blk.alloc bpa _) nB (Blk.alloc bpt _) gpa nG gpt (Nat.ne_of_lt (Blk.lt bpa)) dpapt (Nat.ne_of_gt (Blk.lt bpt)))
  have LS3_12 : ∀ (pb pt : Nat) (W : World), Kq w W [(B + 1 + 1, 22, [.int .i64 z0, .int .i64 z1, .int .i64 z2]), (B + 1, 22, [.int .i64 y0, .int .i64 y1, .int .i64 y2]), (B, 22, [.int .i64 x0, .int .i64 x1, .int .i64 x2])] → Blk W pb 26 [.bool false, S [], S []] → Blk W pt 26 [.bool false, S [], S []] → B + 1 + 1 < pb → B + 1 + 1 < pt → pb ≠ pt → X 4 #[true, true, true, true, true, true, false, true, true, false, false, false] { tmps := #[.agg #[.int .i64 x0, .int .i64 x1, .int .i64 x2], .agg #[.int .i64 y0, .int .i64 y1, .int .i64 y2], .agg #[.int .i64 z0, .int .i64 z1, .int .i64 z2], .pointer (some ⟨B, 0, none⟩), .pointer (some ⟨B + 1, 0, none⟩), .pointer (some ⟨B + 1 + 1, 0, none⟩), .bool false, .bool true, undef, .pointer (some ⟨pb, 0, none⟩), .pointer (some ⟨pt, 0, none⟩), undef, undef, undef, undef, undef, undef, undef, undef, undef, undef, undef, undef, .bool true, .agg #[.int .i64 x0, .int .i64 x1, .int .i64 x2], Rv sa na da, .agg #[.int .i64 y0, .int .i64 y1, .int .i64 y2], Rv sb nb db, .agg #[.int .i64 z0, .int .i64 z1, .int .i64 z2], Rv st nt dt, undef, undef, undef, undef, undef, undef, undef, undef, undef, undef, undef, undef, undef, undef, undef, undef, undef, undef, undef, undef, undef, undef, undef, undef, undef, undef, undef, undef, undef, undef, undef, undef, undef, undef, undef, undef, undef, undef, undef, undef, undef, undef, undef, undef, undef, undef, undef, undef, undef, undef, undef, undef, undef, undef, undef, undef, undef, undef, undef, undef, undef], defers := [] } W := by
    intro pb pt W hK0 bpb bpt gpb gpt dpbpt
    have HK := Lib.hid hK0
    clear hK0
    have hHeld := HF1.out _ HK.out
    refine HXO.out _ _ _ _ ?_
    refine wpAnyH_ready (rs := [6]) (by kernel_rfl) (by simp) ?_
    refine AllReadyH.cons (at_list rfl) (fun K hK => ?_) (AllReadyH.nil)
    · go_simp
      have HK2 := Lib.hid (HK.out.other (.cells #[.bool false, S [], S []] 26 (0, 0)))
      have nB := Blk.new W #[.bool false, S [], S []] 26
      have nG : B + 1 + 1 < W.heap.size := (HK.out.row _ (.head _)).lt
      clear hHeld
      refine hK.out _ _ ?_ (fun hHeld => ?_)
      · (try dsimp only); exact HF1.out _ HK2.out
      (try simp only [List.setIfInBounds_toArray, List.set_cons_zero, List.set_cons_succ])
      exact HXI.out _ _ _ _ (LS3_012 _ _ _ _ HK2.out nB (Blk.alloc bpb _) (Blk.alloc bpt _) nG gpb gpt (Nat.ne_of_gt (Blk.lt bpb)) (Nat.ne_of_gt (Blk.lt bpt)) dpbpt)
  have LS1_012 : ∀ (pa pb pt : Nat) (W : World), Kq w W [(B + 1 + 1, 22, [.int .i64 z0, .int .i64 z1, .int .i64 z2]), (B + 1, 22, [.int .i64 y0, .int .i64 y1, .int .i64 y2]), (B, 22, [.int .i64 x0, .int .i64 x1, .int .i64 x2])] → Blk W pa 26 [.bool false, S [], S []] → Blk W pb 26 [.bool false, S [], S []] → Blk W pt 26 [.bool false, S [], S []] → B + 1 + 1 < pa → B + 1 + 1 < pb → B + 1 + 1 < pt → pa ≠ pb → pa ≠ pt → pb ≠ pt → X 5 #[true, true, true, false, true, false, true, true, true, false, false, false] { tmps := #[.agg #[.int .i64 x0, .int .i64 x1, .int .i64 x2], .agg #[.int .i64 y0, .int .i64 y1, .int .i64 y2], .agg #[.int .i64 z0, .int .i64 z1, .int .i64 z2], .pointer (some ⟨B, 0, none⟩), .pointer (some ⟨B + 1, 0, none⟩), .pointer (some ⟨B + 1 + 1, 0, none⟩), .bool false, .bool true, .pointer (some ⟨pa, 0, none⟩), .pointer (some ⟨pb, 0, none⟩), .pointer (some ⟨pt, 0, none⟩), undef, undef, undef, undef, undef, undef, undef, undef, undef, undef, undef, undef, .bool true, .agg #[.int .i64 x0, .int .i64 x1, .int .i64 x2], Rv sa na da, .agg #[.int .i64 y0, .int .i64 y1, .int .i64 y2], undef, .agg #[.int .i64 z0, .int .i64 z1, .int .i64 z2], undef, undef, undef, undef, undef, undef, undef, undef, undef, undef, undef, undef, undef, undef, undef, undef, undef, undef, undef, undef, undef, undef, undef, undef, undef, undef, undef, undef, undef, undef, undef, undef, undef, undef, undef, undef, undef, undef, undef, undef, undef, undef, undef, undef, undef, undef, undef, undef, undef, undef, undef, undef, undef, undef, undef, undef, undef, undef, undef, undef, undef, undef], defers := [] } W := by
    intro pa pb pt W hK0 bpa bpb bpt gpa gpb gpt dpapb dpapt dpbpt
    have HK := Lib.hid hK0
    clear hK0
    have hHeld := HF1.out _ HK.out
    refine HXO.out _ _ _ _ ?_
    refine wpAnyH_ready (rs := [3]) (by kernel_rfl) (by simp) ?_
    refine AllReadyH.cons (at_list rfl) (fun K hK => ?_) (AllReadyH.nil)
    · go_simp
      go_at_call 12
      with_reducible refine (H2.out _).mono ?_
      rintro e wq ⟨rfl, hCq⟩
      have HK2 := Lib.hid (HK.out.on hCq)
      clear hHeld
      first | (refine hK.out _ _ ?_ (fun hHeld => ?_)) | (go_wp2_with fail; refine hK.out _ _ ?_ (fun hHeld => ?_))
      · (try dsimp only); exact HF1.out _ HK2.out
      (try simp only [List.setIfInBounds_toArray, List.set_cons_zero, List.set_cons_succ])
      exact HXI.out _ _ _ _ (LS2_012 _ _ _ _ HK2.out (hCq.blk bpa (Blk.lt bpa) (fun q => q)) (hCq.blk bpb (Blk.lt bpb) (fun q => q)) (hCq.blk bpt (Blk.lt bpt) (fun q => q)) gpa gpb gpt dpapb dpapt dpbpt)
  have LS2_01 : ∀ (pa pb : Nat) (W : World), Kq w W [(B + 1 + 1, 22, [.int .i64 z0, .int .i64 z1, .int .i64 z2]), (B + 1, 22, [.int .i64 y0, .int .i64 y1, .int .i64 y2]), (B, 22, [.int .i64 x0, .int .i64 x1, .int .i64 x2])] → Blk W pa 26 [.bool false, S [], S []] → Blk W pb 26 [.bool false, S [], S []] → B + 1 + 1 < pa → B + 1 + 1 < pb → pa ≠ pb → X 5 #[true, true, true, true, true, false, true, true, false, false, false, false] { tmps := #[.agg #[.int .i64 x0, .int .i64 x1, .int .i64 x2], .agg #[.int .i64 y0, .int .i64 y1, .int .i64 y2], .agg #[.int .i64 z0, .int .i64 z1, .int .i64 z2], .pointer (some ⟨B, 0, none⟩), .pointer (some ⟨B + 1, 0, none⟩), .pointer (some ⟨B + 1 + 1, 0, none⟩), .bool false, .bool true, .pointer (some ⟨pa, 0, none⟩), .pointer (some ⟨pb, 0, none⟩), undef, undef, undef, undef, undef, undef, undef, undef, undef, undef, undef, undef, undef, .bool true, .agg #[.int .i64 x0, .int .i64 x1, .int .i64 x2], Rv sa na da, .agg #[.int .i64 y0, .int .i64 y1, .int .i64 y2], Rv sb nb db, .agg #[.int .i64 z0, .int .i64 z1, .int .i64 z2], undef, undef, undef, undef, undef, undef, undef, undef, undef, undef, undef, undef, undef, undef, undef, undef, undef, undef, undef, undef, undef, undef, undef, undef, undef, undef, undef, undef, undef, undef, undef, undef, undef, undef, undef, undef, undef, undef, undef, undef, undef, undef, undef, undef, undef, undef, undef, undef, undef, undef, undef, undef, undef, undef, undef, undef, undef, undef, undef, undef, undef, undef], defers := [] } W := by
    intro pa pb W hK0 bpa bpb gpa gpb dpapb
    have HK := Lib.hid hK0
    clear hK0
    have hHeld := HF1.out _ HK.out
    refine HXO.out _ _ _ _ ?_
    refine wpAnyH_ready (rs := [5, 8]) (by kernel_rfl) (by simp) ?_
    refine AllReadyH.cons (at_list rfl) (fun K hK => ?_) (AllReadyH.cons (at_list rfl) (fun K hK => ?_) (AllReadyH.nil))
    · go_simp
      go_at_call 13
      with_reducible refine (H3.out _ (HT.out.ch HK.out.ch)).mono ?_
      rintro e wq ⟨rfl, hCq⟩
      have HK2 := Lib.hid (HK.out.on hCq)
      clear hHeld
      first | (refine hK.out _ _ ?_ (fun hHeld => ?_)) | (go_wp2_with fail; refine hK.out _ _ ?_ (fun hHeld => ?_))
      · (try dsimp only); exact HF1.out _ HK2.out
      (try simp only [List.setIfInBounds_toArray, List.set_cons_zero, List.set_cons_succ])
      exact HXI.out _ _ _ _ (LS3_01 _ _ _ HK2.out (hCq.blk bpa (Blk.lt bpa) (fun q => q)) (hCq.blk bpb (Blk.lt bpb) (fun q => q)) gpa gpb dpapb)
    · go_simp
      have HK2 := Lib.hid (HK.out.other (.cells #[.bool false, S [], S []] 26 (0, 0)))
      have nB := Blk.new W #[.bool false, S [], S []] 26
      have nG : B + 1 + 1 < W.heap.size := (HK.out.row _ (.head _)).lt
      clear hHeld
      refine hK.out _ _ ?_ (fun hHeld => ?_)
      · (try dsimp only); exact HF1.out _ HK2.out
      (try simp only [List.setIfInBounds_toArray, List.set_cons_zero, List.set_cons_succ])
      exact HXI.out _ _ _ _ (LS2_012 _ _ _ _ HK2.out (Blk.alloc bpa _) (Blk.alloc bpb _) nB gpa gpb nG dpapb (Nat.ne_of_lt (Blk.lt bpa)) (Nat.ne_of_lt (Blk.lt bpb)))
  have LS2_02 : ∀ (pa pt : Nat) (W : World), Kq w W [(B + 1 + 1, 22, [.int .i64 z0, .int .i64 z1, .int .i64 z2]), (B + 1, 22, [.int .i64 y0, .int .i64 y1, .int .i64 y2]), (B, 22, [.int .i64 x0, .int .i64 x1, .int .i64 x2])] → Blk W pa 26 [.bool false, S [], S []] → Blk W pt 26 [.bool false, S [], S []] → B + 1 + 1 < pa → B + 1 + 1 < pt → pa ≠ pt → X 5 #[true, true, true, true, true, false, true, false, true, false, false, false] { tmps := #[.agg #[.int .i64 x0, .int .i64 x1, .int .i64 x2], .agg #[.int .i64 y0, .int .i64 y1, .int .i64 y2], .agg #[.int .i64 z0, .int .i64 z1, .int .i64 z2], .pointer (some ⟨B, 0, none⟩), .pointer (some ⟨B + 1, 0, none⟩), .pointer (some ⟨B + 1 + 1, 0, none⟩), .bool false, .bool true, .pointer (some ⟨pa, 0, none⟩), undef, .pointer (some ⟨pt, 0, none⟩), undef, undef, undef, undef, undef, undef, undef, undef, undef, undef, undef, undef, .bool true, .agg #[.int .i64 x0, .int .i64 x1, .int .i64 x2], Rv sa na da, .agg #[.int .i64 y0, .int .i64 y1, .int .i64 y2], Rv sb nb db, .agg #[.int .i64 z0, .int .i64 z1, .int .i64 z2], undef, undef, undef, undef, undef, undef, undef, undef, undef, undef, undef, undef, undef, undef, undef, undef, undef, undef, undef, undef, undef, undef, undef, undef, undef, undef, undef, undef, undef, undef, undef, undef, undef, undef, undef, undef, undef, undef, undef, undef, undef, undef, undef, undef, undef, undef, undef, undef, undef, undef, undef, undef, undef, undef, undef, undef, undef, undef, undef, undef, undef, undef], defers := [] } W := by
    intro pa pt W hK0 bpa bpt gpa gpt dpapt
    have HK := Lib.hid hK0
    clear hK0
    have hHeld := HF1.out _ HK.out
    refine HXO.out _ _ _ _ ?_
    refine wpAnyH_ready (rs := [5, 7]) (by kernel_rfl) (by simp) ?_
    refine AllReadyH.cons (at_list rfl) (fun K hK => ?_) (AllReadyH.cons (at_list rfl) (fun K hK => ?_) (AllReadyH.nil))
    · go_simp
      go_at_call 13
      with_reducible refine (H3.out _ (HT.out.ch HK.out.ch)).mono ?_
      rintro e wq ⟨rfl, hCq⟩
      have HK2 := Lib.hid (HK.out.on hCq)
      clear hHeld
      first | (refine hK.out _ _ ?_ (fun hHeld => ?_)) | (go_wp2_with fail; refine hK.out _ _ ?_ (fun hHeld => ?_))
      · (try dsimp only); exact HF1.out _ HK2.out
      (try simp only [List.setIfInBounds_toArray, List.set_cons_zero, List.set_cons_succ])
      exact HXI.out _ _ _ _ (LS3_02 _ _ _ HK2.out (hCq.blk bpa (Blk.lt bpa) (fun q => q)) (hCq.blk bpt (Blk.lt bpt) (fun q => q)) gpa gpt dpapt)
    · go_simp
      have HK2 := Lib.hid (HK.out.other (.cells #[.bool false, S [], S []] 26 (0, 0)))
      have nB := Blk.new W #[.bool false, S [], S []] 26
      have nG : B + 1 + 1 < W.heap.size := (HK.out.row _ (.head _)).lt
      clear hHeld
      refine hK.out _ _ ?_ (fun hHeld => ?_)
      · (try dsimp only); exact HF1.out _ HK2.out
      (try simp only [List.setIfInBounds_toArray, List.set_cons_zero, List.set_cons_succ])
      exact HXI.out _ _ _ _ (LS2_012 _ _ _ _ HK2.out (Blk.alloc bpa _) nB (Blk.alloc bpt _) gpa nG gpt (Nat.ne_of_lt (Blk.lt bpa)) dpapt (Nat.ne_of_gt (Blk.lt bpt)))
  have LS2_12 : ∀ (pb pt : Nat) (W : World), Kq w W [(B + 1 + 1, 22, [.int .i64 z0, .int .i64 z1, .int .i64 z2]), (B + 1, 22, [.int .i64 y0, .int .i64 y1, .int .i64 y2]), (B, 22, [.int .i64 x0, .int .i64 x1, .int .i64 x2])] → Blk W pb 26 [.bool false, S [], S []] → Blk W pt 26 [.bool false, S [], S []] → B + 1 + 1 < pb → B + 1 + 1 < pt → pb ≠ pt → X 5 #[true, true, true, true, true, false, false, true, true, false, false, false] { tmps := #[.agg #[.int .i64 x0, .int .i64 x1, .int .i64 x2], .agg #[.int .i64 y0, .int .i64 y1, .int .i64 y2], .agg #[.int .i64 z0, .int .i64 z1, .int .i64 z2], .pointer (some ⟨B, 0, none⟩), .pointer (some ⟨B + 1, 0, none⟩), .pointer (some ⟨B + 1 + 1, 0, none⟩), .bool false, .bool true, undef, .pointer (some ⟨pb, 0, none⟩), .pointer (some ⟨pt, 0, none⟩), undef, undef, undef, undef, undef, undef, undef, undef, undef, undef, undef, undef, .bool true, .agg #[.int .i64 x0, .int .i64 x1, .int .i64 x2], Rv sa na da, .agg #[.int .i64 y0, .int .i64 y1, .int .i64 y2], Rv sb nb db, .agg #[.int .i64 z0, .int .i64 z1, .int .i64 z2], undef, undef, undef, undef, undef, undef, undef, undef, undef, undef, undef, undef, undef, undef, undef, undef, undef, undef, undef, undef, undef, undef, undef, undef, undef, undef, undef, undef, undef, undef, undef, undef, undef, undef, undef, undef, undef, undef, undef, undef, undef, undef, undef, undef, undef, undef, undef, undef, undef, undef, undef, undef, undef, undef, undef, undef, undef, undef, undef, undef, undef, undef], defers := [] } W := by
    intro pb pt W hK0 bpb bpt gpb gpt dpbpt
    have HK := Lib.hid hK0
    clear hK0
    have hHeld := HF1.out _ HK.out
    refine HXO.out _ _ _ _ ?_
    refine wpAnyH_ready (rs := [5, 6]) (by kernel_rfl) (by simp) ?_
    refine AllReadyH.cons (at_list rfl) (fun K hK => ?_) (AllReadyH.cons (at_list rfl) (fun K hK => ?_) (AllReadyH.nil))
    · go_simp
      go_at_call 13
      with_reducible refine (H3.out _ (HT.out.ch HK.out.ch)).mono ?_
      rintro e wq ⟨rfl, hCq⟩
      have HK2 := Lib.hid (HK.out.on hCq)
      clear hHeld
      first | (refine hK.out _ _ ?_ (fun hHeld => ?_)) | (go_wp2_with fail; refine hK.out _ _ ?_ (fun hHeld => ?_))
      · (try dsimp only); exact HF1.out _ HK2.out
      (try simp only [List.setIfInBounds_toArray, List.set_cons_zero, List.set_cons_succ])
      exact HXI.out _ _ _ _ (LS3_12 _ _ _ HK2.out (hCq.blk bpb (Blk.lt bpb) (fun q => q)) (hCq.blk bpt (Blk.lt bpt) (fun q => q)) gpb gpt dpbpt)
    · go_simp
      have HK2 := Lib.hid (HK.out.other (.cells #[.bool false, S [], S []] 26 (0, 0)))
      have nB := Blk.new W #[.bool false, S [], S []] 26
      have nG : B + 1 + 1 < W.heap.size := (HK.out.row _ (.head _)).lt
      clear hHeld
      refine hK.out _ _ ?_ (fun hHeld => ?_)
      · (try dsimp only); exact HF1.out _ HK2.out
      (try simp only [List.setIfInBounds_toArray, List.set_cons_zero, List.set_cons_succ])
      exact HXI.out _ _ _ _ (LS2_012 _ _ _ _ HK2.out nB (Blk.alloc bpb _) (Blk.alloc bpt _) nG gpb gpt (Nat.ne_of_gt (Blk.lt bpb)) (Nat.ne_of_gt (Blk.lt bpt)) dpbpt)
  have LS3_0 : ∀ (pa : Nat) (W : World), Kq w W [(B + 1 + 1, 22, [.int .i64 z0, .int .i64 z1, .int .i64 z2]), (B + 1, 22, [.int .i64 y0, .int .i64 y1, .int .i64 y2]), (B, 22, [.int .i64 x0, .int .i64 x1, .int .i64 x2])] → Blk W pa 26 [.bool false, S [], S []] → B + 1 + 1 < pa → X 5 #[true, true, true, true, true, true, true, false, false, false, false, false] { tmps := #[.agg #[.int .i64 x0, .int .i64 x1, .int .i64 x2], .agg #[.int .i64 y0, .int .i64 y1, .int .i64 y2], .agg #[.int .i64 z0, .int .i64 z1, .int .i64 z2], .pointer (some ⟨B, 0, none⟩), .pointer (some ⟨B + 1, 0, none⟩), .pointer (some ⟨B + 1 + 1, 0, none⟩), .bool false, .bool true, .pointer (some ⟨pa, 0, none⟩), undef, undef, undef, undef, undef, undef, undef, undef, undef, undef, undef, undef, undef, undef, .bool true, .agg #[.int .i64 x0, .int .i64 x1, .int .i64 x2], Rv sa na da, .agg #[.int .i64 y0, .int .i64 y1, .int .i64 y2], Rv sb nb db, .agg #[.int .i64 z0, .int .i64 z1, .int .i64 z2], Rv st nt dt, undef, undef, undef, undef, undef, undef, undef, undef, undef, undef, undef, undef, undef, undef, undef, undef, undef, undef, undef, undef, undef, undef, undef, undef, undef, undef, undef, undef, undef, undef, undef, undef, undef, undef, undef, undef, undef, undef, undef, undef, undef, undef, undef, undef, undef, undef, undef, undef, undef, undef, undef, undef, undef, undef, undef, undef, undef, undef, undef, undef, undef], defers := [] } W := by
    intro pa W hK0 bpa gpa
    have HK := Lib.hid hK0
    clear hK0
    have hHeld := HF1.out _ HK.out
    refine HXO.out _ _ _ _ ?_
    refine wpAnyH_ready (rs := [7, 8]) (by kernel_rfl) (by simp) ?_
    refine AllReadyH.cons (at_list rfl) (fun K hK => ?_) (AllReadyH.cons (at_list rfl) (fun K hK => ?_) (AllReadyH.nil))
    · go_simp
      have HK2 := Lib.hid (HK.out.other (.cells #[.bool false, S [], S []] 26 (0, 0)))
      have nB := Blk.new W #[.bool false, S [], S []] 26
      have nG : B + 1 + 1 < W.heap.size := (HK.out.row _ (.head _)).lt
      clear hHeld
      refine hK.out _ _ ?_ (fun hHeld => ?_)
      · (try dsimp only); exact HF1.out _ HK2.out
      (try simp only [List.setIfInBounds_toArray, List.set_cons_zero, List.set_cons_succ])
      exact HXI.out _ _ _ _ (LS3_01 _ _ _ HK2.out (Blk.alloc bpa _) nB gpa nG (Nat.ne_of_lt (Blk.lt bpa)))
    · go_simp
      have HK2 := Lib.hid (HK.out.other (.cells #[.bool false, S [], S []] 26 (0, 0)))
      have nB := Blk.new W #[.bool false, S [], S []] 26
      have nG : B + 1 + 1 < W.heap.size := (HK.out.row _ (.head _)).lt
      clear hHeld
      refine hK.out _ _ ?_ (fun hHeld => ?_)
      · (try dsimp only); exact HF1.out _ HK2.out
      (try simp only [List.setIfInBounds_toArray, List.set_cons_zero, List.set_cons_succ])
      exact HXI.out _ _ _ _ (LS3_02 _ _ _ HK2.out (Blk.alloc bpa _) nB gpa nG (Nat.ne_of_lt (Blk.lt bpa)))
  have LS3_1 : ∀ (pb : Nat) (W : World), Kq w W [(B + 1 + 1, 22, [.int .i64 z0, .int .i64 z1, .int .i64 z2]), (B + 1, 22, [.int .i64 y0, .int .i64 y1, .int .i64 y2]), (B, 22, [.int .i64 x0, .int .i64 x1, .int .i64 x2])] → Blk W pb 26 [.bool false, S [], S []] → B + 1 + 1 < pb → X 5 #[true, true, true, true, true, true, false, true, false, false, false, false] { tmps := #[.agg #[.int .i64 x0, .int .i64 x1, .int .i64 x2], .agg #[.int .i64 y0, .int .i64 y1, .int .i64 y2], .agg #[.int .i64 z0, .int .i64 z1, .int .i64 z2], .pointer (some ⟨B, 0, none⟩), .pointer (some ⟨B + 1, 0, none⟩), .pointer (some ⟨B + 1 + 1, 0, none⟩), .bool false, .bool true, undef, .pointer (some ⟨pb, 0, none⟩), undef, undef, undef, undef, undef, undef, undef, undef, undef, undef, undef, undef, undef, .bool true, .agg #[.int .i64 x0, .int .i64 x1, .int .i64 x2], Rv sa na da, .agg #[.int .i64 y0, .int .i64 y1, .int .i64 y2], Rv sb nb db, .agg #[.int .i64 z0, .int .i64 z1, .int .i64 z2], Rv st nt dt, undef, undef, undef, undef, undef, undef, undef, undef, undef, undef, undef, undef, undef, undef, undef, undef, undef, undef, undef, undef, undef, undef, undef, undef, undef, undef, undef, undef, undef, undef, undef, undef, undef, undef, undef, undef, undef, undef, undef, undef, undef, undef, undef, undef, undef, undef, undef, undef, undef, undef, undef, undef, undef, undef, undef, undef, undef, undef, undef, undef, undef], defers := [] } W := by
    intro pb W hK0 bpb gpb
    have HK := Lib.hid hK0
    clear hK0
    have hHeld := HF1.out _ HK.out
    refine HXO.out _ _ _ _ ?_
    refine wpAnyH_ready (rs := [6, 8]) (by kernel_rfl) (by simp) ?_
    refine AllReadyH.cons (at_list rfl) (fun K hK => ?_) (AllReadyH.cons (at_list rfl) (fun K hK => ?_) (AllReadyH.nil))
    · go_simp
      have HK2 := Lib.hid (HK.out.other (.cells #[.bool false, S [], S []] 26 (0, 0)))
      have nB := Blk.new W #[.bool false, S [], S []] 26
      have nG : B + 1 + 1 < W.heap.size := (HK.out.row _ (.head _)).lt
      clear hHeld
      refine hK.out _ _ ?_ (fun hHeld => ?_)
      · (try dsimp only); exact HF1.out _ HK2.out
      (try simp only [List.setIfInBounds_toArray, List.set_cons_zero, List.set_cons_succ])
      exact HXI.out _ _ _ _ (LS3_01 _ _ _ HK2.out nB (Blk.alloc bpb _) nG gpb (Nat.ne_of_gt (Blk.lt bpb)))
    · go_simp
      have HK2 := Lib.hid (HK.out.other (.cells #[.bool false, S [], S []] 26 (0, 0)))
      have nB := Blk.new W #[.bool false, S [], S []] 26
      have nG : B + 1 + 1 < W.heap.size := (HK.out.row _ (.head _)).lt
      clear hHeld
      refine hK.out _ _ ?_ (fun hHeld => ?_)
      · (try dsimp only); exact HF1.out _ HK2.out
      (try simp only [List.setIfInBounds_toArray, List.set_cons_zero, List.set_cons_succ])
      exact HXI.out _ _ _ _ (LS3_12 _ _ _ HK2.out (Blk.alloc bpb _) nB gpb nG (Nat.ne_of_lt (Blk.lt bpb)))
  have LS3_2 : ∀ (pt : Nat) (W : World), Kq w W [(B + 1 + 1, 22, [.int .i64 z0, .int .i64 z1, .int .i64 z2]), (B + 1, 22, [.int .i64 y0, .int .i64 y1, .int .i64 y2]), (B, 22, [.int .i64 x0, .int .i64 x1, .int .i64 x2])] → Blk W pt 26 [.bool false, S [], S []] → B + 1 + 1 < pt → X 5 #[true, true, true, true, true, true, false, false, true, false, false, false] { tmps := #[.agg #[.int .i64 x0, .int .i64 x1, .int .i64 x2], .agg #[.int .i64 y0, .int .i64 y1, .int .i64 y2], .agg #[.int .i64 z0, .int .i64 z1, .int .i64 z2], .pointer (some ⟨B, 0, none⟩), .pointer (some ⟨B + 1, 0, none⟩), .pointer (some ⟨B + 1 + 1, 0, none⟩), .bool false, .bool true, undef, undef, .pointer (some ⟨pt, 0, none⟩), undef, undef, undef, undef, undef, undef, undef, undef, undef, undef, undef, undef, .bool true, .agg #[.int .i64 x0, .int .i64 x1, .int .i64 x2], Rv sa na da, .agg #[.int .i64 y0, .int .i64 y1, .int .i64 y2], Rv sb nb db, .agg #[.int .i64 z0, .int .i64 z1, .int .i64 z2], Rv st nt dt, undef, undef, undef, undef, undef, undef, undef, undef, undef, undef, undef, undef, undef, undef, undef, undef, undef, undef, undef, undef, undef, undef, undef, undef, undef, undef, undef, undef, undef, undef, undef, undef, undef, undef, undef, undef, undef, undef, undef, undef, undef, undef, undef, undef, undef, undef, undef, undef, undef, undef, undef, undef, undef, undef, undef, undef, undef, undef, undef, undef, undef], defers := [] } W := by
    intro pt W hK0 bpt gpt
    have HK := Lib.hid hK0
    clear hK0
    have hHeld := HF1.out _ HK.out
    refine HXO.out _ _ _ _ ?_
    refine wpAnyH_ready (rs := [6, 7]) (by kernel_rfl) (by simp) ?_
    refine AllReadyH.cons (at_list rfl) (fun K hK => ?_) (AllReadyH.cons (at_list rfl) (fun K hK => ?_) (AllReadyH.nil))
    · go_simp
      have HK2 := Lib.hid (HK.out.other (.cells #[.bool false, S [], S []] 26 (0, 0)))
      have nB := Blk.new W #[.bool false, S [], S []] 26
      have nG : B + 1 + 1 < W.heap.size := (HK.out.row _ (.head _)).lt
      clear hHeld
      refine hK.out _ _ ?_ (fun hHeld => ?_)
      · (try dsimp only); exact HF1.out _ HK2.out
      (try simp only [List.setIfInBounds_toArray, List.set_cons_zero, List.set_cons_succ])
      exact HXI.out _ _ _ _ (LS3_02 _ _ _ HK2.out nB (Blk.alloc bpt _) nG gpt (Nat.ne_of_gt (Blk.lt bpt)))
    · go_simp
      have HK2 := Lib.hid (HK.out.other (.cells #[.bool false, S [], S []] 26 (0, 0)))
      have nB := Blk.new W #[.bool false, S [], S []] 26
      have nG : B + 1 + 1 < W.heap.size := (HK.out.row _ (.head _)).lt
      clear hHeld
      refine hK.out _ _ ?_ (fun hHeld => ?_)
      · (try dsimp only); exact HF1.out _ HK2.out
      (try simp only [List.setIfInBounds_toArray, List.set_cons_zero, List.set_cons_succ])
      exact HXI.out _ _ _ _ (LS3_12 _ _ _ HK2.out nB (Blk.alloc bpt _) nG gpt (Nat.ne_of_gt (Blk.lt bpt)))
  have LS0_012 : ∀ (pa pb pt : Nat) (W : World), Kq w W [(B + 1 + 1, 22, [.int .i64 z0, .int .i64 z1, .int .i64 z2]), (B + 1, 22, [.int .i64 y0, .int .i64 y1, .int .i64 y2]), (B, 22, [.int .i64 x0, .int .i64 x1, .int .i64 x2])] → Blk W pa 26 [.bool false, S [], S []] → Blk W pb 26 [.bool false, S [], S []] → Blk W pt 26 [.bool false, S [], S []] → B + 1 + 1 < pa → B + 1 + 1 < pb → B + 1 + 1 < pt → pa ≠ pb → pa ≠ pt → pb ≠ pt → X 6 #[true, false, true, false, true, false, true, true, true, false, false, false] { tmps := #[.agg #[.int .i64 x0, .int .i64 x1, .int .i64 x2], .agg #[.int .i64 y0, .int .i64 y1, .int .i64 y2], .agg #[.int .i64 z0, .int .i64 z1, .int .i64 z2], .pointer (some ⟨B, 0, none⟩), .pointer (some ⟨B + 1, 0, none⟩), .pointer (some ⟨B + 1 + 1, 0, none⟩), .bool false, .bool true, .pointer (some ⟨pa, 0, none⟩), .pointer (some ⟨pb, 0, none⟩), .pointer (some ⟨pt, 0, none⟩), undef, undef, undef, undef, undef, undef, undef, undef, undef, undef, undef, undef, .bool true, .agg #[.int .i64 x0, .int .i64 x1, .int .i64 x2], undef, .agg #[.int .i64 y0, .int .i64 y1, .int .i64 y2], undef, .agg #[.int .i64 z0, .int .i64 z1, .int .i64 z2], undef, undef, undef, undef, undef, undef, undef, undef, undef, undef, undef, undef, undef, undef, undef, undef, undef, undef, undef, undef, undef, undef, undef, undef, undef, undef, undef, undef, undef, undef, undef, undef, undef, undef, undef, undef, undef, undef, undef, undef, undef, undef, undef, undef, undef, undef, undef, undef, undef, undef, undef, undef, undef, undef, undef, undef, undef, undef, undef, undef, undef, undef], defers := [] } W := by
    intro pa pb pt W hK0 bpa bpb bpt gpa gpb gpt dpapb dpapt dpbpt
    have HK := Lib.hid hK0
    clear hK0
    have hHeld := HF1.out _ HK.out
    refine HXO.out _ _ _ _ ?_
    refine wpAnyH_ready (rs := [1]) (by kernel_rfl) (by simp) ?_
    refine AllReadyH.cons (at_list rfl) (fun K hK => ?_) (AllReadyH.nil)
    · go_simp
      go_at_call 12
      with_reducible refine (H1.out _).mono ?_
      rintro e wq ⟨rfl, hCq⟩
      have HK2 := Lib.hid (HK.out.on hCq)
      clear hHeld
      first | (refine hK.out _ _ ?_ (fun hHeld => ?_)) | (go_wp2_with fail; refine hK.out _ _ ?_ (fun hHeld => ?_))
      · (try dsimp only); exact HF1.out _ HK2.out
      (try simp only [List.setIfInBounds_toArray, List.set_cons_zero, List.set_cons_succ])
      exact HXI.out _ _ _ _ (LS1_012 _ _ _ _ HK2.out (hCq.blk bpa (Blk.lt bpa) (fun q => q)) (hCq.blk bpb (Blk.lt bpb) (fun q => q)) (hCq.blk bpt (Blk.lt bpt) (fun q => q)) gpa gpb gpt dpapb dpapt dpbpt)
  have LS1_01 : ∀ (pa pb : Nat) (W : World), Kq w W [(B + 1 + 1, 22, [.int .i64 z0, .int .i64 z1, .int .i64 z2]), (B + 1, 22, [.int .i64 y0, .int .i64 y1, .int .i64 y2]), (B, 22, [.int .i64 x0, .int .i64 x1, .int .i64 x2])] → Blk W pa 26 [.bool false, S [], S []] → Blk W pb 26 [.bool false, S [], S []] → B + 1 + 1 < pa → B + 1 + 1 < pb → pa ≠ pb → X 6 #[true, true, true, false, true, false, true, true, false, false, false, false] { tmps := #[.agg #[.int .i64 x0, .int .i64 x1, .int .i64 x2], .agg #[.int .i64 y0, .int .i64 y1, .int .i64 y2], .agg #[.int .i64 z0, .int .i64 z1, .int .i64 z2], .pointer (some ⟨B, 0, none⟩), .pointer (some ⟨B + 1, 0, none⟩), .pointer (some ⟨B + 1 + 1, 0, none⟩), .bool false, .bool true, .pointer (some ⟨pa, 0, none⟩), .pointer (some ⟨pb, 0, none⟩), undef, undef, undef, undef, undef, undef, undef, undef, undef, undef, undef, undef, undef, .bool true, .agg #[.int .i64 x0, .int .i64 x1, .int .i64 x2], Rv sa na da, .agg #[.int .i64 y0, .int .i64 y1, .int .i64 y2], undef, .agg #[.int .i64 z0, .int .i64 z1, .int .i64 z2], undef, undef, undef, undef, undef, undef, undef, undef, undef, undef, undef, undef, undef, undef, undef, undef, undef, undef, undef, undef, undef, undef, undef, undef, undef, undef, undef, undef, undef, undef, undef, undef, undef, undef, undef, undef, undef, undef, undef, undef, undef, undef, undef, undef, undef, undef, undef, undef, undef, undef, undef, undef, undef, undef, undef, undef, undef, undef, undef, undef, undef, undef], defers := [] } W := by
    intro pa pb W hK0 bpa bpb gpa gpb dpapb
    have HK := Lib.hid hK0
    clear hK0
    have hHeld := HF1.out _ HK.out
    refine HXO.out _ _ _ _ ?_
    refine wpAnyH_ready (rs := [3, 8]) (by kernel_rfl) (by simp) ?_
    refine AllReadyH.cons (at_list rfl) (fun K hK => ?_) (AllReadyH.cons (at_list rfl) (fun K hK => ?_) (AllReadyH.nil))
    · go_simp
      go_at_call 12
      with_reducible refine (H2.out _).mono ?_
      rintro e wq ⟨rfl, hCq⟩
      have HK2 := Lib.hid (HK.out.on hCq)
      clear hHeld
      first | (refine hK.out _ _ ?_ (fun hHeld => ?_)) | (go_wp2_with fail; refine hK.out _ _ ?_ (fun hHeld => ?_))
      · (try dsimp only); exact HF1.out _ HK2.out
      (try simp only [List.setIfInBounds_toArray, List.set_cons_zero, List.set_cons_succ])
      exact HXI.out _ _ _ _ (LS2_01 _ _ _ HK2.out (hCq.blk bpa (Blk.lt bpa) (fun q => q)) (hCq.blk bpb (Blk.lt bpb) (fun q => q)) gpa gpb dpapb)
    · go_simp
      have HK2 := Lib.hid (HK.out.other (.cells #[.bool false, S [], S []] 26 (0, 0)))
      have nB := Blk.new W #[.bool false, S [], S []] 26
      have nG : B + 1 + 1 < W.heap.size := (HK.out.row _ (.head _)).lt
      clear hHeld
      refine hK.out _ _ ?_ (fun hHeld => ?_)
      · (try dsimp only); exact HF1.out _ HK2.out
      (try simp only [List.setIfInBounds_toArray, List.set_cons_zero, List.set_cons_succ])
      exact HXI.out _ _ _ _ (LS1_012 _ _ _ _ HK2.out (Blk.alloc bpa _) (Blk.alloc bpb _) nB gpa gpb nG dpapb (Nat.ne_of_lt (Blk.lt bpa)) (Nat.ne_of_lt (Blk.lt bpb)))
  have LS1_02 : ∀ (pa pt : Nat) (W : World), Kq w W [(B + 1 + 1, 22, [.int .i64 z0, .int .i64 z1, .int .i64 z2]), (B + 1, 22, [.int .i64 y0, .int .i64 y1, .int .i64 y2]), (B, 22, [.int .i64 x0, .int .i64 x1, .int .i64 x2])] → Blk W pa 26 [.bool false, S [], S []] → Blk W pt 26 [.bool false, S [], S []] → B + 1 + 1 < pa → B + 1 + 1 < pt → pa ≠ pt → X 6 #[true, true, true, false, true, false, true, false, true, false, false, false] { tmps := #[.agg #[.int .i64 x0, .int .i64 x1, .int .i64 x2], .agg #[.int .i64 y0, .int .i64 y1, .int .i64 y2], .agg #[.int .i64 z0, .int .i64 z1, .int .i64 z2], .pointer (some ⟨B, 0, none⟩), .pointer (some ⟨B + 1, 0, none⟩), .pointer (some ⟨B + 1 + 1, 0, none⟩), .bool false, .bool true, .pointer (some ⟨pa, 0, none⟩), undef, .pointer (some ⟨pt, 0, none⟩), undef, undef, undef, undef, undef, undef, undef, undef, undef, undef, undef, undef, .bool true, .agg #[.int .i64 x0, .int .i64 x1, .int .i64 x2], Rv sa na da, .agg #[.int .i64 y0, .int .i64 y1, .int .i64 y2], undef, .agg #[.int .i64 z0, .int .i64 z1, .int .i64 z2], undef, undef, undef, undef, undef, undef, undef, undef, undef, undef, undef, undef, undef, undef, undef, undef, undef, undef, undef, undef, undef, undef, undef, undef, undef, undef, undef, undef, undef, undef, undef, undef, undef, undef, undef, undef, undef, undef, undef, undef, undef, undef, undef, undef, undef, undef, undef, undef, undef, undef, undef, undef, undef, undef, undef, undef, undef, undef, undef, undef, undef, undef], defers := [] } W := by
    intro pa pt W hK0 bpa bpt gpa gpt dpapt
    have HK := Lib.hid hK0
    clear hK0
    have hHeld := HF1.out _ HK.out
    refine HXO.out _ _ _ _ ?_
    refine wpAnyH_ready (rs := [3, 7]) (by kernel_rfl) (by simp) ?_
    refine AllReadyH.cons (at_list rfl) (fun K hK => ?_) (AllReadyH.cons (at_list rfl) (fun K hK => ?_) (AllReadyH.nil))
    · go_simp
      go_at_call 12
      with_reducible refine (H2.out _).mono ?_
      rintro e wq ⟨rfl, hCq⟩
      have HK2 := Lib.hid (HK.out.on hCq)
      clear hHeld
      first | (refine hK.out _ _ ?_ (fun hHeld => ?_)) | (go_wp2_with fail; refine hK.out _ _ ?_ (fun hHeld => ?_))
      · (try dsimp only); exact HF1.out _ HK2.out
      (try simp only [List.setIfInBounds_toArray, List.set_cons_zero, List.set_cons_succ])
      exact HXI.out _ _ _ _ (LS2_02 _ _ _ HK2.out (hCq.blk bpa (Blk.lt bpa) (fun q => q)) (hCq.blk bpt (Blk.lt bpt) (fun q => q)) gpa gpt dpapt)
    · go_simp
      have HK2 := Lib.hid (HK.out.other (.cells #[.bool false, S [], S []] 26 (0, 0)))
      have nB := Blk.new W #[.bool false, S [], S []] 26
      have nG : B + 1 + 1 < W.heap.size := (HK.out.row _ (.head _)).lt
      clear hHeld
      refine hK.out _ _ ?_ (fun hHeld => ?_)
      · (try dsimp only); exact HF1.out _ HK2.out
      (try simp only [List.setIfInBounds_toArray, List.set_cons_zero, List.set_cons_succ])
      exact HXI.out _ _ _ _ (LS1_012 _ _ _ _ HK2.out (Blk.alloc bpa _) nB (Blk.alloc bpt _) gpa nG gpt (Nat.ne_of_lt (Blk.lt bpa)) dpapt (Nat.ne_of_gt (Blk.lt bpt)))
  have LS1_12 : ∀ (pb pt : Nat) (W : World), Kq w W [(B + 1 + 1, 22, [.int .i64 z0, .int .i64 z1, .int .i64 z2]), (B + 1, 22, [.int .i64 y0, .int .i64 y1, .int .i64 y2]), (B, 22, [.int .i64 x0, .int .i64 x1, .int .i64 x2])] → Blk W pb 26 [.bool false, S [], S []] → Blk W pt 26 [.bool false, S [], S []] → B + 1 + 1 < pb → B + 1 + 1 < pt → pb ≠ pt → X 6 #[true, true, true, false, true, false, false, true, true, false, false, false] { tmps := #[.agg #[.int .i64 x0, .int .i64 x1, .int .i64 x2], .agg #[.int .i64 y0, .int .i64 y1, .int .i64 y2], .agg #[.int .i64 z0, .int .i64 z1, .int .i64 z2], .pointer (some ⟨B, 0, none⟩), .pointer (some ⟨B + 1, 0, none⟩), .pointer (some ⟨B + 1 + 1, 0, none⟩), .bool false, .bool true, undef, .pointer (some ⟨pb, 0, none⟩), .pointer (some ⟨pt, 0, none⟩), undef, undef, undef, undef, undef, undef, undef, undef, undef, undef, undef, undef, .bool true, .agg #[.int .i64 x0, .int .i64 x1, .int .i64 x2], Rv sa na da, .agg #[.int .i64 y0, .int .i64 y1, .int .i64 y2], undef, .agg #[.int .i64 z0, .int .i64 z1, .int .i64 z2], undef, undef, undef, undef, undef, undef, undef, undef, undef, undef, undef, undef, undef, undef, undef, undef, undef, undef, undef, undef, undef, undef, undef, undef, undef, undef, undef, undef, undef, undef, undef, undef, undef, undef, undef, undef, undef, undef, undef, undef, undef, undef, undef, undef, undef, undef, undef, undef, undef, undef, undef, undef, undef, undef, undef, undef, undef, undef, undef, undef, undef, undef], defers := [] } W := by
    intro pb pt W hK0 bpb bpt gpb gpt dpbpt
    have HK := Lib.hid hK0
    clear hK0
    have hHeld := HF1.out _ HK.out
    refine HXO.out _ _ _ _ ?_
    refine wpAnyH_ready (rs := [3, 6]) (by kernel_rfl) (by simp) ?_
    refine AllReadyH.cons (at_list rfl) (fun K hK => ?_) (AllReadyH.cons (at_list rfl) (fun K hK => ?_) (AllReadyH.nil))
    · go_simp
      go_at_call 12
      with_reducible refine (H2.out _).mono ?_
      rintro e wq ⟨rfl, hCq⟩
      have HK2 := Lib.hid (HK.out.on hCq)
      clear hHeld
      first | (refine hK.out _ _ ?_ (fun hHeld => ?_)) | (go_wp2_with fail; refine hK.out _ _ ?_ (fun hHeld => ?_))
      · (try dsimp only); exact HF1.out _ HK2.out
      (try simp only [List.setIfInBounds_toArray, List.set_cons_zero, List.set_cons_succ])
      exact HXI.out _ _ _ _ (LS2_12 _ _ _ HK2.out (hCq.blk bpb (Blk.lt bpb) (fun q => q)) (hCq.blk bpt (Blk.lt bpt) (fun q => q)) gpb gpt dpbpt)
    · go_simp
      have HK2 := Lib.hid (HK.out.other (.cells #[.bool false, S [], S []] 26 (0, 0)))
      have nB := Blk.new W #[.bool false, S [], S []] 26
      have nG : B + 1 + 1 < W.heap.size := (HK.out.row _ (.head _)).lt
      clear hHeld
      refine hK.out _ _ ?_ (fun hHeld => ?_)
      · (try dsimp only); exact HF1.out _ HK2.out
      (try simp only [List.setIfInBounds_toArray, List.set_cons_zero, List.set_cons_succ])
      exact HXI.out _ _ _ _ (LS1_012 _ _ _ _ HK2.out nB (Blk.alloc bpb _) (Blk.alloc bpt _) nG gpb gpt (Nat.ne_of_gt (Blk.lt bpb)) (Nat.ne_of_gt (Blk.lt bpt)) dpbpt)
  have LS2_0 : ∀ (pa : Nat) (W : World), Kq w W [(B + 1 + 1, 22, [.int .i64 z0, .int .i64 z1, .int .i64 z2]), (B + 1, 22, [.int .i64 y0, .int .i64 y1, .int .i64 y2]), (B, 22, [.int .i64 x0, .int .i64 x1, .int .i64 x2])] → Blk W pa 26 [.bool false, S [], S []] → B + 1 + 1 < pa → X 6 #[true, true, true, true, true, false, true, false, false, false, false, false] { tmps := #[.agg #[.int .i64 x0, .int .i64 x1, .int .i64 x2], .agg #[.int .i64 y0, .int .i64 y1, .int .i64 y2], .agg #[.int .i64 z0, .int .i64 z1, .int .i64 z2], .pointer (some ⟨B, 0, none⟩), .pointer (some ⟨B + 1, 0, none⟩), .pointer (some ⟨B + 1 + 1, 0, none⟩), .bool false, .bool true, .pointer (some ⟨pa, 0, none⟩), undef, undef, undef, undef, undef, undef, undef, undef, undef, undef, undef, undef, undef, undef, .bool true, .agg #[.int .i64 x0, .int .i64 x1, .int .i64 x2], Rv sa na da, .agg #[.int .i64 y0, .int .i64 y1, .int .i64 y2], Rv sb nb db, .agg #[.int .i64 z0, .int .i64 z1, .int .i64 z2], undef, undef, undef, undef, undef, undef, undef, undef, undef, undef, undef, undef, undef, undef, undef, undef, undef, undef, undef, undef, undef, undef, undef, undef, undef, undef, undef, undef, undef, undef, undef, undef, undef, undef, undef, undef, undef, undef, undef, undef, undef, undef, undef, undef, undef, undef, undef, undef, undef, undef, undef, undef, undef, undef, undef, undef, undef, undef, undef, undef, undef, undef], defers := [] } W := by
    intro pa W hK0 bpa gpa
    have HK := Lib.hid hK0
    clear hK0
    have hHeld := HF1.out _ HK.out
    refine HXO.out _ _ _ _ ?_
    refine wpAnyH_ready (rs := [5, 7, 8]) (by kernel_rfl) (by simp) ?_
    refine AllReadyH.cons (at_list rfl) (fun K hK => ?_) (AllReadyH.cons (at_list rfl) (fun K hK => ?_) (AllReadyH.cons (at_list rfl) (fun K hK => ?_) (AllReadyH.nil)))
    · go_simp
      go_at_call 13
      with_reducible refine (H3.out _ (HT.out.ch HK.out.ch)).mono ?_
      rintro e wq ⟨rfl, hCq⟩
      have HK2 := Lib.hid (HK.out.on hCq)
      clear hHeld
      first | (refine hK.out _ _ ?_ (fun hHeld => ?_)) | (go_wp2_with fail; refine hK.out _ _ ?_ (fun hHeld => ?_))
      · (try dsimp only); exact HF1.out _ HK2.out
      (try simp only [List.setIfInBounds_toArray, List.set_cons_zero, List.set_cons_succ])
      exact HXI.out _ _ _ _ (LS3_0 _ _ HK2.out (hCq.blk bpa (Blk.lt bpa) (fun q => q)) gpa)
    · go_simp
      have HK2 := Lib.hid (HK.out.other (.cells #[.bool false, S [], S []] 26 (0, 0)))
      have nB := Blk.new W #[.bool false, S [], S []] 26
      have nG : B + 1 + 1 < W.heap.size := (HK.out.row _ (.head _)).lt
      clear hHeld
      refine hK.out _ _ ?_ (fun hHeld => ?_)
      · (try dsimp only); exact HF1.out _ HK2.out
      (try simp only [List.setIfInBounds_toArray, List.set_cons_zero, List.set_cons_succ])
      exact HXI.out _ _ _ _ (LS2_01 _ _ _ HK2.out (Blk.alloc bpa _) nB gpa nG (Nat.ne_of_lt (Blk.lt bpa)))
    · go_simp
      have HK2 := Lib.hid (HK.out.other (.cells #[.bool false, S [], S []] 26 (0, 0)))
      have nB := Blk.new W #[.bool false, S [], S []] 26
      have nG : B + 1 + 1 < W.heap.size := (HK.out.row _ (.head _)).lt
      clear hHeld
      refine hK.out _ _ ?_ (fun hHeld => ?_)
      · (try dsimp only); exact HF1.out _ HK2.out
      (try simp only [List.setIfInBounds_toArray, List.set_cons_zero, List.set_cons_succ])
      exact HXI.out _ _ _ _ (LS2_02 _ _ _ HK2.out (Blk.alloc bpa _) nB gpa nG (Nat.ne_of_lt (Blk.lt bpa)))
  have LS2_1 : ∀ (pb : Nat) (W : World), Kq w W [(B + 1 + 1, 22, [.int .i64 z0, .int .i64 z1, .int .i64 z2]), (B + 1, 22, [.int .i64 y0, .int .i64 y1, .int .i64 y2]), (B, 22, [.int .i64 x0, .int .i64 x1, .int .i64 x2])] → Blk W pb 26 [.bool false, S [], S []] → B + 1 + 1 < pb → X 6 #[true, true, true, true, true, false, false, true, false, false, false, false] { tmps := #[.agg #[.int .i64 x0, .int .i64 x1, .int .i64 x2], .agg #[.int .i64 y0, .int .i64 y1, .int .i64 y2], .agg #[.int .i64 z0, .int .i64 z1, .int .i64 z2], .pointer (some ⟨B, 0, none⟩), .pointer (some ⟨B + 1, 0, none⟩), .pointer (some ⟨B + 1 + 1, 0, none⟩), .bool false, .bool true, undef, .pointer (some ⟨pb, 0, none⟩), undef, undef, undef, undef, undef, undef, undef, undef, undef, undef, undef, undef, undef, .bool true, .agg #[.int .i64 x0, .int .i64 x1, .int .i64 x2], Rv sa na da, .agg #[.int .i64 y0, .int .i64 y1, .int .i64 y2], Rv sb nb db, .agg #[.int .i64 z0, .int .i64 z1, .int .i64 z2], undef, undef, undef, undef, undef, undef, undef, undef, undef, undef, undef, undef, undef, undef, undef, undef, undef, undef, undef, undef, undef, undef, undef, undef, undef, undef, undef, undef, undef, undef, undef, undef, undef, undef, undef, undef, undef, undef, undef, undef, undef, undef, undef, undef, undef, undef, undef, undef, undef, undef, undef, undef, undef, undef, undef, undef, undef, undef, undef, undef, undef, undef], defers := [] } W := by
    intro pb W hK0 bpb gpb
    have HK := Lib.hid hK0
    clear hK0
    have hHeld := HF1.out _ HK.out
    refine HXO.out _ _ _ _ ?_
    refine wpAnyH_ready (rs := [5, 6, 8]) (by kernel_rfl) (by simp) ?_
    refine AllReadyH.cons (at_list rfl) (fun K hK => ?_) (AllReadyH.cons (at_list rfl) (fun K hK => ?_) (AllReadyH.cons (at_list rfl) (fun K hK => ?_) (AllReadyH.nil)))
    · go_simp
      go_at_call 13
      with_reducible refine (H3.out _ (HT.out.ch HK.out.ch)).mono ?_
      rintro e wq ⟨rfl, hCq⟩
      have HK2 := Lib.hid (HK.out.on hCq)
      clear hHeld
      first | (refine hK.out _ _ ?_ (fun hHeld => ?_)) | (go_wp2_with fail; refine hK.out _ _ ?_ (fun hHeld => ?_))
      · (try dsimp only); exact HF1.out _ HK2.out
      (try simp only [List.setIfInBounds_toArray, List.set_cons_zero, List.set_cons_succ])
      exact HXI.out _ _ _ _ (LS3_1 _ _ HK2.out (hCq.blk bpb (Blk.lt bpb) (fun q => q)) gpb)
    · go_simp
      have HK2 := Lib.hid (HK.out.other (.cells #[.bool false, S [], S []] 26 (0, 0)))
      have nB := Blk.new W #[.bool false, S [], S []] 26
      have nG : B + 1 + 1 < W.heap.size := (HK.out.row _ (.head _)).lt
      clear hHeld
      refine hK.out _ _ ?_ (fun hHeld => ?_)
      · (try dsimp only); exact HF1.out _ HK2.out
      (try simp only [List.setIfInBounds_toArray, List.set_cons_zero, List.set_cons_succ])
      exact HXI.out _ _ _ _ (LS2_01 _ _ _ HK2.out nB (Blk.alloc bpb _) nG gpb (Nat.ne_of_gt (Blk.lt bpb)))
    · go_simp
      have HK2 := Lib.hid (HK.out.other (.cells #[.bool false, S [], S []] 26 (0, 0)))
      have nB := Blk.new W #[.bool false, S [], S []] 26
      have nG : B + 1 + 1 < W.heap.size := (HK.out.row _ (.head _)).lt
      clear hHeld
      refine hK.out _ _ ?_ (fun hHeld => ?_)
      · (try dsimp only); exact HF1.out _ HK2.out
      (try simp only [List.setIfInBounds_toArray, List.set_cons_zero, List.set_cons_succ])
      exact HXI.out _ _ _ _ (LS2_12 _ _ _ HK2.out (Blk.alloc bpb _) nB gpb nG (Nat.ne_of_lt (Blk.lt bpb)))
  have LS2_2 : ∀ (pt : Nat) (W : World), Kq w W [(B + 1 + 1, 22, [.int .i64 z0, .int .i64 z1, .int .i64 z2]), (B + 1, 22, [.int .i64 y0, .int .i64 y1, .int .i64 y2]), (B, 22, [.int .i64 x0, .int .i64 x1, .int .i64 x2])] → Blk W pt 26 [.bool false, S [], S []] → B + 1 + 1 < pt → X 6 #[true, true, true, true, true, false, false, false, true, false, false, false] { tmps := #[.agg #[.int .i64 x0, .int .i64 x1, .int .i64 x2], .agg #[.int .i64 y0, .int .i64 y1, .int .i64 y2], .agg #[.int .i64 z0, .int .i64 z1, .int .i64 z2], .pointer (some ⟨B, 0, none⟩), .pointer (some ⟨B + 1, 0, none⟩), .pointer (some ⟨B + 1 + 1, 0, none⟩), .bool false, .bool true, undef, undef, .pointer (some ⟨pt, 0, none⟩), undef, undef, undef, undef, undef, undef, undef, undef, undef, undef, undef, undef, .bool true, .agg #[.int .i64 x0, .int .i64 x1, .int .i64 x2], Rv sa na da, .agg #[.int .i64 y0, .int .i64 y1, .int .i64 y2], Rv sb nb db, .agg #[.int .i64 z0, .int .i64 z1, .int .i64 z2], undef, undef, undef, undef, undef, undef, undef, undef, undef, undef, undef, undef, undef, undef, undef, undef, undef, undef, undef, undef, undef, undef, undef, undef, undef, undef, undef, undef, undef, undef, undef, undef, undef, undef, undef, undef, undef, undef, undef, undef, undef, undef, undef, undef, undef, undef, undef, undef, undef, undef, undef, undef, undef, undef, undef, undef, undef, undef, undef, undef, undef, undef], defers := [] } W := by
    intro pt W hK0 bpt gpt
    have HK := Lib.hid hK0
    clear hK0
    have hHeld := HF1.out _ HK.out
    refine HXO.out _ _ _ _ ?_
    refine wpAnyH_ready (rs := [5, 6, 7]) (by kernel_rfl) (by simp) ?_
    refine AllReadyH.cons (at_list rfl) (fun K hK => ?_) (AllReadyH.cons (at_list rfl) (fun K hK => ?_) (AllReadyH.cons (at_list rfl) (fun K hK => ?_) (AllReadyH.nil)))
    · go_simp
      go_at_call 13
      with_reducible refine (H3.out _ (HT.out.ch HK.out.ch)).mono ?_
      rintro e wq ⟨rfl, hCq⟩
      have HK2 := Lib.hid (HK.out.on hCq)
      clear hHeld
      first | (refine hK.out _ _ ?_ (fun hHeld => ?_)) | (go_wp2_with fail; refine hK.out _ _ ?_ (fun hHeld => ?_))
      · (try dsimp only); exact HF1.out _ HK2.out
      (try simp only [List.setIfInBounds_toArray, List.set_cons_zero, List.set_cons_succ])
      exact HXI.out _ _ _ _ (LS3_2 _ _ HK2.out (hCq.blk bpt (Blk.lt bpt) (fun q => q)) gpt)
    · go_simp
      have HK2 := Lib.hid (HK.out.other (.cells #[.bool false, S [], S []] 26 (0, 0)))
      have nB := Blk.new W #[.bool false, S [], S []] 26
      have nG : B + 1 + 1 < W.heap.size := (HK.out.row _ (.head _)).lt
      clear hHeld
      refine hK.out _ _ ?_ (fun hHeld => ?_)
      · (try dsimp only); exact HF1.out _ HK2.out
      (try simp only [List.setIfInBounds_toArray, List.set_cons_zero, List.set_cons_succ])
      exact HXI.out _ _ _ _ (LS2_02 _ _ _ HK2.out nB (Blk.alloc bpt _) nG gpt (Nat.ne_of_gt (Blk.lt bpt)))
    · go_simp
      have HK2 := Lib.hid (HK.out.other (.cells #[.bool false, S [], S []] 26 (0, 0)))
      have nB := Blk.new W #[.bool false, S [], S []] 26
      have nG : B + 1 + 1 < W.heap.size := (HK.out.row _ (.head _)).lt
      clear hHeld
      refine hK.out _ _ ?_ (fun hHeld => ?_)
      · (try dsimp only); exact HF1.out _ HK2.out
      (try simp only [List.setIfInBounds_toArray, List.set_cons_zero, List.set_cons_succ])
      exact HXI.out _ _ _ _ (LS2_12 _ _ _ HK2.out nB (Blk.alloc bpt _) nG gpt (Nat.ne_of_gt (Blk.lt bpt)))
  have LS3_ : ∀ (W : World), Kq w W [(B + 1 + 1, 22, [.int .i64 z0, .int .i64 z1, .int .i64 z2]), (B + 1, 22, [.int .i64 y0, .int .i64 y1, .int .i64 y2]), (B, 22, [.int .i64 x0, .int .i64 x1, .int .i64 x2])] → X 6 #[true, true, true, true, true, true, false, false, false, false, false, false] { tmps := #[.agg #[.int .i64 x0, .int .i64 x1, .int .i64 x2], .agg #[.int .i64 y0, .int .i64 y1, .int .i64 y2], .agg #[.int .i64 z0, .int .i64 z1, .int .i64 z2], .pointer (some ⟨B, 0, none⟩), .pointer (some ⟨B + 1, 0, none⟩), .pointer (some ⟨B + 1 + 1, 0, none⟩), .bool false, .bool true, undef, undef, undef, undef, undef, undef, undef, undef, undef, undef, undef, undef, undef, undef, undef, .bool true, .agg #[.int .i64 x0, .int .i64 x1, .int .i64 x2], Rv sa na da, .agg #[.int .i64 y0, .int .i64 y1, .int .i64 y2], Rv sb nb db, .agg #[.int .i64 z0, .int .i64 z1, .int .i64 z2], Rv st nt dt, undef, undef, undef, undef, undef, undef, undef, undef, undef, undef, undef, undef, undef, undef, undef, undef, undef, undef, undef, undef, undef, undef, undef, undef, undef, undef, undef, undef, undef, undef, undef, undef, undef, undef, undef, undef, undef, undef, undef, undef, undef, undef, undef, undef, undef, undef, undef, undef, undef, undef, undef, undef, undef, undef, undef, undef, undef, undef, undef, undef, undef], defers := [] } W := by
    intro  W hK0 
    have HK := Lib.hid hK0
    clear hK0
    have hHeld := HF1.out _ HK.out
    refine HXO.out _ _ _ _ ?_
    refine wpAnyH_ready (rs := [6, 7, 8]) (by kernel_rfl) (by simp) ?_
    refine AllReadyH.cons (at_list rfl) (fun K hK => ?_) (AllReadyH.cons (at_list rfl) (fun K hK => ?_) (AllReadyH.cons (at_list rfl) (fun K hK => ?_) (AllReadyH.nil)))
    · go_simp
      have HK2 := Lib.hid (HK.out.other (.cells #[.bool false, S [], S []] 26 (0, 0)))
      have nB := Blk.new W #[.bool false, S [], S []] 26
      have nG : B + 1 + 1 < W.heap.size := (HK.out.row _ (.head _)).lt
      clear hHeld
      refine hK.out _ _ ?_ (fun hHeld => ?_)
      · (try dsimp only); exact HF1.out _ HK2.out
      (try simp only [List.setIfInBounds_toArray, List.set_cons_zero, List.set_cons_succ])
      exact HXI.out _ _ _ _ (LS3_0 _ _ HK2.out nB nG)
    · go_simp
      have HK2 := Lib.hid (HK.out.other (.cells #[.bool false, S [], S []] 26 (0, 0)))
      have nB := Blk.new W #[.bool false, S [], S []] 26
      have nG : B + 1 + 1 < W.heap.size := (HK.out.row _ (.head _)).lt
      clear hHeld
      refine hK.out _ _ ?_ (fun hHeld => ?_)
      · (try dsimp only); exact HF1.out _ HK2.out
      (try simp only [List.setIfInBounds_toArray, List.set_cons_zero, List.set_cons_succ])
      exact HXI.out _ _ _ _ (LS3_1 _ _ HK2.out nB nG)
    · go_simp
      have HK2 := Lib.hid (HK.out.other (.cells #[.bool false, S [], S []] 26 (0, 0)))
      have nB := Blk.new W #[.bool false, S [], S []] 26
      have nG : B + 1 + 1 < W.heap.size := (HK.out.row _ (.head _)).lt
      clear hHeld
      refine hK.out _ _ ?_ (fun hHeld => ?_)
      · (try dsimp only); exact HF1.out _ HK2.out
      (try simp only [List.setIfInBounds_toArray, List.set_cons_zero, List.set_cons_succ])
      exact HXI.out _ _ _ _ (LS3_2 _ _ HK2.out nB nG)
  have LS0_01 : ∀ (pa pb : Nat) (W : World), Kq w W [(B + 1 + 1, 22, [.int .i64 z0, .int .i64 z1, .int .i64 z2]), (B + 1, 22, [.int .i64 y0, .int .i64 y1, .int .i64 y2]), (B, 22, [.int .i64 x0, .int .i64 x1, .int .i64 x2])] → Blk W pa 26 [.bool false, S [], S []] → Blk W pb 26 [.bool false, S [], S []] → B + 1 + 1 < pa → B + 1 + 1 < pb → pa ≠ pb → X 7 #[true, false, true, false, true, false, true, true, false, false, false, false] { tmps := #[.agg #[.int .i64 x0, .int .i64 x1, .int .i64 x2], .agg #[.int .i64 y0, .int .i64 y1, .int .i64 y2], .agg #[.int .i64 z0, .int .i64 z1, .int .i64 z2], .pointer (some ⟨B, 0, none⟩), .pointer (some ⟨B + 1, 0, none⟩), .pointer (some ⟨B + 1 + 1, 0, none⟩), .bool false, .bool true, .pointer (some ⟨pa, 0, none⟩), .pointer (some ⟨pb, 0, none⟩), undef, undef, undef, undef, undef, undef, undef, undef, undef, undef, undef, undef, undef, .bool true, .agg #[.int .i64 x0, .int .i64 x1, .int .i64 x2], undef, .agg #[.int .i64 y0, .int .i64 y1, .int .i64 y2], undef, .agg #[.int .i64 z0, .int .i64 z1, .int .i64 z2], undef, undef, undef, undef, undef, undef, undef, undef, undef, undef, undef, undef, undef, undef, undef, undef, undef, undef, undef, undef, undef, undef, undef, undef, undef, undef, undef, undef, undef, undef, undef, undef, undef, undef, undef, undef, undef, undef, undef, undef, undef, undef, undef, undef, undef, undef, undef, undef, undef, undef, undef, undef, undef, undef, undef, undef, undef, undef, undef, undef, undef, undef], defers := [] } W := by
    intro pa pb W hK0 bpa bpb gpa gpb dpapb
    have HK := Lib.hid hK0
    clear hK0
    have hHeld := HF1.out _ HK.out
    refine HXO.out _ _ _ _ ?_
    refine wpAnyH_ready (rs := [1, 8]) (by kernel_rfl) (by simp) ?_
    refine AllReadyH.cons (at_list rfl) (fun K hK => ?_) (AllReadyH.cons (at_list rfl) (fun K hK => ?_) (AllReadyH.nil))
    · go_simp
      go_at_call 12
      with_reducible refine (H1.out _).mono ?_
      rintro e wq ⟨rfl, hCq⟩
      have HK2 := Lib.hid (HK.out.on hCq)
      clear hHeld
      first | (refine hK.out _ _ ?_ (fun hHeld => ?_)) | (go_wp2_with fail; refine hK.out _ _ ?_ (fun hHeld => ?_))
      · (try dsimp only); exact HF1.out _ HK2.out
      (try simp only [List.setIfInBounds_toArray, List.set_cons_zero, List.set_cons_succ])
      exact HXI.out _ _ _ _ (LS1_01 _ _ _ HK2.out (hCq.blk bpa (Blk.lt bpa) (fun q => q)) (hCq.blk bpb (Blk.lt bpb) (fun q => q)) gpa gpb dpapb)
    · go_simp
      have HK2 := Lib.hid (HK.out.other (.cells #[.bool false, S [], S []] 26 (0, 0)))
      have nB := Blk.new W #[.bool false, S [], S []] 26
      have nG : B + 1 + 1 < W.heap.size := (HK.out.row _ (.head _)).lt
      clear hHeld
      refine hK.out _ _ ?_ (fun hHeld => ?_)
      · (try dsimp only); exact HF1.out _ HK2.out
      (try simp only [List.setIfInBounds_toArray, List.set_cons_zero, List.set_cons_succ])
      exact HXI.out _ _ _ _ (LS0_012 _ _ _ _ HK2.out (Blk.alloc bpa _) (Blk.alloc bpb _) nB gpa gpb nG dpapb (Nat.ne_of_lt (Blk.lt bpa)) (Nat.ne_of_lt (Blk.lt bpb)))
  have LS0_02 : ∀ (pa pt : Nat) (W : World), Kq w W [(B + 1 + 1, 22, [.int .i64 z0, .int .i64 z1, .int .i64 z2]), (B + 1, 22, [.int .i64 y0, .int .i64 y1, .int .i64 y2]), (B, 22, [.int .i64 x0, .int .i64 x1, .int .i64 x2])] → Blk W pa 26 [.bool false, S [], S []] → Blk W pt 26 [.bool false, S [], S []] → B + 1 + 1 < pa → B + 1 + 1 < pt → pa ≠ pt → X 7 #[true, false, true, false, true, false, true, false, true, false, false, false] { tmps := #[.agg #[.int .i64 x0, .int .i64 x1, .int .i64 x2], .agg #[.int .i64 y0, .int .i64 y1, .int .i64 y2], .agg #[.int .i64 z0, .int .i64 z1, .int .i64 z2], .pointer (some ⟨B, 0, none⟩), .pointer (some ⟨B + 1, 0, none⟩), .pointer (some ⟨B + 1 + 1, 0, none⟩), .bool false, .bool true, .pointer (some ⟨pa, 0, none⟩), undef, .pointer (some ⟨pt, 0, none⟩), undef, undef, undef, undef, undef, undef, undef, undef, undef, undef, undef, undef, .bool true, .agg #[.int .i64 x0, .int .i64 x1, .int .i64 x2], undef, .agg #[.int .i64 y0, .int .i64 y1, .int .i64 y2], undef, .agg #[.int .i64 z0, .int .i64 z1, .int .i64 z2], undef, undef, undef, undef, undef, undef, undef, undef, undef, undef, undef, undef, undef, undef, undef, undef, undef, undef, undef, undef, undef, undef, undef, undef, undef, undef, undef, undef, undef, undef, undef, undef, undef, undef, undef, undef, undef, undef, undef, undef, undef, undef, undef, undef, undef, undef, undef, undef, undef, undef, undef, undef, undef, undef, undef, undef, undef, undef, undef, undef, undef, undef], defers := [] } W := by
    intro pa pt W hK0 bpa bpt gpa gpt dpapt
    have HK := Lib.hid hK0
    clear hK0
    have hHeld := HF1.out _ HK.out
    refine HXO.out _ _ _ _ ?_
    refine wpAnyH_ready (rs := [1, 7]) (by kernel_rfl) (by simp) ?_
    refine AllReadyH.cons (at_list rfl) (fun K hK => ?_) (AllReadyH.cons (at_list rfl) (fun K hK => ?_) (AllReadyH.nil))
    · go_simp
      go_at_call 12
      with_reducible refine (H1.out _).mono ?_
      rintro e wq ⟨rfl, hCq⟩
      have HK2 := Lib.hid (HK.out.on hCq)
      clear hHeld
      first | (refine hK.out _ _ ?_ (fun hHeld => ?_)) | (go_wp2_with fail; refine hK.out _ _ ?_ (fun hHeld => ?_))
      · (try dsimp only); exact HF1.out _ HK2.out
      (try simp only [List.setIfInBounds_toArray, List.set_cons_zero, List.set_cons_succ])
      exact HXI.out _ _ _ _ (LS1_02 _ _ _ HK2.out (hCq.blk bpa (Blk.lt bpa) (fun q => q)) (hCq.blk bpt (Blk.lt bpt) (fun q => q)) gpa gpt dpapt)
    · go_simp
      have HK2 := Lib.hid (HK.out.other (.cells #[.bool false, S [], S []] 26 (0, 0)))
      have nB := Blk.new W #[.bool false, S [], S []] 26
      have nG : B + 1 + 1 < W.heap.size := (HK.out.row _ (.head _)).lt
      clear hHeld
      refine hK.out _ _ ?_ (fun hHeld => ?_)
      · (try dsimp only); exact HF1.out _ HK2.out
      (try simp only [List.setIfInBounds_toArray, List.set_cons_zero, List.set_cons_succ])
      exact HXI.out _ _ _ _ (LS0_012 _ _ _ _ HK2.out (Blk.alloc bpa _) nB (Blk.alloc bpt _) gpa nG gpt (Nat.ne_of_lt (Blk.lt bpa)) dpapt (Nat.ne_of_gt (Blk.lt bpt)))
  have LS0_12 : ∀ (pb pt : Nat) (W : World), Kq w W [(B + 1 + 1, 22, [.int .i64 z0, .int .i64 z1, .int .i64 z2]), (B + 1, 22, [.int .i64 y0, .int .i64 y1, .int .i64 y2]), (B, 22, [.int .i64 x0, .int .i64 x1, .int .i64 x2])] → Blk W pb 26 [.bool false, S [], S []] → Blk W pt 26 [.bool false, S [], S []] → B + 1 + 1 < pb → B + 1 + 1 < pt → pb ≠ pt → X 7 #[true, false, true, false, true, false, false, true, true, false, false, false] { tmps := #[.agg #[.int .i64 x0, .int .i64 x1, .int .i64 x2], .agg #[.int .i64 y0, .int .i64 y1, .int .i64 y2], .agg #[.int .i64 z0, .int .i64 z1, .int .i64 z2], .pointer (some ⟨B, 0, none⟩), .pointer (some ⟨B + 1, 0, none⟩), .pointer (some ⟨B + 1 + 1, 0, none⟩), .bool false, .bool true, undef, .pointer (some ⟨pb, 0, none⟩), .pointer (some ⟨pt, 0, none⟩), undef, undef, undef, undef, undef, undef, undef, undef, undef, undef, undef, undef, .bool true, .agg #[.int .i64 x0, .int .i64 x1, .int .i64 x2], undef, .agg #[.int .i64 y0, .int .i64 y1, .int .i64 y2], undef, .agg #[.int .i64 z0, .int .i64 z1, .int .i64 z2], undef, undef, undef, undef, undef, undef, undef, undef, undef, undef, undef, undef, undef, undef, undef, undef, undef, undef, undef, undef, undef, undef, undef, undef, undef, undef, undef, undef, undef, undef, undef, undef, undef, undef, undef, undef, undef, undef, undef, undef, undef, undef, undef, undef, undef, undef, undef, undef, undef, undef, undef, undef, undef, undef, undef, undef, undef, undef, undef, undef, undef, undef], defers := [] } W := by
    intro pb pt W hK0 bpb bpt gpb gpt dpbpt
    have HK := Lib.hid hK0
    clear hK0
    have hHeld := HF1.out _ HK.out
    refine HXO.out _ _ _ _ ?_
    refine wpAnyH_ready (rs := [1, 6]) (by kernel_rfl) (by simp) ?_
    refine AllReadyH.cons (at_list rfl) (fun K hK => ?_) (AllReadyH.cons (at_list rfl) (fun K hK => ?_) (AllReadyH.nil))
    · go_simp
      go_at_call 12
      with_reducible refine (H1.out _).mono ?_
      rintro e wq ⟨rfl, hCq⟩
      have HK2 := Lib.hid (HK.out.on hCq)
      clear hHeld
      first | (refine hK.out _ _ ?_ (fun hHeld => ?_)) | (go_wp2_with fail; refine hK.out _ _ ?_ (fun hHeld => ?_))
      · (try dsimp only); exact HF1.out _ HK2.out
      (try simp only [List.setIfInBounds_toArray, List.set_cons_zero, List.set_cons_succ])
      exact HXI.out _ _ _ _ (LS1_12 _ _ _ HK2.out (hCq.blk bpb (Blk.lt bpb) (fun q => q)) (hCq.blk bpt (Blk.lt bpt) (fun q => q)) gpb gpt dpbpt)
    · go_simp
      have HK2 := Lib.hid (HK.out.other (.cells #[.bool false, S [], S []] 26 (0, 0)))
      have nB := Blk.new W #[.bool false, S [], S []] 26
      have nG : B + 1 + 1 < W.heap.size := (HK.out.row _ (.head _)).lt
      clear hHeld
      refine hK.out _ _ ?_ (fun hHeld => ?_)
      · (try dsimp only); exact HF1.out _ HK2.out
      (try simp only [List.setIfInBounds_toArray, List.set_cons_zero, List.set_cons_succ])
      exact HXI.out _ _ _ _ (LS0_012 _ _ _ _ HK2.out nB (Blk.alloc bpb _) (Blk.alloc bpt _) nG gpb gpt (Nat.ne_of_gt (Blk.lt bpb)) (Nat.ne_of_gt (Blk.lt bpt)) dpbpt)
  have LS1_0 : ∀ (pa : Nat) (W : World), Kq w W [(B + 1 + 1, 22, [.int .i64 z0, .int .i64 z1, .int .i64 z2]), (B + 1, 22, [.int .i64 y0, .int .i64 y1, .int .i64 y2]), (B, 22, [.int .i64 x0, .int .i64 x1, .int .i64 x2])] → Blk W pa 26 [.bool false, S [], S []] → B + 1 + 1 < pa → X 7 #[true, true, true, false, true, false, true, false, false, false, false, false] { tmps := #[.agg #[.int .i64 x0, .int .i64 x1, .int .i64 x2], .agg #[.int .i64 y0, .int .i64 y1, .int .i64 y2], .agg #[.int .i64 z0, .int .i64 z1, .int .i64 z2], .pointer (some ⟨B, 0, none⟩), .pointer (some ⟨B + 1, 0, none⟩), .pointer (some ⟨B + 1 + 1, 0, none⟩), .bool false, .bool true, .pointer (some ⟨pa, 0, none⟩), undef, undef, undef, undef, undef, undef, undef, undef, undef, undef, undef, undef, undef, undef, .bool true, .agg #[.int .i64 x0, .int .i64 x1, .int .i64 x2], Rv sa na da, .agg #[.int .i64 y0, .int .i64 y1, .int .i64 y2], undef, .agg #[.int .i64 z0, .int .i64 z1, .int .i64 z2], undef, undef, undef, undef, undef, undef, undef, undef, undef, undef, undef, undef, undef, undef, undef, undef, undef, undef, undef, undef, undef, undef, undef, undef, undef, undef, undef, undef, undef, undef, undef, undef, undef, undef, undef, undef, undef, undef, undef, undef, undef, undef, undef, undef, undef, undef, undef, undef, undef, undef, undef, undef, undef, undef, undef, undef, undef, undef, undef, undef, undef, undef], defers := [] } W := by
    intro pa W hK0 bpa gpa
    have HK := Lib.hid hK0
    clear hK0
    have hHeld := HF1.out _ HK.out
    refine HXO.out _ _ _ _ ?_
    refine wpAnyH_ready (rs := [3, 7, 8]) (by kernel_rfl) (by simp) ?_
    refine AllReadyH.cons (at_list rfl) (fun K hK => ?_) (AllReadyH.cons (at_list rfl) (fun K hK => ?_) (AllReadyH.cons (at_list rfl) (fun K hK => ?_) (AllReadyH.nil)))
    · go_simp
      go_at_call 12
      with_reducible refine (H2.out _).mono ?_
      rintro e wq ⟨rfl, hCq⟩
      have HK2 := Lib.hid (HK.out.on hCq)
      clear hHeld
      first | (refine hK.out _ _ ?_ (fun hHeld => ?_)) | (go_wp2_with fail; refine hK.out _ _ ?_ (fun hHeld => ?_))
      · (try dsimp only); exact HF1.out _ HK2.out
      (try simp only [List.setIfInBounds_toArray, List.set_cons_zero, List.set_cons_succ])
      exact HXI.out _ _ _ _ (LS2_0 _ _ HK2.out (hCq.blk bpa (Blk.lt bpa) (fun q => q)) gpa)
    · go_simp
      have HK2 := Lib.hid (HK.out.other (.cells #[.bool false, S [], S []] 26 (0, 0)))
      have nB := Blk.new W #[.bool false, S [], S []] 26
      have nG : B + 1 + 1 < W.heap.size := (HK.out.row _ (.head _)).lt
      clear hHeld
      refine hK.out _ _ ?_ (fun hHeld => ?_)
      · (try dsimp only); exact HF1.out _ HK2.out
      (try simp only [List.setIfInBounds_toArray, List.set_cons_zero, List.set_cons_succ])
      exact HXI.out _ _ _ _ (LS1_01 _ _ _ HK2.out (Blk.alloc bpa _) nB gpa nG (Nat.ne_of_lt (Blk.lt bpa)))
    · go_simp
      have HK2 := Lib.hid (HK.out.other (.cells #[.bool false, S [], S []] 26 (0, 0)))
      have nB := Blk.new W #[.bool false, S [], S []] 26
      have nG : B + 1 + 1 < W.heap.size := (HK.out.row _ (.head _)).lt
      clear hHeld
      refine hK.out _ _ ?_ (fun hHeld => ?_)
      · (try dsimp only); exact HF1.out _ HK2.out
      (try simp only [List.setIfInBounds_toArray, List.set_cons_zero, List.set_cons_succ])
      exact HXI.out _ _ _ _ (LS1_02 _ _ _ HK2.out (Blk.alloc bpa _) nB gpa nG (Nat.ne_of_lt (Blk.lt bpa)))
  have LS1_1 : ∀ (pb : Nat) (W : World), Kq w W [(B + 1 + 1, 22, [.int .i64 z0, .int .i64 z1, .int .i64 z2]), (B + 1, 22, [.int .i64 y0, .int .i64 y1, .int .i64 y2]), (B, 22, [.int .i64 x0, .int .i64 x1, .int .i64 x2])] → Blk W pb 26 [.bool false, S [], S []] → B + 1 + 1 < pb → X 7 #[true, true, true, false, true, false, false, true, false, false, false, false] { tmps := #[.agg #[.int .i64 x0, .int .i64 x1, .int .i64 x2], .agg #[.int .i64 y0, .int .i64 y1, .int .i64 y2], .agg #[.int .i64 z0, .int .i64 z1, .int .i64 z2], .pointer (some ⟨B, 0, none⟩), .pointer (some ⟨B + 1, 0, none⟩), .pointer (some ⟨B + 1 + 1, 0, none⟩), .bool false, .bool true, undef, .pointer (some ⟨pb, 0, none⟩), undef, undef, undef, undef, undef, undef, undef, undef, undef, undef, undef, undef, undef, .bool true, .agg #[.int .i64 x0, .int .i64 x1, .int .i64 x2], Rv sa na da, .agg #[.int .i64 y0, .int .i64 y1, .int .i64 y2], undef, .agg #[.int .i64 z0, .int .i64 z1, .int .i64 z2], undef, undef, undef, undef, undef, undef, undef, undef, undef, undef, undef, undef, undef, undef, undef, undef, undef, undef, undef, undef, undef, undef, undef, undef, undef, undef, undef, undef, undef, undef, undef, undef, undef, undef, undef, undef, undef, undef, undef, undef, undef, undef, undef, undef, undef, undef, undef, undef, undef, undef, undef, undef, undef, undef, undef, undef, undef, undef, undef, undef, undef, undef], defers := [] } W := by
    intro pb W hK0 bpb gpb
    have HK := Lib.hid hK0
    clear hK0
    have hHeld := HF1.out _ HK.out
    refine HXO.out _ _ _ _ ?_
    refine wpAnyH_ready (rs := [3, 6, 8]) (by kernel_rfl) (by simp) ?_
    refine AllReadyH.cons (at_list rfl) (fun K hK => ?_) (AllReadyH.cons (at_list rfl) (fun K hK => ?_) (AllReadyH.cons (at_list rfl) (fun K hK => ?_) (AllReadyH.nil)))
    · go_simp
      go_at_call 12
      with_reducible refine (H2.out _).mono ?_
      rintro e wq ⟨rfl, hCq⟩
      have HK2 := Lib.hid (HK.out.on hCq)
      clear hHeld
      first | (refine hK.out _ _ ?_ (fun hHeld => ?_)) | (go_wp2_with fail; refine hK.out _ _ ?_ (fun hHeld => ?_))
      · (try dsimp only); exact HF1.out _ HK2.out
      (try simp only [List.setIfInBounds_toArray, List.set_cons_zero, List.set_cons_succ])
      exact HXI.out _ _ _ _ (LS2_1 _ _ HK2.out (hCq.blk bpb (Blk.lt bpb) (fun q => q)) gpb)
    · go_simp
      have HK2 := Lib.hid (HK.out.other (.cells #[.bool false, S [], S []] 26 (0, 0)))
      have nB := Blk.new W #[.bool false, S [], S []] 26
      have nG : B + 1 + 1 < W.heap.size := (HK.out.row _ (.head _)).lt
      clear hHeld
      refine hK.out _ _ ?_ (fun hHeld => ?_)
      · (try dsimp only); exact HF1.out _ HK2.out
      (try simp only [List.setIfInBounds_toArray, List.set_cons_zero, List.set_cons_succ])
      exact HXI.out _ _ _ _ (LS1_01 _ _ _ HK2.out nB (Blk.alloc bpb _) nG gpb (Nat.ne_of_gt (Blk.lt bpb)))
    · go_simp
      have HK2 := Lib.hid (HK.out.other (.cells #[.bool false, S [], S []] 26 (0, 0)))
      have nB := Blk.new W #[.bool false, S [], S []] 26
      have nG : B + 1 + 1 < W.heap.size := (HK.out.row _ (.head _)).lt
      clear hHeld
      refine hK.out _ _ ?_ (fun hHeld => ?_)
      · (try dsimp only); exact HF1.out _ HK2.out
      (try simp only [List.setIfInBounds_toArray, List.set_cons_zero, List.set_cons_succ])
      exact HXI.out _ _ _ _ (LS1_12 _ _ _ HK2.out (Blk.alloc bpb _) nB gpb nG (Nat.ne_of_lt (Blk.lt bpb)))
  have LS1_2 : ∀ (pt : Nat) (W : World), Kq w W [(B + 1 + 1, 22, [.int .i64 z0, .int .i64 z1, .int .i64 z2]), (B + 1, 22, [.int .i64 y0, .int .i64 y1, .int .i64 y2]), (B, 22, [.int .i64 x0, .int .i64 x1, .int .i64 x2])] → Blk W pt 26 [.bool false, S [], S []] → B + 1 + 1 < pt → X 7 #[true, true, true, false, true, false, false, false, true, false, false, false] { tmps := #[.agg #[.int .i64 x0, .int .i64 x1, .int .i64 x2], .agg #[.int .i64 y0, .int .i64 y1, .int .i64 y2], .agg #[.int .i64 z0, .int .i64 z1, .int .i64 z2], .pointer (some ⟨B, 0, none⟩), .pointer (some ⟨B + 1, 0, none⟩), .pointer (some ⟨B + 1 + 1, 0, none⟩), .bool false, .bool true, undef, undef, .pointer (some ⟨pt, 0, none⟩), undef, undef, undef, undef, undef, undef, undef, undef, undef, undef, undef, undef, .bool true, .agg #[.int .i64 x0, .int .i64 x1, .int .i64 x2], Rv sa na da, .agg #[.int .i64 y0, .int .i64 y1, .int .i64 y2], undef, .agg #[.int .i64 z0, .int .i64 z1, .int .i64 z2], undef, undef, undef, undef, undef, undef, undef, undef, undef, undef, undef, undef, undef, undef, undef, undef, undef, undef, undef, undef, undef, undef, undef, undef, undef, undef, undef, undef, undef, undef, undef, undef, undef, undef, undef, undef, undef, undef, undef, undef, undef, undef, undef, undef, undef, undef, undef, undef, undef, undef, undef, undef, undef, undef, undef, undef, undef, undef, undef, undef, undef, undef], defers := [] } W := by
    intro pt W hK0 bpt gpt
    have HK := Lib.hid hK0
    clear hK0
    have hHeld := HF1.out _ HK.out
    refine HXO.out _ _ _ _ ?_
    refine wpAnyH_ready (rs := [3, 6, 7]) (by kernel_rfl) (by simp) ?_
    refine AllReadyH.cons (at_list rfl) (fun K hK => ?_) (AllReadyH.cons (at_list rfl) (fun K hK => ?_) (AllReadyH.cons (at_list rfl) (fun K hK => ?_) (AllReadyH.nil)))
    · go_simp
      go_at_call 12
      with_reducible refine (H2.out _).mono ?_
      rintro e wq ⟨rfl, hCq⟩
      have HK2 := Lib.hid (HK.out.on hCq)
      clear hHeld
      first | (refine hK.out _ _ ?_ (fun hHeld => ?_)) | (go_wp2_with fail; refine hK.out _ _ ?_ (fun hHeld => ?_))
      · (try dsimp only); exact HF1.out _ HK2.out
      (try simp only [List.setIfInBounds_toArray, List.set_cons_zero, List.set_cons_succ])
      exact HXI.out _ _ _ _ (LS2_2 _ _ HK2.out (hCq.blk bpt (Blk.lt bpt) (fun q => q)) gpt)
    · go_simp
      have HK2 := Lib.hid (HK.out.other (.cells #[.bool false, S [], S []] 26 (0, 0)))
      have nB := Blk.new W #[.bool false, S [], S []] 26
      have nG : B + 1 + 1 < W.heap.size := (HK.out.row _ (.head _)).lt
      clear hHeld
      refine hK.out _ _ ?_ (fun hHeld => ?_)
      · (try dsimp only); exact HF1.out _ HK2.out
      (try simp only [List.setIfInBounds_toArray, List.set_cons_zero, List.set_cons_succ])
      exact HXI.out _ _ _ _ (LS1_02 _ _ _ HK2.out nB (Blk.alloc bpt _) nG gpt (Nat.ne_of_gt (Blk.lt bpt)))
    · go_simp
      have HK2 := Lib.hid (HK.out.other (.cells #[.bool false, S [], S []] 26 (0, 0)))
      have nB := Blk.new W #[.bool false, S [], S []] 26
      have nG : B + 1 + 1 < W.heap.size := (HK.out.row _ (.head _)).lt
      clear hHeld
      refine hK.out _ _ ?_ (fun hHeld => ?_)
      · (try dsimp only); exact HF1.out _ HK2.out
      (try simp only [List.setIfInBounds_toArray, List.set_cons_zero, List.set_cons_succ])
      exact HXI.out _ _ _ _ (LS1_12 _ _ _ HK2.out nB (Blk.alloc bpt _) nG gpt (Nat.ne_of_gt (Blk.lt bpt)))
  have LS2_ : ∀ (W : World), Kq w W [(B + 1 + 1, 22, [.int .i64 z0, .int .i64 z1, .int .i64 z2]), (B + 1, 22, [.int .i64 y0, .int .i64 y1, .int .i64 y2]), (B, 22, [.int .i64 x0, .int .i64 x1, .int .i64 x2])] → X 7 #[true, true, true, true, true, false, false, false, false, false, false, false] { tmps := #[.agg #[.int .i64 x0, .int .i64 x1, .int .i64 x2], .agg #[.int .i64 y0, .int .i64 y1, .int .i64 y2], .agg #[.int .i64 z0, .int .i64 z1, .int .i64 z2], .pointer (some ⟨B, 0, none⟩), .pointer (some ⟨B + 1, 0, none⟩), .pointer (some ⟨B + 1 + 1, 0, none⟩), .bool false, .bool true, undef, undef, undef, undef, undef, undef, undef, undef, undef, undef, undef, undef, undef, undef, undef, .bool true, .agg #[.int .i64 x0, .int .i64 x1, .int .i64 x2], Rv sa na da, .agg #[.int .i64 y0, .int .i64 y1, .int .i64 y2], Rv sb nb db, .agg #[.int .i64 z0, .int .i64 z1, .int .i64 z2], undef, undef, undef, undef, undef, undef, undef, undef, undef, undef, undef, undef, undef, undef, undef, undef, undef, undef, undef, undef, undef, undef, undef, undef, undef, undef, undef, undef, undef, undef, undef, undef, undef, undef, undef, undef, undef, undef, undef, undef, undef, undef, undef, undef, undef, undef, undef, undef, undef, undef, undef, undef, undef, undef, undef, undef, undef, undef, undef, undef, undef, undef], defers := [] } W := by
    intro  W hK0 
    have HK := Lib.hid hK0
    clear hK0
    have hHeld := HF1.out _ HK.out
    refine HXO.out _ _ _ _ ?_
    refine wpAnyH_ready (rs := [5, 6, 7, 8]) (by kernel_rfl) (by simp) ?_
    refine AllReadyH.cons (at_list rfl) (fun K hK => ?_) (AllReadyH.cons (at_list rfl) (fun K hK => ?_) (AllReadyH.cons (at_list rfl) (fun K hK => ?_) (AllReadyH.cons (at_list rfl) (fun K hK => ?_) (AllReadyH.nil))))
    · go_simp
      go_at_call 13
      with_reducible refine (H3.out _ (HT.out.ch HK.out.ch)).mono ?_
      rintro e wq ⟨rfl, hCq⟩
      have HK2 := Lib.hid (HK.out.on hCq)
      clear hHeld
      first | (refine hK.out _ _ ?_ (fun hHeld => ?_)) | (go_wp2_with fail; refine hK.out _ _ ?_ (fun hHeld => ?_))
      · (try dsimp only); exact HF1.out _ HK2.out
      (try simp only [List.setIfInBounds_toArray, List.set_cons_zero, List.set_cons_succ])
      exact HXI.out _ _ _ _ (LS3_ _ HK2.out)
    · go_simp
      have HK2 := Lib.hid (HK.out.other (.cells #[.bool false, S [], S []] 26 (0, 0)))
      have nB := Blk.new W #[.bool false, S [], S []] 26
      have nG : B + 1 + 1 < W.heap.size := (HK.out.row _ (.head _)).lt
      clear hHeld
      refine hK.out _ _ ?_ (fun hHeld => ?_)
      · (try dsimp only); exact HF1.out _ HK2.out
      (try simp only [List.setIfInBounds_toArray, List.set_cons_zero, List.set_cons_succ])
      exact HXI.out _ _ _ _ (LS2_0 _ _ HK2.out nB nG)
    · go_simp
      have HK2 := Lib.hid (HK.out.other (.cells #[.bool false, S [], S []] 26 (0, 0)))
      have nB := Blk.new W #[.bool false, S [], S []] 26
      have nG : B + 1 + 1 < W.heap.size := (HK.out.row _ (.head _)).lt
      clear hHeld
      refine hK.out _ _ ?_ (fun hHeld => ?_)
      · (try dsimp only); exact HF1.out _ HK2.out
      (try simp only [List.setIfInBounds_toArray, List.set_cons_zero, List.set_cons_succ])
      exact HXI.out _ _ _ _ (LS2_1 _ _ HK2.out nB nG)
    · go_simp
      have HK2 := Lib.hid (HK.out.other (.cells #[.bool false, S [], S []] 26 (0, 0)))
      have nB := Blk.new W #[.bool false, S [], S []] 26
      have nG : B + 1 + 1 < W.heap.size := (HK.out.row _ (.head _)).lt
      clear hHeld
      refine hK.out _ _ ?_ (fun hHeld => ?_)
      · (try dsimp only); exact HF1.out _ HK2.out
      (try simp only [List.setIfInBounds_toArray, List.set_cons_zero, List.set_cons_succ])
      exact HXI.out _ _ _ _ (LS2_2 _ _ HK2.out nB nG)
  have LS0_0 : ∀ (pa : Nat) (W : World), Kq w W [(B + 1 + 1, 22, [.int .i64 z0, .int .i64 z1, .int .i64 z2]), (B + 1, 22, [.int .i64 y0, .int .i64 y1, .int .i64 y2]), (B, 22, [.int .i64 x0, .int .i64 x1, .int .i64 x2])] → Blk W pa 26 [.bool false, S [], S []] → B + 1 + 1 < pa → X 8 #[true, false, true, false, true, false, true, false, false, false, false, false] { tmps := #[.agg #[.int .i64 x0, .int .i64 x1, .int .i64 x2], .agg #[.int .i64 y0, .int .i64 y1, .int .i64 y2], .agg #[.int .i64 z0, .int .i64 z1, .int .i64 z2], .pointer (some ⟨B, 0, none⟩), .pointer (some ⟨B + 1, 0, none⟩), .pointer (some ⟨B + 1 + 1, 0, none⟩), .bool false, .bool true, .pointer (some ⟨pa, 0, none⟩), undef, undef, undef, undef, undef, undef, undef, undef, undef, undef, undef, undef, undef, undef, .bool true, .agg #[.int .i64 x0, .int .i64 x1, .int .i64 x2], undef, .agg #[.int .i64 y0, .int .i64 y1, .int .i64 y2], undef, .agg #[.int .i64 z0, .int .i64 z1, .int .i64 z2], undef, undef, undef, undef, undef, undef, undef, undef, undef, undef, undef, undef, undef, undef, undef, undef, undef, undef, undef, undef, undef, undef, undef, undef, undef, undef, undef, undef, undef, undef, undef, undef, undef, undef, undef, undef, undef, undef, undef, undef, undef, undef, undef, undef, undef, undef, undef, undef, undef, undef, undef, undef, undef, undef, undef, undef, undef, undef, undef, undef, undef, undef], defers := [] } W := by
    intro pa W hK0 bpa gpa
    have HK := Lib.hid hK0
    clear hK0
    have hHeld := HF1.out _ HK.out
    refine HXO.out _ _ _ _ ?_
    refine wpAnyH_ready (rs := [1, 7, 8]) (by kernel_rfl) (by simp) ?_
    refine AllReadyH.cons (at_list rfl) (fun K hK => ?_) (AllReadyH.cons (at_list rfl) (fun K hK => ?_) (AllReadyH.cons (at_list rfl) (fun K hK => ?_) (AllReadyH.nil)))
    · go_simp
      go_at_call 12
      with_reducible refine (H1.out _).mono ?_
      rintro e wq ⟨rfl, hCq⟩
      have HK2 := Lib.hid (HK.out.on hCq)
      clear hHeld
      first | (refine hK.out _ _ ?_ (fun hHeld => ?_)) | (go_wp2_with fail; refine hK.out _ _ ?_ (fun hHeld => ?_))
      · (try dsimp only); exact HF1.out _ HK2.out
      (try simp only [List.setIfInBounds_toArray, List.set_cons_zero, List.set_cons_succ])
      exact HXI.out _ _ _ _ (LS1_0 _ _ HK2.out (hCq.blk bpa (Blk.lt bpa) (fun q => q)) gpa)
    · go_simp
      have HK2 := Lib.hid (HK.out.other (.cells #[.bool false, S [], S []] 26 (0, 0)))
      have nB := Blk.new W #[.bool false, S [], S []] 26
      have nG : B + 1 + 1 < W.heap.size := (HK.out.row _ (.head _)).lt
      clear hHeld
      refine hK.out _ _ ?_ (fun hHeld => ?_)
      · (try dsimp only); exact HF1.out _ HK2.out
      (try simp only [List.setIfInBounds_toArray, List.set_cons_zero, List.set_cons_succ])
      exact HXI.out _ _ _ _ (LS0_01 _ _ _ HK2.out (Blk.alloc bpa _) nB gpa nG (Nat.ne_of_lt (Blk.lt bpa)))
    · go_simp
      have HK2 := Lib.hid (HK.out.other (.cells #[.bool false, S [], S []] 26 (0, 0)))
      have nB := Blk.new W #[.bool false, S [], S []] 26
      have nG : B + 1 + 1 < W.heap.size := (HK.out.row _ (.head _)).lt
      clear hHeld
      refine hK.out _ _ ?_ (fun hHeld => ?_)
      · (try dsimp only); exact HF1.out _ HK2.out
      (try simp only [List.setIfInBounds_toArray, List.set_cons_zero, List.set_cons_succ])
      exact HXI.out _ _ _ _ (LS0_02 _ _ _ HK2.out (Blk.alloc bpa _) nB gpa nG (Nat.ne_of_lt (Blk.lt bpa)))
  have LS0_1 : ∀ (pb : Nat) (W : World), Kq w W [(B + 1 + 1, 22, [.int .i64 z0, .int .i64 z1, .int .i64 z2]), (B + 1, 22, [.int .i64 y0, .int .i64 y1, .int .i64 y2]), (B, 22, [.int .i64 x0, .int .i64 x1, .int .i64 x2])] → Blk W pb 26 [.bool false, S [], S []] → B + 1 + 1 < pb → X 8 #[true, false, true, false, true, false, false, true, false, false, false, false] { tmps := #[.agg #[.int .i64 x0, .int .i64 x1, .int .i64 x2], .agg #[.int .i64 y0, .int .i64 y1, .int .i64 y2], .agg #[.int .i64 z0, .int .i64 z1, .int .i64 z2], .pointer (some ⟨B, 0, none⟩), .pointer (some ⟨B + 1, 0, none⟩), .pointer (some ⟨B + 1 + 1, 0, none⟩), .bool false, .bool true, undef, .pointer (some ⟨pb, 0, none⟩), undef, undef, undef, undef, undef, undef, undef, undef, undef, undef, undef, undef, undef, .bool true, .agg #[.int .i64 x0, .int .i64 x1, .int .i64 x2], undef, .agg #[.int .i64 y0, .int .i64 y1, .int .i64 y2], undef, .agg #[.int .i64 z0, .int .i64 z1, .int .i64 z2], undef, undef, undef, undef, undef, undef, undef, undef, undef, undef, undef, undef, undef, undef, undef, undef, undef, undef, undef, undef, undef, undef, undef, undef, undef, undef, undef, undef, undef, undef, undef, undef, undef, undef, undef, undef, undef, undef, undef, undef, undef, undef, undef, undef, undef, undef, undef, undef, undef, undef, undef, undef, undef, undef, undef, undef, undef, undef, undef, undef, undef, undef], defers := [] } W := by
    intro pb W hK0 bpb gpb
    have HK := Lib.hid hK0
    clear hK0
    have hHeld := HF1.out _ HK.out
    refine HXO.out _ _ _ _ ?_
    refine wpAnyH_ready (rs := [1, 6, 8]) (by kernel_rfl) (by simp) ?_
    refine AllReadyH.cons (at_list rfl) (fun K hK => ?_) (AllReadyH.cons (at_list rfl) (fun K hK => ?_) (AllReadyH.cons (at_list rfl) (fun K hK => ?_) (AllReadyH.nil)))
    · go_simp
      go_at_call 12
      with_reducible refine (H1.out _).mono ?_
      rintro e wq ⟨rfl, hCq⟩
      have HK2 := Lib.hid (HK.out.on hCq)
      clear hHeld
      first | (refine hK.out _ _ ?_ (fun hHeld => ?_)) | (go_wp2_with fail; refine hK.out _ _ ?_ (fun hHeld => ?_))
      · (try dsimp only); exact HF1.out _ HK2.out
      (try simp only [List.setIfInBounds_toArray, List.set_cons_zero, List.set_cons_succ])
      exact HXI.out _ _ _ _ (LS1_1 _ _ HK2.out (hCq.blk bpb (Blk.lt bpb) (fun q => q)) gpb)
    · go_simp
      have HK2 := Lib.hid (HK.out.other (.cells #[.bool false, S [], S []] 26 (0, 0)))
      have nB := Blk.new W #[.bool false, S [], S []] 26
      have nG : B + 1 + 1 < W.heap.size := (HK.out.row _ (.head _)).lt
      clear hHeld
      refine hK.out _ _ ?_ (fun hHeld => ?_)
      · (try dsimp only); exact HF1.out _ HK2.out
      (try simp only [List.setIfInBounds_toArray, List.set_cons_zero, List.set_cons_succ])
      exact HXI.out _ _ _ _ (LS0_01 _ _ _ HK2.out nB (Blk.alloc bpb _) nG gpb (Nat.ne_of_gt (Blk.lt bpb)))
    · go_simp
      have HK2 := Lib.hid (HK.out.other (.cells #[.bool false, S [], S []] 26 (0, 0)))
      have nB := Blk.new W #[.bool false, S [], S []] 26
      have nG : B + 1 + 1 < W.heap.size := (HK.out.row _ (.head _)).lt
      clear hHeld
      refine hK.out _ _ ?_ (fun hHeld => ?_)
      · (try dsimp only); exact HF1.out _ HK2.out
      (try simp only [List.setIfInBounds_toArray, List.set_cons_zero, List.set_cons_succ])
      exact HXI.out _ _ _ _ (LS0_12 _ _ _ HK2.out (Blk.alloc bpb _) nB gpb nG (Nat.ne_of_lt (Blk.lt bpb)))
  have LS0_2 : ∀ (pt : Nat) (W : World), Kq w W [(B + 1 + 1, 22, [.int .i64 z0, .int .i64 z1, .int .i64 z2]), (B + 1, 22, [.int .i64 y0, .int .i64 y1, .int .i64 y2]), (B, 22, [.int .i64 x0, .int .i64 x1, .int .i64 x2])] → Blk W pt 26 [.bool false, S [], S []] → B + 1 + 1 < pt → X 8 #[true, false, true, false, true, false, false, false, true, false, false, false] { tmps := #[.agg #[.int .i64 x0, .int .i64 x1, .int .i64 x2], .agg #[.int .i64 y0, .int .i64 y1, .int .i64 y2], .agg #[.int .i64 z0, .int .i64 z1, .int .i64 z2], .pointer (some ⟨B, 0, none⟩), .pointer (some ⟨B + 1, 0, none⟩), .pointer (some ⟨B + 1 + 1, 0, none⟩), .bool false, .bool true, undef, undef, .pointer (some ⟨pt, 0, none⟩), undef, undef, undef, undef, undef, undef, undef, undef, undef, undef, undef, undef, .bool true, .agg #[.int .i64 x0, .int .i64 x1, .int .i64 x2], undef, .agg #[.int .i64 y0, .int .i64 y1, .int .i64 y2], undef, .agg #[.int .i64 z0, .int .i64 z1, .int .i64 z2], undef, undef, undef, undef, undef, undef, undef, undef, undef, undef, undef, undef, undef, undef, undef, undef, undef, undef, undef, undef, undef, undef, undef, undef, undef, undef, undef, undef, undef, undef, undef, undef, undef, undef, undef, undef, undef, undef, undef, undef, undef, undef, undef, undef, undef, undef, undef, undef, undef, undef, undef, undef, undef, undef, undef, undef, undef, undef, undef, undef, undef, undef], defers := [] } W := by
    intro pt W hK0 bpt gpt
    have HK := Lib.hid hK0
    clear hK0
    have hHeld := HF1.out _ HK.out
    refine HXO.out _ _ _ _ ?_
    refine wpAnyH_ready (rs := [1, 6, 7]) (by kernel_rfl) (by simp) ?_
    refine AllReadyH.cons (at_list rfl) (fun K hK => ?_) (AllReadyH.cons (at_list rfl) (fun K hK => ?_) (AllReadyH.cons (at_list rfl) (fun K hK => ?_) (AllReadyH.nil)))
    · go_simp
      go_at_call 12
      with_reducible refine (H1.out _).mono ?_
      rintro e wq ⟨rfl, hCq⟩
      have HK2 := Lib.hid (HK.out.on hCq)
      clear hHeld
      first | (refine hK.out _ _ ?_ (fun hHeld => ?_)) | (go_wp2_with fail; refine hK.out _ _ ?_ (fun hHeld => ?_))
      · (try dsimp only); exact HF1.out _ HK2.out
      (try simp only [List.setIfInBounds_toArray, List.set_cons_zero, List.set_cons_succ])
      exact HXI.out _ _ _ _ (LS1_2 _ _ HK2.out (hCq.blk bpt (Blk.lt bpt) (fun q => q)) gpt)
    · go_simp
      have HK2 := Lib.hid (HK.out.other (.cells #[.bool false, S [], S []] 26 (0, 0)))
      have nB := Blk.new W #[.bool false, S [], S []] 26
      have nG : B + 1 + 1 < W.heap.size := (HK.out.row _ (.head _)).lt
      clear hHeld
      refine hK.out _ _ ?_ (fun hHeld => ?_)
      · (try dsimp only); exact HF1.out _ HK2.out
      (try simp only [List.setIfInBounds_toArray, List.set_cons_zero, List.set_cons_succ])
      exact HXI.out _ _ _ _ (LS0_02 _ _ _ HK2.out nB (Blk.alloc bpt _) nG gpt (Nat.ne_of_gt (Blk.lt bpt)))
    · go_simp
      have HK2 := Lib.hid (HK.out.other (.cells #[.bool false, S [], S []] 26 (0, 0)))
      have nB := Blk.new W #[.bool false, S [], S []] 26
      have nG : B + 1 + 1 < W.heap.size := (HK.out.row _ (.head _)).lt
      clear hHeld
      refine hK.out _ _ ?_ (fun hHeld => ?_)
      · (try dsimp only); exact HF1.out _ HK2.out
      (try simp only [List.setIfInBounds_toArray, List.set_cons_zero, List.set_cons_succ])
      exact HXI.out _ _ _ _ (LS0_12 _ _ _ HK2.out nB (Blk.alloc bpt _) nG gpt (Nat.ne_of_gt (Blk.lt bpt)))
  have LS1_ : ∀ (W : World), Kq w W [(B + 1 + 1, 22, [.int .i64 z0, .int .i64 z1, .int .i64 z2]), (B + 1, 22, [.int .i64 y0, .int .i64 y1, .int .i64 y2]), (B, 22, [.int .i64 x0, .int .i64 x1, .int .i64 x2])] → X 8 #[true, true, true, false, true, false, false, false, false, false, false, false] { tmps := #[.agg #[.int .i64 x0, .int .i64 x1, .int .i64 x2], .agg #[.int .i64 y0, .int .i64 y1, .int .i64 y2], .agg #[.int .i64 z0, .int .i64 z1, .int .i64 z2], .pointer (some ⟨B, 0, none⟩), .pointer (some ⟨B + 1, 0, none⟩), .pointer (some ⟨B + 1 + 1, 0, none⟩), .bool false, .bool true, undef, undef, undef, undef, undef, undef, undef, undef, undef, undef, undef, undef, undef, undef, undef, .bool true, .agg #[.int .i64 x0, .int .i64 x1, .int .i64 x2], Rv sa na da, .agg #[.int .i64 y0, .int .i64 y1, .int .i64 y2], undef, .agg #[.int .i64 z0, .int .i64 z1, .int .i64 z2], undef, undef, undef, undef, undef, undef, undef, undef, undef, undef, undef, undef, undef, undef, undef, undef, undef, undef, undef, undef, undef, undef, undef, undef, undef, undef, undef, undef, undef, undef, undef, undef, undef, undef, undef, undef, undef, undef, undef, undef, undef, undef, undef, undef, undef, undef, undef, undef, undef, undef, undef, undef, undef, undef, undef, undef, undef, undef, undef, undef, undef, undef], defers := [] } W := by
    intro  W hK0 
    have HK := Lib.hid hK0
    clear hK0
    have hHeld := HF1.out _ HK.out
    refine HXO.out _ _ _ _ ?_
    refine wpAnyH_ready (rs := [3, 6, 7, 8]) (by kernel_rfl) (by simp) ?_
    refine AllReadyH.cons (at_list rfl) (fun K hK => ?_) (AllReadyH.cons (at_list rfl) (fun K hK => ?_) (AllReadyH.cons (at_list rfl) (fun K hK => ?_) (AllReadyH.cons (at_list rfl) (fun K hK => ?_) (AllReadyH.nil))))
    · go_simp
      go_at_call 12
      with_reducible refine (H2.out _).mono ?_
      rintro e wq ⟨rfl, hCq⟩
      have HK2 := Lib.hid (HK.out.on hCq)
      clear hHeld
      first | (refine hK.out _ _ ?_ (fun hHeld => ?_)) | (go_wp2_with fail; refine hK.out _ _ ?_ (fun hHeld => ?_))
      · (try dsimp only); exact HF1.out _ HK2.out
      (try simp only [List.setIfInBounds_toArray, List.set_cons_zero, List.set_cons_succ])
      exact HXI.out _ _ _ _ (LS2_ _ HK2.out)
    · go_simp
      have HK2 := Lib.hid (HK.out.other (.cells #[.bool false, S [], S []] 26 (0, 0)))
      have nB := Blk.new W #[.bool false, S [], S []] 26
      have nG : B + 1 + 1 < W.heap.size := (HK.out.row _ (.head _)).lt
      clear hHeld
      refine hK.out _ _ ?_ (fun hHeld => ?_)
      · (try dsimp only); exact HF1.out _ HK2.out
      (try simp only [List.setIfInBounds_toArray, List.set_cons_zero, List.set_cons_succ])
      exact HXI.out _ _ _ _ (LS1_0 _ _ HK2.out nB nG)
    · go_simp
      have HK2 := Lib.hid (HK.out.other (.cells #[.bool false, S [], S []] 26 (0, 0)))
      have nB := Blk.new W #[.bool false, S [], S []] 26
      have nG : B + 1 + 1 < W.heap.size := (HK.out.row _ (.head _)).lt
      clear hHeld
      refine hK.out _ _ ?_ (fun hHeld => ?_)
      · (try dsimp only); exact HF1.out _ HK2.out
      (try simp only [List.setIfInBounds_toArray, List.set_cons_zero, List.set_cons_succ])
      exact HXI.out _ _ _ _ (LS1_1 _ _ HK2.out nB nG)
    · go_simp
      have HK2 := Lib.hid (HK.out.other (.cells #[.bool false, S [], S []] 26 (0, 0)))
      have nB := Blk.new W #[.bool false, S [], S []] 26
      have nG : B + 1 + 1 < W.heap.size := (HK.out.row _ (.head _)).lt
      clear hHeld
      refine hK.out _ _ ?_ (fun hHeld => ?_)
      · (try dsimp only); exact HF1.out _ HK2.out
      (try simp only [List.setIfInBounds_toArray, List.set_cons_zero, List.set_cons_succ])
      exact HXI.out _ _ _ _ (LS1_2 _ _ HK2.out nB nG)
  have LS0_ : ∀ (W : World), Kq w W [(B + 1 + 1, 22, [.int .i64 z0, .int .i64 z1, .int .i64 z2]), (B + 1, 22, [.int .i64 y0, .int .i64 y1, .int .i64 y2]), (B, 22, [.int .i64 x0, .int .i64 x1, .int .i64 x2])] → X 9 #[true, false, true, false, true, false, false, false, false, false, false, false] { tmps := #[.agg #[.int .i64 x0, .int .i64 x1, .int .i64 x2], .agg #[.int .i64 y0, .int .i64 y1, .int .i64 y2], .agg #[.int .i64 z0, .int .i64 z1, .int .i64 z2], .pointer (some ⟨B, 0, none⟩), .pointer (some ⟨B + 1, 0, none⟩), .pointer (some ⟨B + 1 + 1, 0, none⟩), .bool false, .bool true, undef, undef, undef, undef, undef, undef, undef, undef, undef, undef, undef, undef, undef, undef, undef, .bool true, .agg #[.int .i64 x0, .int .i64 x1, .int .i64 x2], undef, .agg #[.int .i64 y0, .int .i64 y1, .int .i64 y2], undef, .agg #[.int .i64 z0, .int .i64 z1, .int .i64 z2], undef, undef, undef, undef, undef, undef, undef, undef, undef, undef, undef, undef, undef, undef, undef, undef, undef, undef, undef, undef, undef, undef, undef, undef, undef, undef, undef, undef, undef, undef, undef, undef, undef, undef, undef, undef, undef, undef, undef, undef, undef, undef, undef, undef, undef, undef, undef, undef, undef, undef, undef, undef, undef, undef, undef, undef, undef, undef, undef, undef, undef, undef], defers := [] } W := by
    intro  W hK0 
    have HK := Lib.hid hK0
    clear hK0
    have hHeld := HF1.out _ HK.out
    refine HXO.out _ _ _ _ ?_
    refine wpAnyH_ready (rs := [1, 6, 7, 8]) (by kernel_rfl) (by simp) ?_
    refine AllReadyH.cons (at_list rfl) (fun K hK => ?_) (AllReadyH.cons (at_list rfl) (fun K hK => ?_) (AllReadyH.cons (at_list rfl) (fun K hK => ?_) (AllReadyH.cons (at_list rfl) (fun K hK => ?_) (AllReadyH.nil))))
    · go_simp
      go_at_call 12
      with_reducible refine (H1.out _).mono ?_
      rintro e wq ⟨rfl, hCq⟩
      have HK2 := Lib.hid (HK.out.on hCq)
      clear hHeld
      first | (refine hK.out _ _ ?_ (fun hHeld => ?_)) | (go_wp2_with fail; refine hK.out _ _ ?_ (fun hHeld => ?_))
      · (try dsimp only); exact HF1.out _ HK2.out
      (try simp only [List.setIfInBounds_toArray, List.set_cons_zero, List.set_cons_succ])
      exact HXI.out _ _ _ _ (LS1_ _ HK2.out)
    · go_simp
      have HK2 := Lib.hid (HK.out.other (.cells #[.bool false, S [], S []] 26 (0, 0)))
      have nB := Blk.new W #[.bool false, S [], S []] 26
      have nG : B + 1 + 1 < W.heap.size := (HK.out.row _ (.head _)).lt
      clear hHeld
      refine hK.out _ _ ?_ (fun hHeld => ?_)
      · (try dsimp only); exact HF1.out _ HK2.out
      (try simp only [List.setIfInBounds_toArray, List.set_cons_zero, List.set_cons_succ])
      exact HXI.out _ _ _ _ (LS0_0 _ _ HK2.out nB nG)
    · go_simp
      have HK2 := Lib.hid (HK.out.other (.cells #[.bool false, S [], S []] 26 (0, 0)))
      have nB := Blk.new W #[.bool false, S [], S []] 26
      have nG : B + 1 + 1 < W.heap.size := (HK.out.row _ (.head _)).lt
      clear hHeld
      refine hK.out _ _ ?_ (fun hHeld => ?_)
      · (try dsimp only); exact HF1.out _ HK2.out
      (try simp only [List.setIfInBounds_toArray, List.set_cons_zero, List.set_cons_succ])
      exact HXI.out _ _ _ _ (LS0_1 _ _ HK2.out nB nG)
    · go_simp
      have HK2 := Lib.hid (HK.out.other (.cells #[.bool false, S [], S []] 26 (0, 0)))
      have nB := Blk.new W #[.bool false, S [], S []] 26
      have nG : B + 1 + 1 < W.heap.size := (HK.out.row _ (.head _)).lt
      clear hHeld
      refine hK.out _ _ ?_ (fun hHeld => ?_)
      · (try dsimp only); exact HF1.out _ HK2.out
      (try simp only [List.setIfInBounds_toArray, List.set_cons_zero, List.set_cons_succ])
      exact HXI.out _ _ _ _ (LS0_2 _ _ HK2.out nB nG)
  exact LS0_ _ HK0.out
end Go.Proofs.YtloamjofcojnhaaGreatDoor
