/- The reference of layer 4: cent, Step. -/
import Derived.Test.YtnblmmhpndnjcaaGreatDoorAc
import Derived.Test.YtnblmmhpndnjcaaGreatDoorQw
namespace Go.Proofs.YtnblmmhpndnjcaaGreatDoor
open Go.RowKit
theorem Kq.put3 {w W : World} {g : Nat} {t : TypeId} {a b c : Value} {l : List (Nat × TypeId × List Value)} (h : Kq w W ((g, t, [a, b, c]) :: l)) (hg : w.heap.size ≤ g) (hl : ∀ p ∈ l, p.1 ≠ g) (x y z : Value) :
    Kq w (((W.setCell ⟨g, 0, none⟩ x).setCell ⟨g, 1, none⟩ y).setCell ⟨g, 2, none⟩ z) ((g, t, [x, y, z]) :: l) := by
  refine ⟨((h.ch.setCell (p := ⟨g, 0, none⟩) (.inl hg) x).setCell (p := ⟨g, 1, none⟩) (.inl hg) y).setCell (p := ⟨g, 2, none⟩) (.inl hg) z, fun p hp => ?_⟩
  rcases List.mem_cons.1 hp with rfl | hp
  · exact (((h.row _ (.head _)).set 0 x).set 1 y).set 2 z
  · have hne := hl p hp
    exact (((h.row _ (List.mem_cons_of_mem _ hp)).set_other hne 0 x).set_other hne 1 y).set_other hne 2 z
theorem C_ref1 : Ans 40 #[.int .i64 1] (S [1]) := C_refOf (n := 1) (l := [1]) nb_one (by decide) (by decide)
theorem C_ref100 : Ans 40 #[.int .i64 100] (S [100]) := C_refOf (n := 100) (l := [100]) (nb_is [100] _ (by decide) (by decide)) (by decide) (by decide)
theorem rt_100 : Rt [100] := .inr ⟨100, [], rfl, by decide⟩
set_option maxRecDepth 100000 in
set_option maxHeartbeats 3200000 in
theorem C_rcent : AnsM 45 #[] (Rv false [1] [100]) := fun w ht => by
  have H1 := Lib.hid C_ref1
  have H2 := Lib.hid C_ref100
  have H3 := Lib.hid (C_rMake (s := false) (n := [1]) (d := [100]) (by decide) (by decide) rt_1 rt_100 (by simp) (show Is (mq false (bv [1]) (bv [100])) false [1] [100] from ⟨by decide +kernel, by decide +kernel, by decide +kernel⟩))
  have HT := Lib.hid ht
  have HK := Lib.hid ((Kq.nil w).new #[.bool false, S [], S []] 26)
  obtain ⟨B, hB⟩ : ∃ B, w.heap.size = B := ⟨_, rfl⟩
  rw [hB] at HK 
  have HBB := Lib.hid hB
  clear ht 
  have HF1 := Lib.hid (show ∀ W, Kq w W [(B, 26, [.bool false, S [], S []])] → W.cell? ⟨B, 0, none⟩ = some (.bool false) ∧ W.cell? ⟨B, 1, none⟩ = some (S []) ∧ W.cell? ⟨B, 2, none⟩ = some (S []) from fun W h => ⟨(h.row _ (.head _)).cell 0, (h.row _ (.head _)).cell 1, (h.row _ (.head _)).cell 2⟩)
  obtain ⟨cc0, cc1, cc2⟩ := HF1.out _ HK.out
  go_enter Tryz.func45, Tryz.ntmps45
  go_wp2_with fail
  clear hB
  refine (H1.out _).mono ?_
  rintro e w1 ⟨rfl, hC⟩
  have HK2 := Lib.hid (HK.out.on hC)
  clear cc0 cc1 cc2
  clear hC HK
  have HK := HK2
  clear HK2
  obtain ⟨cc0, cc1, cc2⟩ := HF1.out _ HK.out
  go_wp2_with fail
  refine (H2.out _).mono ?_
  rintro e w2 ⟨rfl, hC⟩
  have HK2 := Lib.hid (HK.out.on hC)
  clear cc0 cc1 cc2
  clear hC HK
  have HK := HK2
  clear HK2
  obtain ⟨cc0, cc1, cc2⟩ := HF1.out _ HK.out
  go_wp2_with fail
  refine (H3.out _).mono ?_
  rintro e w3 ⟨rfl, hC⟩
  have HK2 := Lib.hid (HK.out.on hC)
  clear cc0 cc1 cc2
  clear hC HK
  have HK := HK2
  clear HK2
  obtain ⟨cc0, cc1, cc2⟩ := HF1.out _ HK.out
  clear cc0 cc1 cc2
  have HKO := Lib.hid (HK.out.new #[.bool false, S [1], S [100]] 26)
  have n0 := (HKO.out.row _ (.head _)).cell 0
  have n1 := (HKO.out.row _ (.head _)).cell 1
  have n2 := (HKO.out.row _ (.head _)).cell 2
  have e0 := (HKO.out.row _ (.tail _ (.head _))).cell 0
  have e1 := (HKO.out.row _ (.tail _ (.head _))).cell 1
  have e2 := (HKO.out.row _ (.tail _ (.head _))).cell 2
  have f0 := (HKO.out.row _ (.tail _ (.head _))).frozen 0
  have f1 := (HKO.out.row _ (.tail _ (.head _))).frozen 1
  have f2 := (HKO.out.row _ (.tail _ (.head _))).frozen 2
  simp only [List.getElem?_cons_zero, List.getElem?_cons_succ] at n0 n1 n2 e0 e1 e2
  go_wp2_with fail
  have hp := HKO.out.put (g := B) (.tail _ (.head _)) (by have := HBB.out; omega) (.bool false) (S [1]) (S [100])
  refine bodyPost_ret (results_cell_row (P := Tryz.prog) rfl _ _ (B) 26 _ (0, 0) _ rfl hp.1 Tryz.underlying26 rfl (by kernel_rfl)) rfl ?_
  exact ⟨rfl, hp.2⟩
/-- The step that three numbers make: the number that they determine, without its sign, or a cent for 0. -/
def stq (x y z : Int) : Rat := if mdq x y z = 0 then 1 / 100 else if mdq x y z < 0 then -mdq x y z else mdq x y z
theorem stq_pos (x y z : Int) : 0 < stq x y z := by
  unfold stq
  by_cases h : mdq x y z = 0
  · rw [if_pos h]; decide +kernel
  · rw [if_neg h]
    by_cases h2 : mdq x y z < 0
    · rw [if_pos h2]; grind
    · rw [if_neg h2]
      exact Rat.lt_of_le_of_ne (Rat.not_lt.1 h2) (Ne.symm h)
theorem stq_size (x y z : Int) : Szq (stq x y z) 16 := by
  unfold stq
  by_cases h : mdq x y z = 0
  · rw [if_pos h]; exact Szq.mono (k := 1) (by constructor <;> decide +kernel) (by decide)
  · rw [if_neg h]
    by_cases h2 : mdq x y z < 0
    · rw [if_pos h2]; exact (mdq_size x y z).neg
    · rw [if_neg h2]; exact mdq_size x y z
theorem sgr_one {q : Rat} (h : 0 < q) : sgr q = 1 := by
  have h1 : 0 < q.num := by
    have := Rat.num_nonneg.2 (Rat.le_of_lt h)
    have h2 : q.num ≠ 0 := fun e => (Rat.ne_of_lt h) (Rat.num_eq_zero.1 e).symm
    omega
  unfold sgr
  exact Int.sign_eq_one_of_pos h1
theorem neg_lt {q : Rat} (h : decide (q.num < 0) = true) : q < 0 := by
  have h1 := of_decide_eq_true h
  refine Rat.not_le.1 fun h2 => ?_
  have := Rat.num_nonneg.2 h2
  omega
theorem nneg_lt {q : Rat} (h : decide (q.num < 0) = false) : ¬ q < 0 := by
  have h1 := of_decide_eq_false h
  intro h2
  exact absurd (Rat.num_nonneg.1 (show 0 ≤ q.num by omega)) (Rat.not_le.2 h2)
set_option maxRecDepth 100000 in
set_option maxHeartbeats 3200000 in
theorem step_any (x y z : Int) (w : World) (ht : Tm w) (hx : -9223372036854775808 ≤ x ∧ x ≤ 9223372036854775807) (hy : -9223372036854775808 ≤ y ∧ y ≤ 9223372036854775807) (hz : -9223372036854775808 ≤ z ∧ z ≤ 9223372036854775807) :
    Calls Tryz.prog 13 #[.agg #[.int .i64 x, .int .i64 y, .int .i64 z]] w (Yld w (Tv (pt (stq x y z)))) := by
  have H1 := Lib.hid (fun W => made_any x y z W hx hy hz)
  have hsz := mdq_size x y z
  have hst : stq x y z = if mdq x y z = 0 then 1 / 100 else if mdq x y z < 0 then -mdq x y z else mdq x y z := rfl
  obtain ⟨q, hq⟩ : ∃ q, mdq x y z = q := ⟨_, rfl⟩
  obtain ⟨v, hv⟩ : ∃ v, stq x y z = v := ⟨_, rfl⟩
  rw [hq] at H1 hsz hst
  rw [hv] at hst ⊢
  have ip := pt_is q
  obtain ⟨⟨s, n, d⟩, hp⟩ : ∃ p, pt q = p := ⟨_, rfl⟩
  rw [hp] at H1 ip
  simp only at H1 ip
  obtain ⟨l1, l2⟩ := hsz.len ip
  rcases s with _ | _
  · have hnl := nneg_lt ip.sgn
    by_cases h0 : q = 0
    · rw [if_pos h0] at hst
      obtain ⟨⟨s2, n2, d2⟩, hp2⟩ : ∃ p, pt v = p := ⟨_, rfl⟩
      have i2 := pt_is v
      rw [hp2, hst] at i2
      obtain ⟨rfl, rfl, rfl⟩ := i2.eqs cent_is
      rw [hp2]
      have H2 := Lib.hid (C_rSign (s := false) (n := n) (d := d) (by omega) (by omega) (ratOf_is ip) ((sgr_zero q).2 h0))
      clear hq hv hst ip hp l1 l2 hnl h0 hp2 i2 hsz hx hy hz
      have HT := Lib.hid ht
      have HK := Lib.hid (((Kq.nil w).new #[.int .i64 x, .int .i64 y, .int .i64 z] 22).new #[.bool false, S [], S []] 26)
      rw [World.size_alloc] at HK
      obtain ⟨B, hB⟩ : ∃ B, w.heap.size = B := ⟨_, rfl⟩
      rw [hB] at HK
      have HBB := Lib.hid hB
      clear ht
      have HF1 := Lib.hid (show ∀ W, Kq w W [(B + 1, 26, [.bool false, S [], S []]), (B, 22, [.int .i64 x, .int .i64 y, .int .i64 z])] → W.cell? ⟨B + 1, 0, none⟩ = some (.bool false) ∧ W.cell? ⟨B + 1, 1, none⟩ = some (S []) ∧ W.cell? ⟨B + 1, 2, none⟩ = some (S []) ∧ W.cell? ⟨B, 0, none⟩ = some (.int .i64 x) ∧ W.cell? ⟨B, 1, none⟩ = some (.int .i64 y) ∧ W.cell? ⟨B, 2, none⟩ = some (.int .i64 z) from fun W h => ⟨(h.row _ (.head _)).cell 0, (h.row _ (.head _)).cell 1, (h.row _ (.head _)).cell 2, (h.row _ (.tail _ (.head _))).cell 0, (h.row _ (.tail _ (.head _))).cell 1, (h.row _ (.tail _ (.head _))).cell 2⟩)
      obtain ⟨cc0, cc1, cc2, cc3, cc4, cc5⟩ := HF1.out _ HK.out
      go_enter Tryz.func13, Tryz.ntmps13
      go_wp2_with fail
      clear hB
      refine (H1.out _).mono ?_
      rintro e w1 ⟨rfl, hC⟩
      have HK2 := Lib.hid (HK.out.on hC)
      clear cc0 cc1 cc2 cc3 cc4 cc5
      clear hC HK
      have HK := HK2
      clear HK2
      obtain ⟨cc0, cc1, cc2, cc3, cc4, cc5⟩ := HF1.out _ HK.out
      have hall := fun o : Obj => HF1.out _ (HK.out.other o)
      have dd0 : ∀ o : Obj, (w1.alloc o).cell? ⟨B + 1, 0, none⟩ = some (.bool false) := fun o => (hall o).1
      have dd1 : ∀ o : Obj, (w1.alloc o).cell? ⟨B + 1, 1, none⟩ = some (S []) := fun o => (hall o).2.1
      have dd2 : ∀ o : Obj, (w1.alloc o).cell? ⟨B + 1, 2, none⟩ = some (S []) := fun o => (hall o).2.2.1
      have dd3 : ∀ o : Obj, (w1.alloc o).cell? ⟨B, 0, none⟩ = some (.int .i64 x) := fun o => (hall o).2.2.2.1
      have dd4 : ∀ o : Obj, (w1.alloc o).cell? ⟨B, 1, none⟩ = some (.int .i64 y) := fun o => (hall o).2.2.2.2.1
      have dd5 : ∀ o : Obj, (w1.alloc o).cell? ⟨B, 2, none⟩ = some (.int .i64 z) := fun o => (hall o).2.2.2.2.2
      clear hall
      go_wp2_with fail
      have HQG := Lib.hid (show B + 1 < w1.heap.size from (HK.out.row _ (.head _)).lt)
      clear cc0 cc1 cc2 cc3 cc4 cc5 dd0 dd1 dd2 dd3 dd4 dd5
      have HK2 := Lib.hid (HK.out.new #[.bool false, S n, S d] 26)
      obtain ⟨w2, hW⟩ : ∃ W, w1.alloc (.cells #[.bool false, S n, S d] 26 (0, 0)) = W := ⟨_, rfl⟩
      rw [hW] at HK2 ⊢
      obtain ⟨Q, hA⟩ : ∃ A, w1.heap.size = A := ⟨_, rfl⟩
      rw [hA] at HK2 ⊢
      rw [hA] at HQG
      have hqg := HQG.out
      clear hA hW HK
      have HK := HK2
      clear HK2
      have HF2 := Lib.hid (show ∀ W, Kq w W [(Q, 26, [.bool false, S n, S d]), (B + 1, 26, [.bool false, S [], S []]), (B, 22, [.int .i64 x, .int .i64 y, .int .i64 z])] → W.cell? ⟨Q, 0, none⟩ = some (.bool false) ∧ W.cell? ⟨Q, 1, none⟩ = some (S n) ∧ W.cell? ⟨Q, 2, none⟩ = some (S d) ∧ W.cell? ⟨B + 1, 0, none⟩ = some (.bool false) ∧ W.cell? ⟨B + 1, 1, none⟩ = some (S []) ∧ W.cell? ⟨B + 1, 2, none⟩ = some (S []) ∧ W.cell? ⟨B, 0, none⟩ = some (.int .i64 x) ∧ W.cell? ⟨B, 1, none⟩ = some (.int .i64 y) ∧ W.cell? ⟨B, 2, none⟩ = some (.int .i64 z) from fun W h => ⟨(h.row _ (.head _)).cell 0, (h.row _ (.head _)).cell 1, (h.row _ (.head _)).cell 2, (h.row _ (.tail _ (.head _))).cell 0, (h.row _ (.tail _ (.head _))).cell 1, (h.row _ (.tail _ (.head _))).cell 2, (h.row _ (.tail _ (.tail _ (.head _)))).cell 0, (h.row _ (.tail _ (.tail _ (.head _)))).cell 1, (h.row _ (.tail _ (.tail _ (.head _)))).cell 2⟩)
      obtain ⟨cc0, cc1, cc2, cc3, cc4, cc5, cc6, cc7, cc8⟩ := HF2.out _ HK.out
      refine (H2.out _).mono ?_
      rintro e w3 ⟨rfl, hC⟩
      have HK2 := Lib.hid (HK.out.on hC)
      clear cc0 cc1 cc2 cc3 cc4 cc5 cc6 cc7 cc8
      clear hC HK
      have HK := HK2
      clear HK2
      obtain ⟨cc0, cc1, cc2, cc3, cc4, cc5, cc6, cc7, cc8⟩ := HF2.out _ HK.out
      go_wp2_with fail
      refine (C_rcent _ (HT.out.ch HK.out.ch)).mono ?_
      rintro e w4 ⟨rfl, hC⟩
      have HK2 := Lib.hid (HK.out.on hC)
      clear cc0 cc1 cc2 cc3 cc4 cc5 cc6 cc7 cc8
      clear hC HK
      have HK := HK2
      clear HK2
      obtain ⟨cc0, cc1, cc2, cc3, cc4, cc5, cc6, cc7, cc8⟩ := HF2.out _ HK.out
      have e0 := (HK.out.row _ (.tail _ (.head _))).cell 0
      have e1 := (HK.out.row _ (.tail _ (.head _))).cell 1
      have e2 := (HK.out.row _ (.tail _ (.head _))).cell 2
      have f0 := (HK.out.row _ (.tail _ (.head _))).frozen 0
      have f1 := (HK.out.row _ (.tail _ (.head _))).frozen 1
      have f2 := (HK.out.row _ (.tail _ (.head _))).frozen 2
      simp only [List.getElem?_cons_zero, List.getElem?_cons_succ] at e0 e1 e2
      go_wp2_with fail
      have hp := HK.out.put (g := B + 1) (.tail _ (.head _)) (by have := HBB.out; omega) (.bool false) (S [1]) (S [100])
      refine bodyPost_ret (results_cell_row (P := Tryz.prog) rfl _ _ (B + 1) 26 _ (0, 0) _ rfl hp.1 Tryz.underlying26 rfl (by kernel_rfl)) rfl ?_
      exact ⟨rfl, hp.2⟩
    · rw [if_neg h0, if_neg hnl] at hst
      have hqp : 0 < q := Rat.lt_of_le_of_ne (Rat.not_lt.1 hnl) (Ne.symm h0)
      rw [hst, hp]
      have H2 := Lib.hid (C_rSign (s := false) (n := n) (d := d) (by omega) (by omega) (ratOf_is ip) (sgr_one hqp))
      clear hq hv hst ip hp l1 l2 hnl h0 hqp hsz hx hy hz
      have HT := Lib.hid ht
      have HK := Lib.hid (((Kq.nil w).new #[.int .i64 x, .int .i64 y, .int .i64 z] 22).new #[.bool false, S [], S []] 26)
      rw [World.size_alloc] at HK
      obtain ⟨B, hB⟩ : ∃ B, w.heap.size = B := ⟨_, rfl⟩
      rw [hB] at HK
      have HBB := Lib.hid hB
      clear ht
      have HF1 := Lib.hid (show ∀ W, Kq w W [(B + 1, 26, [.bool false, S [], S []]), (B, 22, [.int .i64 x, .int .i64 y, .int .i64 z])] → W.cell? ⟨B + 1, 0, none⟩ = some (.bool false) ∧ W.cell? ⟨B + 1, 1, none⟩ = some (S []) ∧ W.cell? ⟨B + 1, 2, none⟩ = some (S []) ∧ W.cell? ⟨B, 0, none⟩ = some (.int .i64 x) ∧ W.cell? ⟨B, 1, none⟩ = some (.int .i64 y) ∧ W.cell? ⟨B, 2, none⟩ = some (.int .i64 z) from fun W h => ⟨(h.row _ (.head _)).cell 0, (h.row _ (.head _)).cell 1, (h.row _ (.head _)).cell 2, (h.row _ (.tail _ (.head _))).cell 0, (h.row _ (.tail _ (.head _))).cell 1, (h.row _ (.tail _ (.head _))).cell 2⟩)
      obtain ⟨cc0, cc1, cc2, cc3, cc4, cc5⟩ := HF1.out _ HK.out
      go_enter Tryz.func13, Tryz.ntmps13
      go_wp2_with fail
      clear hB
      refine (H1.out _).mono ?_
      rintro e w1 ⟨rfl, hC⟩
      have HK2 := Lib.hid (HK.out.on hC)
      clear cc0 cc1 cc2 cc3 cc4 cc5
      clear hC HK
      have HK := HK2
      clear HK2
      obtain ⟨cc0, cc1, cc2, cc3, cc4, cc5⟩ := HF1.out _ HK.out
      have hall := fun o : Obj => HF1.out _ (HK.out.other o)
      have dd0 : ∀ o : Obj, (w1.alloc o).cell? ⟨B + 1, 0, none⟩ = some (.bool false) := fun o => (hall o).1
      have dd1 : ∀ o : Obj, (w1.alloc o).cell? ⟨B + 1, 1, none⟩ = some (S []) := fun o => (hall o).2.1
      have dd2 : ∀ o : Obj, (w1.alloc o).cell? ⟨B + 1, 2, none⟩ = some (S []) := fun o => (hall o).2.2.1
      have dd3 : ∀ o : Obj, (w1.alloc o).cell? ⟨B, 0, none⟩ = some (.int .i64 x) := fun o => (hall o).2.2.2.1
      have dd4 : ∀ o : Obj, (w1.alloc o).cell? ⟨B, 1, none⟩ = some (.int .i64 y) := fun o => (hall o).2.2.2.2.1
      have dd5 : ∀ o : Obj, (w1.alloc o).cell? ⟨B, 2, none⟩ = some (.int .i64 z) := fun o => (hall o).2.2.2.2.2
      clear hall
      go_wp2_with fail
      have HQG := Lib.hid (show B + 1 < w1.heap.size from (HK.out.row _ (.head _)).lt)
      clear cc0 cc1 cc2 cc3 cc4 cc5 dd0 dd1 dd2 dd3 dd4 dd5
      have HK2 := Lib.hid (HK.out.new #[.bool false, S n, S d] 26)
      obtain ⟨w2, hW⟩ : ∃ W, w1.alloc (.cells #[.bool false, S n, S d] 26 (0, 0)) = W := ⟨_, rfl⟩
      rw [hW] at HK2 ⊢
      obtain ⟨Q, hA⟩ : ∃ A, w1.heap.size = A := ⟨_, rfl⟩
      rw [hA] at HK2 ⊢
      rw [hA] at HQG
      have hqg := HQG.out
      clear hA hW HK
      have HK := HK2
      clear HK2
      have HF2 := Lib.hid (show ∀ W, Kq w W [(Q, 26, [.bool false, S n, S d]), (B + 1, 26, [.bool false, S [], S []]), (B, 22, [.int .i64 x, .int .i64 y, .int .i64 z])] → W.cell? ⟨Q, 0, none⟩ = some (.bool false) ∧ W.cell? ⟨Q, 1, none⟩ = some (S n) ∧ W.cell? ⟨Q, 2, none⟩ = some (S d) ∧ W.cell? ⟨B + 1, 0, none⟩ = some (.bool false) ∧ W.cell? ⟨B + 1, 1, none⟩ = some (S []) ∧ W.cell? ⟨B + 1, 2, none⟩ = some (S []) ∧ W.cell? ⟨B, 0, none⟩ = some (.int .i64 x) ∧ W.cell? ⟨B, 1, none⟩ = some (.int .i64 y) ∧ W.cell? ⟨B, 2, none⟩ = some (.int .i64 z) from fun W h => ⟨(h.row _ (.head _)).cell 0, (h.row _ (.head _)).cell 1, (h.row _ (.head _)).cell 2, (h.row _ (.tail _ (.head _))).cell 0, (h.row _ (.tail _ (.head _))).cell 1, (h.row _ (.tail _ (.head _))).cell 2, (h.row _ (.tail _ (.tail _ (.head _)))).cell 0, (h.row _ (.tail _ (.tail _ (.head _)))).cell 1, (h.row _ (.tail _ (.tail _ (.head _)))).cell 2⟩)
      obtain ⟨cc0, cc1, cc2, cc3, cc4, cc5, cc6, cc7, cc8⟩ := HF2.out _ HK.out
      refine (H2.out _).mono ?_
      rintro e w3 ⟨rfl, hC⟩
      have HK2 := Lib.hid (HK.out.on hC)
      clear cc0 cc1 cc2 cc3 cc4 cc5 cc6 cc7 cc8
      clear hC HK
      have HK := HK2
      clear HK2
      obtain ⟨cc0, cc1, cc2, cc3, cc4, cc5, cc6, cc7, cc8⟩ := HF2.out _ HK.out
      have e0 := (HK.out.row _ (.tail _ (.head _))).cell 0
      have e1 := (HK.out.row _ (.tail _ (.head _))).cell 1
      have e2 := (HK.out.row _ (.tail _ (.head _))).cell 2
      have f0 := (HK.out.row _ (.tail _ (.head _))).frozen 0
      have f1 := (HK.out.row _ (.tail _ (.head _))).frozen 1
      have f2 := (HK.out.row _ (.tail _ (.head _))).frozen 2
      simp only [List.getElem?_cons_zero, List.getElem?_cons_succ] at e0 e1 e2
      go_wp2_with fail
      have hp := HK.out.put (g := B + 1) (.tail _ (.head _)) (by have := HBB.out; omega) (.bool false) (S n) (S d)
      refine bodyPost_ret (results_cell_row (P := Tryz.prog) rfl _ _ (B + 1) 26 _ (0, 0) _ rfl hp.1 Tryz.underlying26 rfl (by kernel_rfl)) rfl ?_
      exact ⟨rfl, hp.2⟩
  · have hl := neg_lt ip.sgn
    have h0 : ¬ q = 0 := fun e => Rat.ne_of_lt hl e
    rw [if_neg h0, if_pos hl] at hst
    have hqp : 0 < -q := by grind
    have ip2 := pt_is (-q)
    obtain ⟨⟨s2, n2, d2⟩, hp2⟩ : ∃ p, pt (-q) = p := ⟨_, rfl⟩
    rw [hp2] at ip2
    simp only at ip2
    rw [hst, hp2]
    obtain ⟨l3, l4⟩ := hsz.neg.len ip2
    have H2 := Lib.hid (C_rNeg (s := true) (n := n) (d := d) (by omega) (by omega) (ratOf_is ip) ip2)
    have H3 := Lib.hid (C_rSign (s := s2) (n := n2) (d := d2) (by omega) (by omega) (ratOf_is ip2) (sgr_one hqp))
    clear hq hv hst ip hp l1 l2 hl h0 hqp ip2 hp2 l3 l4 hsz hx hy hz
    have HT := Lib.hid ht
    have HK := Lib.hid (((Kq.nil w).new #[.int .i64 x, .int .i64 y, .int .i64 z] 22).new #[.bool false, S [], S []] 26)
    rw [World.size_alloc] at HK
    obtain ⟨B, hB⟩ : ∃ B, w.heap.size = B := ⟨_, rfl⟩
    rw [hB] at HK
    have HBB := Lib.hid hB
    clear ht
    have HF1 := Lib.hid (show ∀ W, Kq w W [(B + 1, 26, [.bool false, S [], S []]), (B, 22, [.int .i64 x, .int .i64 y, .int .i64 z])] → W.cell? ⟨B + 1, 0, none⟩ = some (.bool false) ∧ W.cell? ⟨B + 1, 1, none⟩ = some (S []) ∧ W.cell? ⟨B + 1, 2, none⟩ = some (S []) ∧ W.cell? ⟨B, 0, none⟩ = some (.int .i64 x) ∧ W.cell? ⟨B, 1, none⟩ = some (.int .i64 y) ∧ W.cell? ⟨B, 2, none⟩ = some (.int .i64 z) from fun W h => ⟨(h.row _ (.head _)).cell 0, (h.row _ (.head _)).cell 1, (h.row _ (.head _)).cell 2, (h.row _ (.tail _ (.head _))).cell 0, (h.row _ (.tail _ (.head _))).cell 1, (h.row _ (.tail _ (.head _))).cell 2⟩)
    obtain ⟨cc0, cc1, cc2, cc3, cc4, cc5⟩ := HF1.out _ HK.out
    go_enter Tryz.func13, Tryz.ntmps13
    go_wp2_with fail
    clear hB
    refine (H1.out _).mono ?_
    rintro e w1 ⟨rfl, hC⟩
    have HK2 := Lib.hid (HK.out.on hC)
    clear cc0 cc1 cc2 cc3 cc4 cc5
    clear hC HK
    have HK := HK2
    clear HK2
    obtain ⟨cc0, cc1, cc2, cc3, cc4, cc5⟩ := HF1.out _ HK.out
    have hall := fun o : Obj => HF1.out _ (HK.out.other o)
    have dd0 : ∀ o : Obj, (w1.alloc o).cell? ⟨B + 1, 0, none⟩ = some (.bool false) := fun o => (hall o).1
    have dd1 : ∀ o : Obj, (w1.alloc o).cell? ⟨B + 1, 1, none⟩ = some (S []) := fun o => (hall o).2.1
    have dd2 : ∀ o : Obj, (w1.alloc o).cell? ⟨B + 1, 2, none⟩ = some (S []) := fun o => (hall o).2.2.1
    have dd3 : ∀ o : Obj, (w1.alloc o).cell? ⟨B, 0, none⟩ = some (.int .i64 x) := fun o => (hall o).2.2.2.1
    have dd4 : ∀ o : Obj, (w1.alloc o).cell? ⟨B, 1, none⟩ = some (.int .i64 y) := fun o => (hall o).2.2.2.2.1
    have dd5 : ∀ o : Obj, (w1.alloc o).cell? ⟨B, 2, none⟩ = some (.int .i64 z) := fun o => (hall o).2.2.2.2.2
    clear hall
    go_wp2_with fail
    have HQG := Lib.hid (show B + 1 < w1.heap.size from (HK.out.row _ (.head _)).lt)
    clear cc0 cc1 cc2 cc3 cc4 cc5 dd0 dd1 dd2 dd3 dd4 dd5
    have HK2 := Lib.hid (HK.out.new #[.bool true, S n, S d] 26)
    obtain ⟨w2, hW⟩ : ∃ W, w1.alloc (.cells #[.bool true, S n, S d] 26 (0, 0)) = W := ⟨_, rfl⟩
    rw [hW] at HK2 ⊢
    obtain ⟨Q, hA⟩ : ∃ A, w1.heap.size = A := ⟨_, rfl⟩
    rw [hA] at HK2 ⊢
    rw [hA] at HQG
    have hqg := HQG.out
    clear hA hW HK
    have HK := HK2
    clear HK2
    have HF2 := Lib.hid (show ∀ W, Kq w W [(Q, 26, [.bool true, S n, S d]), (B + 1, 26, [.bool false, S [], S []]), (B, 22, [.int .i64 x, .int .i64 y, .int .i64 z])] → W.cell? ⟨Q, 0, none⟩ = some (.bool true) ∧ W.cell? ⟨Q, 1, none⟩ = some (S n) ∧ W.cell? ⟨Q, 2, none⟩ = some (S d) ∧ W.cell? ⟨B + 1, 0, none⟩ = some (.bool false) ∧ W.cell? ⟨B + 1, 1, none⟩ = some (S []) ∧ W.cell? ⟨B + 1, 2, none⟩ = some (S []) ∧ W.cell? ⟨B, 0, none⟩ = some (.int .i64 x) ∧ W.cell? ⟨B, 1, none⟩ = some (.int .i64 y) ∧ W.cell? ⟨B, 2, none⟩ = some (.int .i64 z) from fun W h => ⟨(h.row _ (.head _)).cell 0, (h.row _ (.head _)).cell 1, (h.row _ (.head _)).cell 2, (h.row _ (.tail _ (.head _))).cell 0, (h.row _ (.tail _ (.head _))).cell 1, (h.row _ (.tail _ (.head _))).cell 2, (h.row _ (.tail _ (.tail _ (.head _)))).cell 0, (h.row _ (.tail _ (.tail _ (.head _)))).cell 1, (h.row _ (.tail _ (.tail _ (.head _)))).cell 2⟩)
    obtain ⟨cc0, cc1, cc2, cc3, cc4, cc5, cc6, cc7, cc8⟩ := HF2.out _ HK.out
    refine (H2.out _).mono ?_
    rintro e w3 ⟨rfl, hC⟩
    have HK2 := Lib.hid (HK.out.on hC)
    clear cc0 cc1 cc2 cc3 cc4 cc5 cc6 cc7 cc8
    clear hC HK
    have HK := HK2
    clear HK2
    obtain ⟨cc0, cc1, cc2, cc3, cc4, cc5, cc6, cc7, cc8⟩ := HF2.out _ HK.out
    clear cc0 cc1 cc2 cc3 cc4 cc5 cc6 cc7 cc8
    have e0 := (HK.out.row _ (.head _)).cell 0
    have e1 := (HK.out.row _ (.head _)).cell 1
    have e2 := (HK.out.row _ (.head _)).cell 2
    have f0 := (HK.out.row _ (.head _)).frozen 0
    have f1 := (HK.out.row _ (.head _)).frozen 1
    have f2 := (HK.out.row _ (.head _)).frozen 2
    simp only [List.getElem?_cons_zero, List.getElem?_cons_succ] at e0 e1 e2
    go_wp2_with fail
    have HK2 := Lib.hid (HK.out.put3 (by have := HBB.out; omega) (fun p hp => by simp only [List.mem_cons, List.not_mem_nil, or_false] at hp; rcases hp with rfl | rfl <;> (show _ ≠ _; simp only; omega)) (.bool s2) (S n2) (S d2))
    clear HK e0 e1 e2 f0 f1 f2
    have HK := HK2
    clear HK2
    obtain ⟨W3, hW3⟩ : ∃ W, (((w3.setCell ⟨Q, 0, none⟩ (.bool s2)).setCell ⟨Q, 1, none⟩ (S n2)).setCell ⟨Q, 2, none⟩ (S d2)) = W := ⟨_, rfl⟩
    rw [hW3] at HK ⊢
    clear hW3
    have HF3 := Lib.hid (show ∀ W, Kq w W [(Q, 26, [.bool s2, S n2, S d2]), (B + 1, 26, [.bool false, S [], S []]), (B, 22, [.int .i64 x, .int .i64 y, .int .i64 z])] → W.cell? ⟨Q, 0, none⟩ = some (.bool s2) ∧ W.cell? ⟨Q, 1, none⟩ = some (S n2) ∧ W.cell? ⟨Q, 2, none⟩ = some (S d2) ∧ W.cell? ⟨B + 1, 0, none⟩ = some (.bool false) ∧ W.cell? ⟨B + 1, 1, none⟩ = some (S []) ∧ W.cell? ⟨B + 1, 2, none⟩ = some (S []) ∧ W.cell? ⟨B, 0, none⟩ = some (.int .i64 x) ∧ W.cell? ⟨B, 1, none⟩ = some (.int .i64 y) ∧ W.cell? ⟨B, 2, none⟩ = some (.int .i64 z) from fun W h => ⟨(h.row _ (.head _)).cell 0, (h.row _ (.head _)).cell 1, (h.row _ (.head _)).cell 2, (h.row _ (.tail _ (.head _))).cell 0, (h.row _ (.tail _ (.head _))).cell 1, (h.row _ (.tail _ (.head _))).cell 2, (h.row _ (.tail _ (.tail _ (.head _)))).cell 0, (h.row _ (.tail _ (.tail _ (.head _)))).cell 1, (h.row _ (.tail _ (.tail _ (.head _)))).cell 2⟩)
    obtain ⟨cc0, cc1, cc2, cc3, cc4, cc5, cc6, cc7, cc8⟩ := HF3.out _ HK.out
    refine (H3.out _).mono ?_
    rintro e w4 ⟨rfl, hC⟩
    have HK2 := Lib.hid (HK.out.on hC)
    clear cc0 cc1 cc2 cc3 cc4 cc5 cc6 cc7 cc8
    clear hC HK
    have HK := HK2
    clear HK2
    obtain ⟨cc0, cc1, cc2, cc3, cc4, cc5, cc6, cc7, cc8⟩ := HF3.out _ HK.out
    have e0 := (HK.out.row _ (.tail _ (.head _))).cell 0
    have e1 := (HK.out.row _ (.tail _ (.head _))).cell 1
    have e2 := (HK.out.row _ (.tail _ (.head _))).cell 2
    have f0 := (HK.out.row _ (.tail _ (.head _))).frozen 0
    have f1 := (HK.out.row _ (.tail _ (.head _))).frozen 1
    have f2 := (HK.out.row _ (.tail _ (.head _))).frozen 2
    simp only [List.getElem?_cons_zero, List.getElem?_cons_succ] at e0 e1 e2
    go_wp2_with fail
    have hp := HK.out.put (g := B + 1) (.tail _ (.head _)) (by have := HBB.out; omega) (.bool s2) (S n2) (S d2)
    refine bodyPost_ret (results_cell_row (P := Tryz.prog) rfl _ _ (B + 1) 26 _ (0, 0) _ rfl hp.1 Tryz.underlying26 rfl (by kernel_rfl)) rfl ?_
    exact ⟨rfl, hp.2⟩
end Go.Proofs.YtnblmmhpndnjcaaGreatDoor
