/- The reference of layer 4: Parse: the walks. -/
import Derived.Test.YtnblmmhpndnjcaaGreatDoorIe
namespace Go.Proofs.YtnblmmhpndnjcaaGreatDoor
open Go.RowKit
set_option maxRecDepth 100000 in
set_option maxHeartbeats 6400000 in
theorem rp_short {s : List UInt8} {n : Nat} (hn : s.length = n) (h5 : n < 5) : AnsM 33 #[S s] (.tuple #[Rv false [] [], .bool false]) := fun w ht => by
  have q1 : (n : Int) < 5 := by omega
  have HT := Lib.hid ht
  have HK := Lib.hid ((Kq.nil w).new #[.bool false, S [], S []] 26)
  obtain ⟨B, hB⟩ : ∃ B, w.heap.size = B := ⟨_, rfl⟩
  rw [hB] at HK
  have HBB := Lib.hid hB
  clear ht
  have HF1 := Lib.hid (show ∀ W, Kq w W [(B, 26, [.bool false, S [], S []])] → W.cell? ⟨B, 0, none⟩ = some (.bool false) ∧ W.cell? ⟨B, 1, none⟩ = some (S []) ∧ W.cell? ⟨B, 2, none⟩ = some (S []) from fun W h => ⟨(h.row _ (.head _)).cell 0, (h.row _ (.head _)).cell 1, (h.row _ (.head _)).cell 2⟩)
  have e0 := (HK.out.row _ (.head _)).cell 0
  have f0 := (HK.out.row _ (.head _)).frozen 0
  have e1 := (HK.out.row _ (.head _)).cell 1
  have f1 := (HK.out.row _ (.head _)).frozen 1
  have e2 := (HK.out.row _ (.head _)).cell 2
  have f2 := (HK.out.row _ (.head _)).frozen 2
  simp only [List.getElem?_cons_zero, List.getElem?_cons_succ] at e0 e1 e2
  go_enter Tryz.func33, Tryz.ntmps33
  go_wp2_with fail
  refine bodyPost_ret (results_cell_row_tmp (P := Tryz.prog) rfl _ _ B 26 _ (0, 0) _ rfl (HK.out.row _ (.head _)) Tryz.underlying26 rfl (by kernel_rfl)) rfl ?_
  exact ⟨rfl, HK.out.ch⟩
set_option maxRecDepth 100000 in
set_option maxHeartbeats 6400000 in
theorem rp_long {s : List UInt8} {n : Nat} (hn : s.length = n) (h40 : 40 < n) : AnsM 33 #[S s] (.tuple #[Rv false [] [], .bool false]) := fun w ht => by
  have q1 : ¬ (n : Int) < 5 := by omega
  have q2 : 40 < (n : Int) := by omega
  have HT := Lib.hid ht
  have HK := Lib.hid ((Kq.nil w).new #[.bool false, S [], S []] 26)
  obtain ⟨B, hB⟩ : ∃ B, w.heap.size = B := ⟨_, rfl⟩
  rw [hB] at HK
  have HBB := Lib.hid hB
  clear ht
  have HF1 := Lib.hid (show ∀ W, Kq w W [(B, 26, [.bool false, S [], S []])] → W.cell? ⟨B, 0, none⟩ = some (.bool false) ∧ W.cell? ⟨B, 1, none⟩ = some (S []) ∧ W.cell? ⟨B, 2, none⟩ = some (S []) from fun W h => ⟨(h.row _ (.head _)).cell 0, (h.row _ (.head _)).cell 1, (h.row _ (.head _)).cell 2⟩)
  have e0 := (HK.out.row _ (.head _)).cell 0
  have f0 := (HK.out.row _ (.head _)).frozen 0
  have e1 := (HK.out.row _ (.head _)).cell 1
  have f1 := (HK.out.row _ (.head _)).frozen 1
  have e2 := (HK.out.row _ (.head _)).cell 2
  have f2 := (HK.out.row _ (.head _)).frozen 2
  simp only [List.getElem?_cons_zero, List.getElem?_cons_succ] at e0 e1 e2
  go_enter Tryz.func33, Tryz.ntmps33
  go_wp2_with fail
  refine bodyPost_ret (results_cell_row_tmp (P := Tryz.prog) rfl _ _ B 26 _ (0, 0) _ rfl (HK.out.row _ (.head _)) Tryz.underlying26 rfl (by kernel_rfl)) rfl ?_
  exact ⟨rfl, HK.out.ch⟩
set_option maxRecDepth 100000 in
set_option maxHeartbeats 6400000 in
theorem rp_sign {s : List UInt8} {n i j : Nat} {c0 : UInt8} (hn : s.length = n) (h5 : 5 ≤ n) (h40 : n ≤ 40) (hi : (n : Int) - 2 = (i : Int)) (hj : (n : Int) - 3 = (j : Int)) (h0 : ∀ h', (ByteArray.mk s.toArray)[0]'h' = c0) (hc : ¬ (c0.toNat : Int) = 36) : AnsM 33 #[S s] (.tuple #[Rv false [] [], .bool false]) := fun w ht => by
  have q1 : ¬ (n : Int) < 5 := by omega
  have q2 : ¬ 40 < (n : Int) := by omega
  have q3 : (j : Int) < (n : Int) := by omega
  have q4 : (i : Int) < (n : Int) := by omega
  have q5 : 0 ≤ (j : Int) := by omega
  have q6 : 0 ≤ (i : Int) := by omega
  have q7 : ((c0.toNat : Int) == 36) = false := beq_false_of_ne hc
  have q8 : (0 : Int) < (n : Int) := by omega
  have HT := Lib.hid ht
  have HK := Lib.hid ((Kq.nil w).new #[.bool false, S [], S []] 26)
  obtain ⟨B, hB⟩ : ∃ B, w.heap.size = B := ⟨_, rfl⟩
  rw [hB] at HK
  have HBB := Lib.hid hB
  clear ht
  have HF1 := Lib.hid (show ∀ W, Kq w W [(B, 26, [.bool false, S [], S []])] → W.cell? ⟨B, 0, none⟩ = some (.bool false) ∧ W.cell? ⟨B, 1, none⟩ = some (S []) ∧ W.cell? ⟨B, 2, none⟩ = some (S []) from fun W h => ⟨(h.row _ (.head _)).cell 0, (h.row _ (.head _)).cell 1, (h.row _ (.head _)).cell 2⟩)
  have e0 := (HK.out.row _ (.head _)).cell 0
  have f0 := (HK.out.row _ (.head _)).frozen 0
  have e1 := (HK.out.row _ (.head _)).cell 1
  have f1 := (HK.out.row _ (.head _)).frozen 1
  have e2 := (HK.out.row _ (.head _)).cell 2
  have f2 := (HK.out.row _ (.head _)).frozen 2
  simp only [List.getElem?_cons_zero, List.getElem?_cons_succ] at e0 e1 e2
  go_enter Tryz.func33, Tryz.ntmps33
  go_wp2_with fail
  refine bodyPost_ret (results_cell_row_tmp (P := Tryz.prog) rfl _ _ B 26 _ (0, 0) _ rfl (HK.out.row _ (.head _)) Tryz.underlying26 rfl (by kernel_rfl)) rfl ?_
  exact ⟨rfl, HK.out.ch⟩
set_option maxRecDepth 100000 in
set_option maxHeartbeats 6400000 in
theorem rp_point {s : List UInt8} {n i j : Nat} {c0 e : UInt8} (hn : s.length = n) (h5 : 5 ≤ n) (h40 : n ≤ 40) (hi : (n : Int) - 2 = (i : Int)) (hj : (n : Int) - 3 = (j : Int)) (h0 : ∀ h', (ByteArray.mk s.toArray)[0]'h' = c0) (hc : (c0.toNat : Int) = 36) (hje : ∀ h', (ByteArray.mk s.toArray)[j]'h' = e) (he : ¬ (e.toNat : Int) = 46) : AnsM 33 #[S s] (.tuple #[Rv false [] [], .bool false]) := fun w ht => by
  have q1 : ¬ (n : Int) < 5 := by omega
  have q2 : ¬ 40 < (n : Int) := by omega
  have q3 : (j : Int) < (n : Int) := by omega
  have q4 : (i : Int) < (n : Int) := by omega
  have q5 : 0 ≤ (j : Int) := by omega
  have q6 : 0 ≤ (i : Int) := by omega
  have q7 : ((e.toNat : Int) == 46) = false := beq_false_of_ne he
  have q8 : (0 : Int) < (n : Int) := by omega
  have HT := Lib.hid ht
  have HK := Lib.hid ((Kq.nil w).new #[.bool false, S [], S []] 26)
  obtain ⟨B, hB⟩ : ∃ B, w.heap.size = B := ⟨_, rfl⟩
  rw [hB] at HK
  have HBB := Lib.hid hB
  clear ht
  have HF1 := Lib.hid (show ∀ W, Kq w W [(B, 26, [.bool false, S [], S []])] → W.cell? ⟨B, 0, none⟩ = some (.bool false) ∧ W.cell? ⟨B, 1, none⟩ = some (S []) ∧ W.cell? ⟨B, 2, none⟩ = some (S []) from fun W h => ⟨(h.row _ (.head _)).cell 0, (h.row _ (.head _)).cell 1, (h.row _ (.head _)).cell 2⟩)
  have e0 := (HK.out.row _ (.head _)).cell 0
  have f0 := (HK.out.row _ (.head _)).frozen 0
  have e1 := (HK.out.row _ (.head _)).cell 1
  have f1 := (HK.out.row _ (.head _)).frozen 1
  have e2 := (HK.out.row _ (.head _)).cell 2
  have f2 := (HK.out.row _ (.head _)).frozen 2
  simp only [List.getElem?_cons_zero, List.getElem?_cons_succ] at e0 e1 e2
  go_enter Tryz.func33, Tryz.ntmps33
  go_wp2_with fail
  refine bodyPost_ret (results_cell_row_tmp (P := Tryz.prog) rfl _ _ B 26 _ (0, 0) _ rfl (HK.out.row _ (.head _)) Tryz.underlying26 rfl (by kernel_rfl)) rfl ?_
  exact ⟨rfl, HK.out.ch⟩
set_option maxRecDepth 100000 in
set_option maxHeartbeats 6400000 in
theorem rp_digits_neg {s : List UInt8} {n i j : Nat} {c0 c1 e : UInt8} {p mid : List UInt8} (hn : s.length = n) (h5 : 5 ≤ n) (h40 : n ≤ 40) (hi : (n : Int) - 2 = (i : Int)) (hj : (n : Int) - 3 = (j : Int)) (h0 : ∀ h', (ByteArray.mk s.toArray)[0]'h' = c0) (hc : (c0.toNat : Int) = 36) (hje : ∀ h', (ByteArray.mk s.toArray)[j]'h' = e) (he : (e.toNat : Int) = 46) (h1 : ∀ h', (ByteArray.mk s.toArray)[1]'h' = c1) (hc1 : (c1.toNat : Int) = 45) (hx : (ByteArray.mk s.toArray).extract 2 j = ⟨mid.toArray⟩) (hp : Ans 76 #[S mid] (.tuple #[S p, .bool false])) : AnsM 33 #[S s] (.tuple #[Rv false [] [], .bool false]) := fun w ht => by
  have q1 : ¬ (n : Int) < 5 := by omega
  have q2 : ¬ 40 < (n : Int) := by omega
  have q3 : (j : Int) < (n : Int) := by omega
  have q4 : (i : Int) < (n : Int) := by omega
  have q5 : 0 ≤ (j : Int) := by omega
  have q6 : 0 ≤ (i : Int) := by omega
  have q8 : (0 : Int) < (n : Int) := by omega
  have q9 : (1 : Int) < (n : Int) := by omega
  have y1 : (2 : Int) ≤ (j : Int) := by omega
  have y2 : (j : Int) ≤ (n : Int) := by omega
  have H1 := Lib.hid hp
  clear hp
  have HT := Lib.hid ht
  have HK := Lib.hid ((Kq.nil w).new #[.bool false, S [], S []] 26)
  obtain ⟨B, hB⟩ : ∃ B, w.heap.size = B := ⟨_, rfl⟩
  rw [hB] at HK
  have HBB := Lib.hid hB
  clear ht
  have HF1 := Lib.hid (show ∀ W, Kq w W [(B, 26, [.bool false, S [], S []])] → W.cell? ⟨B, 0, none⟩ = some (.bool false) ∧ W.cell? ⟨B, 1, none⟩ = some (S []) ∧ W.cell? ⟨B, 2, none⟩ = some (S []) from fun W h => ⟨(h.row _ (.head _)).cell 0, (h.row _ (.head _)).cell 1, (h.row _ (.head _)).cell 2⟩)
  obtain ⟨cc0, cc1, cc2⟩ := HF1.out _ HK.out
  go_enter Tryz.func33, Tryz.ntmps33
  go_wp2_with fail
  refine (H1.out _).mono ?_
  rintro e w1 ⟨rfl, hC⟩
  have HK2 := Lib.hid (HK.out.on hC)
  clear cc0 cc1 cc2
  clear hC HK
  have HK := HK2
  clear HK2
  obtain ⟨cc0, cc1, cc2⟩ := HF1.out _ HK.out
  clear cc0 cc1 cc2
  have e0 := (HK.out.row _ (.head _)).cell 0
  have f0 := (HK.out.row _ (.head _)).frozen 0
  have e1 := (HK.out.row _ (.head _)).cell 1
  have f1 := (HK.out.row _ (.head _)).frozen 1
  have e2 := (HK.out.row _ (.head _)).cell 2
  have f2 := (HK.out.row _ (.head _)).frozen 2
  simp only [List.getElem?_cons_zero, List.getElem?_cons_succ] at e0 e1 e2
  go_wp2_with fail
  have hp := HK.out.put (g := B) (.head _) (by have := HBB.out; omega) (.bool false) (S []) (S [])
  refine bodyPost_ret (results_cell_row_tmp (P := Tryz.prog) rfl _ _ (B) 26 _ (0, 0) _ rfl hp.1 Tryz.underlying26 rfl (by kernel_rfl)) rfl ?_
  exact ⟨rfl, hp.2⟩
set_option maxRecDepth 100000 in
set_option maxHeartbeats 6400000 in
theorem rp_digits_pos {s : List UInt8} {n i j : Nat} {c0 c1 e : UInt8} {p mid : List UInt8} (hn : s.length = n) (h5 : 5 ≤ n) (h40 : n ≤ 40) (hi : (n : Int) - 2 = (i : Int)) (hj : (n : Int) - 3 = (j : Int)) (h0 : ∀ h', (ByteArray.mk s.toArray)[0]'h' = c0) (hc : (c0.toNat : Int) = 36) (hje : ∀ h', (ByteArray.mk s.toArray)[j]'h' = e) (he : (e.toNat : Int) = 46) (h1 : ∀ h', (ByteArray.mk s.toArray)[1]'h' = c1) (hc1 : ¬ (c1.toNat : Int) = 45) (hx : (ByteArray.mk s.toArray).extract 1 j = ⟨mid.toArray⟩) (hp : Ans 76 #[S mid] (.tuple #[S p, .bool false])) : AnsM 33 #[S s] (.tuple #[Rv false [] [], .bool false]) := fun w ht => by
  have q1 : ¬ (n : Int) < 5 := by omega
  have q2 : ¬ 40 < (n : Int) := by omega
  have q3 : (j : Int) < (n : Int) := by omega
  have q4 : (i : Int) < (n : Int) := by omega
  have q5 : 0 ≤ (j : Int) := by omega
  have q6 : 0 ≤ (i : Int) := by omega
  have q8 : (0 : Int) < (n : Int) := by omega
  have q9 : (1 : Int) < (n : Int) := by omega
  have y1 : (1 : Int) ≤ (j : Int) := by omega
  have y2 : (j : Int) ≤ (n : Int) := by omega
  have y3 : ((c1.toNat : Int) == 45) = false := beq_false_of_ne hc1
  have H1 := Lib.hid hp
  clear hp
  have HT := Lib.hid ht
  have HK := Lib.hid ((Kq.nil w).new #[.bool false, S [], S []] 26)
  obtain ⟨B, hB⟩ : ∃ B, w.heap.size = B := ⟨_, rfl⟩
  rw [hB] at HK
  have HBB := Lib.hid hB
  clear ht
  have HF1 := Lib.hid (show ∀ W, Kq w W [(B, 26, [.bool false, S [], S []])] → W.cell? ⟨B, 0, none⟩ = some (.bool false) ∧ W.cell? ⟨B, 1, none⟩ = some (S []) ∧ W.cell? ⟨B, 2, none⟩ = some (S []) from fun W h => ⟨(h.row _ (.head _)).cell 0, (h.row _ (.head _)).cell 1, (h.row _ (.head _)).cell 2⟩)
  obtain ⟨cc0, cc1, cc2⟩ := HF1.out _ HK.out
  go_enter Tryz.func33, Tryz.ntmps33
  go_wp2_with fail
  refine (H1.out _).mono ?_
  rintro e w1 ⟨rfl, hC⟩
  have HK2 := Lib.hid (HK.out.on hC)
  clear cc0 cc1 cc2
  clear hC HK
  have HK := HK2
  clear HK2
  obtain ⟨cc0, cc1, cc2⟩ := HF1.out _ HK.out
  clear cc0 cc1 cc2
  have e0 := (HK.out.row _ (.head _)).cell 0
  have f0 := (HK.out.row _ (.head _)).frozen 0
  have e1 := (HK.out.row _ (.head _)).cell 1
  have f1 := (HK.out.row _ (.head _)).frozen 1
  have e2 := (HK.out.row _ (.head _)).cell 2
  have f2 := (HK.out.row _ (.head _)).frozen 2
  simp only [List.getElem?_cons_zero, List.getElem?_cons_succ] at e0 e1 e2
  go_wp2_with fail
  have hp := HK.out.put (g := B) (.head _) (by have := HBB.out; omega) (.bool false) (S []) (S [])
  refine bodyPost_ret (results_cell_row_tmp (P := Tryz.prog) rfl _ _ (B) 26 _ (0, 0) _ rfl hp.1 Tryz.underlying26 rfl (by kernel_rfl)) rfl ?_
  exact ⟨rfl, hp.2⟩
set_option maxRecDepth 100000 in
set_option maxHeartbeats 6400000 in
theorem rp_last1_neg {s : List UInt8} {n i j k : Nat} {c0 c1 e d1 d2 : UInt8} {p mid : List UInt8} (hn : s.length = n) (h5 : 5 ≤ n) (h40 : n ≤ 40) (hi : (n : Int) - 2 = (i : Int)) (hj : (n : Int) - 3 = (j : Int)) (h0 : ∀ h', (ByteArray.mk s.toArray)[0]'h' = c0) (hc : (c0.toNat : Int) = 36) (hje : ∀ h', (ByteArray.mk s.toArray)[j]'h' = e) (he : (e.toNat : Int) = 46) (h1 : ∀ h', (ByteArray.mk s.toArray)[1]'h' = c1) (hc1 : (c1.toNat : Int) = 45) (hx : (ByteArray.mk s.toArray).extract 2 j = ⟨mid.toArray⟩) (hid : ∀ h', (ByteArray.mk s.toArray)[i]'h' = d1) (hke : (n : Int) - 1 = (k : Int)) (_ : ∀ h', (ByteArray.mk s.toArray)[k]'h' = d2) (hd1 : (d1.toNat : Int) < 48 ∨ 57 < (d1.toNat : Int)) (hp : Ans 76 #[S mid] (.tuple #[S p, .bool true])) : AnsM 33 #[S s] (.tuple #[Rv false [] [], .bool false]) := fun w ht => by
  have q1 : ¬ (n : Int) < 5 := by omega
  have q2 : ¬ 40 < (n : Int) := by omega
  have q3 : (j : Int) < (n : Int) := by omega
  have q4 : (i : Int) < (n : Int) := by omega
  have q5 : 0 ≤ (j : Int) := by omega
  have q6 : 0 ≤ (i : Int) := by omega
  have q8 : (0 : Int) < (n : Int) := by omega
  have q9 : (1 : Int) < (n : Int) := by omega
  have y1 : (2 : Int) ≤ (j : Int) := by omega
  have y2 : (j : Int) ≤ (n : Int) := by omega
  have y4 : (i : Int) + 1 = (k : Int) := by omega
  have y5 : (k : Int) < (n : Int) := by omega
  have H1 := Lib.hid hp
  clear hp
  rcases hd1 with hd1 | hd1
  · have HT := Lib.hid ht
    have HK := Lib.hid ((Kq.nil w).new #[.bool false, S [], S []] 26)
    obtain ⟨B, hB⟩ : ∃ B, w.heap.size = B := ⟨_, rfl⟩
    rw [hB] at HK
    have HBB := Lib.hid hB
    clear ht
    have HF1 := Lib.hid (show ∀ W, Kq w W [(B, 26, [.bool false, S [], S []])] → W.cell? ⟨B, 0, none⟩ = some (.bool false) ∧ W.cell? ⟨B, 1, none⟩ = some (S []) ∧ W.cell? ⟨B, 2, none⟩ = some (S []) from fun W h => ⟨(h.row _ (.head _)).cell 0, (h.row _ (.head _)).cell 1, (h.row _ (.head _)).cell 2⟩)
    obtain ⟨cc0, cc1, cc2⟩ := HF1.out _ HK.out
    go_enter Tryz.func33, Tryz.ntmps33
    go_wp2_with fail
    refine (H1.out _).mono ?_
    rintro e w1 ⟨rfl, hC⟩
    have HK2 := Lib.hid (HK.out.on hC)
    clear cc0 cc1 cc2
    clear hC HK
    have HK := HK2
    clear HK2
    obtain ⟨cc0, cc1, cc2⟩ := HF1.out _ HK.out
    go_wp2_with fail
    go_loop [8, 9] (fun c x => (x = .int .i64 i ∧ c = .int .i64 0)) (fun _ x => n - (intOf x).toNat)
    case atStart => exact ⟨rfl, rfl⟩
    case round =>
      obtain ⟨rfl, rfl⟩ := hrel
      clear cc0 cc1 cc2
      have e0 := (HK.out.row _ (.head _)).cell 0
      have f0 := (HK.out.row _ (.head _)).frozen 0
      have e1 := (HK.out.row _ (.head _)).cell 1
      have f1 := (HK.out.row _ (.head _)).frozen 1
      have e2 := (HK.out.row _ (.head _)).cell 2
      have f2 := (HK.out.row _ (.head _)).frozen 2
      simp only [List.getElem?_cons_zero, List.getElem?_cons_succ] at e0 e1 e2
      go_wp2_with fail
      have hp := HK.out.put (g := B) (.head _) (by have := HBB.out; omega) (.bool false) (S []) (S [])
      refine bodyPost_ret (results_cell_row_tmp (P := Tryz.prog) rfl _ _ (B) 26 _ (0, 0) _ rfl hp.1 Tryz.underlying26 rfl (by kernel_rfl)) rfl ?_
      exact ⟨rfl, hp.2⟩
  · have g0 : ¬ (d1.toNat : Int) < 48 := by omega
    have HT := Lib.hid ht
    have HK := Lib.hid ((Kq.nil w).new #[.bool false, S [], S []] 26)
    obtain ⟨B, hB⟩ : ∃ B, w.heap.size = B := ⟨_, rfl⟩
    rw [hB] at HK
    have HBB := Lib.hid hB
    clear ht
    have HF1 := Lib.hid (show ∀ W, Kq w W [(B, 26, [.bool false, S [], S []])] → W.cell? ⟨B, 0, none⟩ = some (.bool false) ∧ W.cell? ⟨B, 1, none⟩ = some (S []) ∧ W.cell? ⟨B, 2, none⟩ = some (S []) from fun W h => ⟨(h.row _ (.head _)).cell 0, (h.row _ (.head _)).cell 1, (h.row _ (.head _)).cell 2⟩)
    obtain ⟨cc0, cc1, cc2⟩ := HF1.out _ HK.out
    go_enter Tryz.func33, Tryz.ntmps33
    go_wp2_with fail
    refine (H1.out _).mono ?_
    rintro e w1 ⟨rfl, hC⟩
    have HK2 := Lib.hid (HK.out.on hC)
    clear cc0 cc1 cc2
    clear hC HK
    have HK := HK2
    clear HK2
    obtain ⟨cc0, cc1, cc2⟩ := HF1.out _ HK.out
    go_wp2_with fail
    go_loop [8, 9] (fun c x => (x = .int .i64 i ∧ c = .int .i64 0)) (fun _ x => n - (intOf x).toNat)
    case atStart => exact ⟨rfl, rfl⟩
    case round =>
      obtain ⟨rfl, rfl⟩ := hrel
      clear cc0 cc1 cc2
      have e0 := (HK.out.row _ (.head _)).cell 0
      have f0 := (HK.out.row _ (.head _)).frozen 0
      have e1 := (HK.out.row _ (.head _)).cell 1
      have f1 := (HK.out.row _ (.head _)).frozen 1
      have e2 := (HK.out.row _ (.head _)).cell 2
      have f2 := (HK.out.row _ (.head _)).frozen 2
      simp only [List.getElem?_cons_zero, List.getElem?_cons_succ] at e0 e1 e2
      go_wp2_with fail
      have hp := HK.out.put (g := B) (.head _) (by have := HBB.out; omega) (.bool false) (S []) (S [])
      refine bodyPost_ret (results_cell_row_tmp (P := Tryz.prog) rfl _ _ (B) 26 _ (0, 0) _ rfl hp.1 Tryz.underlying26 rfl (by kernel_rfl)) rfl ?_
      exact ⟨rfl, hp.2⟩
set_option maxRecDepth 100000 in
set_option maxHeartbeats 6400000 in
theorem rp_last2_neg {s : List UInt8} {n i j k : Nat} {c0 c1 e d1 d2 : UInt8} {p mid : List UInt8} {v1 : Int} (hn : s.length = n) (h5 : 5 ≤ n) (h40 : n ≤ 40) (hi : (n : Int) - 2 = (i : Int)) (hj : (n : Int) - 3 = (j : Int)) (h0 : ∀ h', (ByteArray.mk s.toArray)[0]'h' = c0) (hc : (c0.toNat : Int) = 36) (hje : ∀ h', (ByteArray.mk s.toArray)[j]'h' = e) (he : (e.toNat : Int) = 46) (h1 : ∀ h', (ByteArray.mk s.toArray)[1]'h' = c1) (hc1 : (c1.toNat : Int) = 45) (hx : (ByteArray.mk s.toArray).extract 2 j = ⟨mid.toArray⟩) (hid : ∀ h', (ByteArray.mk s.toArray)[i]'h' = d1) (hke : (n : Int) - 1 = (k : Int)) (hkd : ∀ h', (ByteArray.mk s.toArray)[k]'h' = d2) (ha1 : 48 ≤ (d1.toNat : Int)) (hb1 : (d1.toNat : Int) ≤ 57) (hv1 : (d1.toNat : Int) - 48 = v1) (hd2 : (d2.toNat : Int) < 48 ∨ 57 < (d2.toNat : Int)) (hp : Ans 76 #[S mid] (.tuple #[S p, .bool true])) : AnsM 33 #[S s] (.tuple #[Rv false [] [], .bool false]) := fun w ht => by
  have q1 : ¬ (n : Int) < 5 := by omega
  have q2 : ¬ 40 < (n : Int) := by omega
  have q3 : (j : Int) < (n : Int) := by omega
  have q4 : (i : Int) < (n : Int) := by omega
  have q5 : 0 ≤ (j : Int) := by omega
  have q6 : 0 ≤ (i : Int) := by omega
  have q8 : (0 : Int) < (n : Int) := by omega
  have q9 : (1 : Int) < (n : Int) := by omega
  have y1 : (2 : Int) ≤ (j : Int) := by omega
  have y2 : (j : Int) ≤ (n : Int) := by omega
  have y4 : (i : Int) + 1 = (k : Int) := by omega
  have y5 : (k : Int) < (n : Int) := by omega
  have H1 := Lib.hid hp
  clear hp
  have g1 : ¬ (d1.toNat : Int) < 48 := by omega
  have g2 : ¬ 57 < (d1.toNat : Int) := by omega
  rcases hd2 with hd2 | hd2
  · have HT := Lib.hid ht
    have HK := Lib.hid ((Kq.nil w).new #[.bool false, S [], S []] 26)
    obtain ⟨B, hB⟩ : ∃ B, w.heap.size = B := ⟨_, rfl⟩
    rw [hB] at HK
    have HBB := Lib.hid hB
    clear ht
    have HF1 := Lib.hid (show ∀ W, Kq w W [(B, 26, [.bool false, S [], S []])] → W.cell? ⟨B, 0, none⟩ = some (.bool false) ∧ W.cell? ⟨B, 1, none⟩ = some (S []) ∧ W.cell? ⟨B, 2, none⟩ = some (S []) from fun W h => ⟨(h.row _ (.head _)).cell 0, (h.row _ (.head _)).cell 1, (h.row _ (.head _)).cell 2⟩)
    obtain ⟨cc0, cc1, cc2⟩ := HF1.out _ HK.out
    go_enter Tryz.func33, Tryz.ntmps33
    go_wp2_with fail
    refine (H1.out _).mono ?_
    rintro e w1 ⟨rfl, hC⟩
    have HK2 := Lib.hid (HK.out.on hC)
    clear cc0 cc1 cc2
    clear hC HK
    have HK := HK2
    clear HK2
    obtain ⟨cc0, cc1, cc2⟩ := HF1.out _ HK.out
    go_wp2_with fail
    go_loop [8, 9] (fun c x => (x = .int .i64 i ∧ c = .int .i64 0) ∨ (x = .int .i64 k ∧ c = .int .i64 v1)) (fun _ x => n - (intOf x).toNat)
    case atStart => exact .inl ⟨rfl, rfl⟩
    case round =>
      obtain ⟨rfl, rfl⟩ | ⟨rfl, rfl⟩ := hrel
      · go_wp2_with fail
        go_round
        case rel => exact .inr ⟨by first | go_num | rfl, by first | go_num | rfl⟩
        case measure => simp [intOf]; omega
      · clear cc0 cc1 cc2
        have e0 := (HK.out.row _ (.head _)).cell 0
        have f0 := (HK.out.row _ (.head _)).frozen 0
        have e1 := (HK.out.row _ (.head _)).cell 1
        have f1 := (HK.out.row _ (.head _)).frozen 1
        have e2 := (HK.out.row _ (.head _)).cell 2
        have f2 := (HK.out.row _ (.head _)).frozen 2
        simp only [List.getElem?_cons_zero, List.getElem?_cons_succ] at e0 e1 e2
        go_wp2_with fail
        have hp := HK.out.put (g := B) (.head _) (by have := HBB.out; omega) (.bool false) (S []) (S [])
        refine bodyPost_ret (results_cell_row_tmp (P := Tryz.prog) rfl _ _ (B) 26 _ (0, 0) _ rfl hp.1 Tryz.underlying26 rfl (by kernel_rfl)) rfl ?_
        exact ⟨rfl, hp.2⟩
  · have g0 : ¬ (d2.toNat : Int) < 48 := by omega
    have HT := Lib.hid ht
    have HK := Lib.hid ((Kq.nil w).new #[.bool false, S [], S []] 26)
    obtain ⟨B, hB⟩ : ∃ B, w.heap.size = B := ⟨_, rfl⟩
    rw [hB] at HK
    have HBB := Lib.hid hB
    clear ht
    have HF1 := Lib.hid (show ∀ W, Kq w W [(B, 26, [.bool false, S [], S []])] → W.cell? ⟨B, 0, none⟩ = some (.bool false) ∧ W.cell? ⟨B, 1, none⟩ = some (S []) ∧ W.cell? ⟨B, 2, none⟩ = some (S []) from fun W h => ⟨(h.row _ (.head _)).cell 0, (h.row _ (.head _)).cell 1, (h.row _ (.head _)).cell 2⟩)
    obtain ⟨cc0, cc1, cc2⟩ := HF1.out _ HK.out
    go_enter Tryz.func33, Tryz.ntmps33
    go_wp2_with fail
    refine (H1.out _).mono ?_
    rintro e w1 ⟨rfl, hC⟩
    have HK2 := Lib.hid (HK.out.on hC)
    clear cc0 cc1 cc2
    clear hC HK
    have HK := HK2
    clear HK2
    obtain ⟨cc0, cc1, cc2⟩ := HF1.out _ HK.out
    go_wp2_with fail
    go_loop [8, 9] (fun c x => (x = .int .i64 i ∧ c = .int .i64 0) ∨ (x = .int .i64 k ∧ c = .int .i64 v1)) (fun _ x => n - (intOf x).toNat)
    case atStart => exact .inl ⟨rfl, rfl⟩
    case round =>
      obtain ⟨rfl, rfl⟩ | ⟨rfl, rfl⟩ := hrel
      · go_wp2_with fail
        go_round
        case rel => exact .inr ⟨by first | go_num | rfl, by first | go_num | rfl⟩
        case measure => simp [intOf]; omega
      · clear cc0 cc1 cc2
        have e0 := (HK.out.row _ (.head _)).cell 0
        have f0 := (HK.out.row _ (.head _)).frozen 0
        have e1 := (HK.out.row _ (.head _)).cell 1
        have f1 := (HK.out.row _ (.head _)).frozen 1
        have e2 := (HK.out.row _ (.head _)).cell 2
        have f2 := (HK.out.row _ (.head _)).frozen 2
        simp only [List.getElem?_cons_zero, List.getElem?_cons_succ] at e0 e1 e2
        go_wp2_with fail
        have hp := HK.out.put (g := B) (.head _) (by have := HBB.out; omega) (.bool false) (S []) (S [])
        refine bodyPost_ret (results_cell_row_tmp (P := Tryz.prog) rfl _ _ (B) 26 _ (0, 0) _ rfl hp.1 Tryz.underlying26 rfl (by kernel_rfl)) rfl ?_
        exact ⟨rfl, hp.2⟩
set_option maxRecDepth 100000 in
set_option maxHeartbeats 6400000 in
theorem rp_last1_pos {s : List UInt8} {n i j k : Nat} {c0 c1 e d1 d2 : UInt8} {p mid : List UInt8} (hn : s.length = n) (h5 : 5 ≤ n) (h40 : n ≤ 40) (hi : (n : Int) - 2 = (i : Int)) (hj : (n : Int) - 3 = (j : Int)) (h0 : ∀ h', (ByteArray.mk s.toArray)[0]'h' = c0) (hc : (c0.toNat : Int) = 36) (hje : ∀ h', (ByteArray.mk s.toArray)[j]'h' = e) (he : (e.toNat : Int) = 46) (h1 : ∀ h', (ByteArray.mk s.toArray)[1]'h' = c1) (hc1 : ¬ (c1.toNat : Int) = 45) (hx : (ByteArray.mk s.toArray).extract 1 j = ⟨mid.toArray⟩) (hid : ∀ h', (ByteArray.mk s.toArray)[i]'h' = d1) (hke : (n : Int) - 1 = (k : Int)) (_ : ∀ h', (ByteArray.mk s.toArray)[k]'h' = d2) (hd1 : (d1.toNat : Int) < 48 ∨ 57 < (d1.toNat : Int)) (hp : Ans 76 #[S mid] (.tuple #[S p, .bool true])) : AnsM 33 #[S s] (.tuple #[Rv false [] [], .bool false]) := fun w ht => by
  have q1 : ¬ (n : Int) < 5 := by omega
  have q2 : ¬ 40 < (n : Int) := by omega
  have q3 : (j : Int) < (n : Int) := by omega
  have q4 : (i : Int) < (n : Int) := by omega
  have q5 : 0 ≤ (j : Int) := by omega
  have q6 : 0 ≤ (i : Int) := by omega
  have q8 : (0 : Int) < (n : Int) := by omega
  have q9 : (1 : Int) < (n : Int) := by omega
  have y1 : (1 : Int) ≤ (j : Int) := by omega
  have y2 : (j : Int) ≤ (n : Int) := by omega
  have y3 : ((c1.toNat : Int) == 45) = false := beq_false_of_ne hc1
  have y4 : (i : Int) + 1 = (k : Int) := by omega
  have y5 : (k : Int) < (n : Int) := by omega
  have H1 := Lib.hid hp
  clear hp
  rcases hd1 with hd1 | hd1
  · have HT := Lib.hid ht
    have HK := Lib.hid ((Kq.nil w).new #[.bool false, S [], S []] 26)
    obtain ⟨B, hB⟩ : ∃ B, w.heap.size = B := ⟨_, rfl⟩
    rw [hB] at HK
    have HBB := Lib.hid hB
    clear ht
    have HF1 := Lib.hid (show ∀ W, Kq w W [(B, 26, [.bool false, S [], S []])] → W.cell? ⟨B, 0, none⟩ = some (.bool false) ∧ W.cell? ⟨B, 1, none⟩ = some (S []) ∧ W.cell? ⟨B, 2, none⟩ = some (S []) from fun W h => ⟨(h.row _ (.head _)).cell 0, (h.row _ (.head _)).cell 1, (h.row _ (.head _)).cell 2⟩)
    obtain ⟨cc0, cc1, cc2⟩ := HF1.out _ HK.out
    go_enter Tryz.func33, Tryz.ntmps33
    go_wp2_with fail
    refine (H1.out _).mono ?_
    rintro e w1 ⟨rfl, hC⟩
    have HK2 := Lib.hid (HK.out.on hC)
    clear cc0 cc1 cc2
    clear hC HK
    have HK := HK2
    clear HK2
    obtain ⟨cc0, cc1, cc2⟩ := HF1.out _ HK.out
    go_wp2_with fail
    go_loop [8, 9] (fun c x => (x = .int .i64 i ∧ c = .int .i64 0)) (fun _ x => n - (intOf x).toNat)
    case atStart => exact ⟨rfl, rfl⟩
    case round =>
      obtain ⟨rfl, rfl⟩ := hrel
      clear cc0 cc1 cc2
      have e0 := (HK.out.row _ (.head _)).cell 0
      have f0 := (HK.out.row _ (.head _)).frozen 0
      have e1 := (HK.out.row _ (.head _)).cell 1
      have f1 := (HK.out.row _ (.head _)).frozen 1
      have e2 := (HK.out.row _ (.head _)).cell 2
      have f2 := (HK.out.row _ (.head _)).frozen 2
      simp only [List.getElem?_cons_zero, List.getElem?_cons_succ] at e0 e1 e2
      go_wp2_with fail
      have hp := HK.out.put (g := B) (.head _) (by have := HBB.out; omega) (.bool false) (S []) (S [])
      refine bodyPost_ret (results_cell_row_tmp (P := Tryz.prog) rfl _ _ (B) 26 _ (0, 0) _ rfl hp.1 Tryz.underlying26 rfl (by kernel_rfl)) rfl ?_
      exact ⟨rfl, hp.2⟩
  · have g0 : ¬ (d1.toNat : Int) < 48 := by omega
    have HT := Lib.hid ht
    have HK := Lib.hid ((Kq.nil w).new #[.bool false, S [], S []] 26)
    obtain ⟨B, hB⟩ : ∃ B, w.heap.size = B := ⟨_, rfl⟩
    rw [hB] at HK
    have HBB := Lib.hid hB
    clear ht
    have HF1 := Lib.hid (show ∀ W, Kq w W [(B, 26, [.bool false, S [], S []])] → W.cell? ⟨B, 0, none⟩ = some (.bool false) ∧ W.cell? ⟨B, 1, none⟩ = some (S []) ∧ W.cell? ⟨B, 2, none⟩ = some (S []) from fun W h => ⟨(h.row _ (.head _)).cell 0, (h.row _ (.head _)).cell 1, (h.row _ (.head _)).cell 2⟩)
    obtain ⟨cc0, cc1, cc2⟩ := HF1.out _ HK.out
    go_enter Tryz.func33, Tryz.ntmps33
    go_wp2_with fail
    refine (H1.out _).mono ?_
    rintro e w1 ⟨rfl, hC⟩
    have HK2 := Lib.hid (HK.out.on hC)
    clear cc0 cc1 cc2
    clear hC HK
    have HK := HK2
    clear HK2
    obtain ⟨cc0, cc1, cc2⟩ := HF1.out _ HK.out
    go_wp2_with fail
    go_loop [8, 9] (fun c x => (x = .int .i64 i ∧ c = .int .i64 0)) (fun _ x => n - (intOf x).toNat)
    case atStart => exact ⟨rfl, rfl⟩
    case round =>
      obtain ⟨rfl, rfl⟩ := hrel
      clear cc0 cc1 cc2
      have e0 := (HK.out.row _ (.head _)).cell 0
      have f0 := (HK.out.row _ (.head _)).frozen 0
      have e1 := (HK.out.row _ (.head _)).cell 1
      have f1 := (HK.out.row _ (.head _)).frozen 1
      have e2 := (HK.out.row _ (.head _)).cell 2
      have f2 := (HK.out.row _ (.head _)).frozen 2
      simp only [List.getElem?_cons_zero, List.getElem?_cons_succ] at e0 e1 e2
      go_wp2_with fail
      have hp := HK.out.put (g := B) (.head _) (by have := HBB.out; omega) (.bool false) (S []) (S [])
      refine bodyPost_ret (results_cell_row_tmp (P := Tryz.prog) rfl _ _ (B) 26 _ (0, 0) _ rfl hp.1 Tryz.underlying26 rfl (by kernel_rfl)) rfl ?_
      exact ⟨rfl, hp.2⟩
set_option maxRecDepth 100000 in
set_option maxHeartbeats 6400000 in
theorem rp_last2_pos {s : List UInt8} {n i j k : Nat} {c0 c1 e d1 d2 : UInt8} {p mid : List UInt8} {v1 : Int} (hn : s.length = n) (h5 : 5 ≤ n) (h40 : n ≤ 40) (hi : (n : Int) - 2 = (i : Int)) (hj : (n : Int) - 3 = (j : Int)) (h0 : ∀ h', (ByteArray.mk s.toArray)[0]'h' = c0) (hc : (c0.toNat : Int) = 36) (hje : ∀ h', (ByteArray.mk s.toArray)[j]'h' = e) (he : (e.toNat : Int) = 46) (h1 : ∀ h', (ByteArray.mk s.toArray)[1]'h' = c1) (hc1 : ¬ (c1.toNat : Int) = 45) (hx : (ByteArray.mk s.toArray).extract 1 j = ⟨mid.toArray⟩) (hid : ∀ h', (ByteArray.mk s.toArray)[i]'h' = d1) (hke : (n : Int) - 1 = (k : Int)) (hkd : ∀ h', (ByteArray.mk s.toArray)[k]'h' = d2) (ha1 : 48 ≤ (d1.toNat : Int)) (hb1 : (d1.toNat : Int) ≤ 57) (hv1 : (d1.toNat : Int) - 48 = v1) (hd2 : (d2.toNat : Int) < 48 ∨ 57 < (d2.toNat : Int)) (hp : Ans 76 #[S mid] (.tuple #[S p, .bool true])) : AnsM 33 #[S s] (.tuple #[Rv false [] [], .bool false]) := fun w ht => by
  have q1 : ¬ (n : Int) < 5 := by omega
  have q2 : ¬ 40 < (n : Int) := by omega
  have q3 : (j : Int) < (n : Int) := by omega
  have q4 : (i : Int) < (n : Int) := by omega
  have q5 : 0 ≤ (j : Int) := by omega
  have q6 : 0 ≤ (i : Int) := by omega
  have q8 : (0 : Int) < (n : Int) := by omega
  have q9 : (1 : Int) < (n : Int) := by omega
  have y1 : (1 : Int) ≤ (j : Int) := by omega
  have y2 : (j : Int) ≤ (n : Int) := by omega
  have y3 : ((c1.toNat : Int) == 45) = false := beq_false_of_ne hc1
  have y4 : (i : Int) + 1 = (k : Int) := by omega
  have y5 : (k : Int) < (n : Int) := by omega
  have H1 := Lib.hid hp
  clear hp
  have g1 : ¬ (d1.toNat : Int) < 48 := by omega
  have g2 : ¬ 57 < (d1.toNat : Int) := by omega
  rcases hd2 with hd2 | hd2
  · have HT := Lib.hid ht
    have HK := Lib.hid ((Kq.nil w).new #[.bool false, S [], S []] 26)
    obtain ⟨B, hB⟩ : ∃ B, w.heap.size = B := ⟨_, rfl⟩
    rw [hB] at HK
    have HBB := Lib.hid hB
    clear ht
    have HF1 := Lib.hid (show ∀ W, Kq w W [(B, 26, [.bool false, S [], S []])] → W.cell? ⟨B, 0, none⟩ = some (.bool false) ∧ W.cell? ⟨B, 1, none⟩ = some (S []) ∧ W.cell? ⟨B, 2, none⟩ = some (S []) from fun W h => ⟨(h.row _ (.head _)).cell 0, (h.row _ (.head _)).cell 1, (h.row _ (.head _)).cell 2⟩)
    obtain ⟨cc0, cc1, cc2⟩ := HF1.out _ HK.out
    go_enter Tryz.func33, Tryz.ntmps33
    go_wp2_with fail
    refine (H1.out _).mono ?_
    rintro e w1 ⟨rfl, hC⟩
    have HK2 := Lib.hid (HK.out.on hC)
    clear cc0 cc1 cc2
    clear hC HK
    have HK := HK2
    clear HK2
    obtain ⟨cc0, cc1, cc2⟩ := HF1.out _ HK.out
    go_wp2_with fail
    go_loop [8, 9] (fun c x => (x = .int .i64 i ∧ c = .int .i64 0) ∨ (x = .int .i64 k ∧ c = .int .i64 v1)) (fun _ x => n - (intOf x).toNat)
    case atStart => exact .inl ⟨rfl, rfl⟩
    case round =>
      obtain ⟨rfl, rfl⟩ | ⟨rfl, rfl⟩ := hrel
      · go_wp2_with fail
        go_round
        case rel => exact .inr ⟨by first | go_num | rfl, by first | go_num | rfl⟩
        case measure => simp [intOf]; omega
      · clear cc0 cc1 cc2
        have e0 := (HK.out.row _ (.head _)).cell 0
        have f0 := (HK.out.row _ (.head _)).frozen 0
        have e1 := (HK.out.row _ (.head _)).cell 1
        have f1 := (HK.out.row _ (.head _)).frozen 1
        have e2 := (HK.out.row _ (.head _)).cell 2
        have f2 := (HK.out.row _ (.head _)).frozen 2
        simp only [List.getElem?_cons_zero, List.getElem?_cons_succ] at e0 e1 e2
        go_wp2_with fail
        have hp := HK.out.put (g := B) (.head _) (by have := HBB.out; omega) (.bool false) (S []) (S [])
        refine bodyPost_ret (results_cell_row_tmp (P := Tryz.prog) rfl _ _ (B) 26 _ (0, 0) _ rfl hp.1 Tryz.underlying26 rfl (by kernel_rfl)) rfl ?_
        exact ⟨rfl, hp.2⟩
  · have g0 : ¬ (d2.toNat : Int) < 48 := by omega
    have HT := Lib.hid ht
    have HK := Lib.hid ((Kq.nil w).new #[.bool false, S [], S []] 26)
    obtain ⟨B, hB⟩ : ∃ B, w.heap.size = B := ⟨_, rfl⟩
    rw [hB] at HK
    have HBB := Lib.hid hB
    clear ht
    have HF1 := Lib.hid (show ∀ W, Kq w W [(B, 26, [.bool false, S [], S []])] → W.cell? ⟨B, 0, none⟩ = some (.bool false) ∧ W.cell? ⟨B, 1, none⟩ = some (S []) ∧ W.cell? ⟨B, 2, none⟩ = some (S []) from fun W h => ⟨(h.row _ (.head _)).cell 0, (h.row _ (.head _)).cell 1, (h.row _ (.head _)).cell 2⟩)
    obtain ⟨cc0, cc1, cc2⟩ := HF1.out _ HK.out
    go_enter Tryz.func33, Tryz.ntmps33
    go_wp2_with fail
    refine (H1.out _).mono ?_
    rintro e w1 ⟨rfl, hC⟩
    have HK2 := Lib.hid (HK.out.on hC)
    clear cc0 cc1 cc2
    clear hC HK
    have HK := HK2
    clear HK2
    obtain ⟨cc0, cc1, cc2⟩ := HF1.out _ HK.out
    go_wp2_with fail
    go_loop [8, 9] (fun c x => (x = .int .i64 i ∧ c = .int .i64 0) ∨ (x = .int .i64 k ∧ c = .int .i64 v1)) (fun _ x => n - (intOf x).toNat)
    case atStart => exact .inl ⟨rfl, rfl⟩
    case round =>
      obtain ⟨rfl, rfl⟩ | ⟨rfl, rfl⟩ := hrel
      · go_wp2_with fail
        go_round
        case rel => exact .inr ⟨by first | go_num | rfl, by first | go_num | rfl⟩
        case measure => simp [intOf]; omega
      · clear cc0 cc1 cc2
        have e0 := (HK.out.row _ (.head _)).cell 0
        have f0 := (HK.out.row _ (.head _)).frozen 0
        have e1 := (HK.out.row _ (.head _)).cell 1
        have f1 := (HK.out.row _ (.head _)).frozen 1
        have e2 := (HK.out.row _ (.head _)).cell 2
        have f2 := (HK.out.row _ (.head _)).frozen 2
        simp only [List.getElem?_cons_zero, List.getElem?_cons_succ] at e0 e1 e2
        go_wp2_with fail
        have hp := HK.out.put (g := B) (.head _) (by have := HBB.out; omega) (.bool false) (S []) (S [])
        refine bodyPost_ret (results_cell_row_tmp (P := Tryz.prog) rfl _ _ (B) 26 _ (0, 0) _ rfl hp.1 Tryz.underlying26 rfl (by kernel_rfl)) rfl ?_
        exact ⟨rfl, hp.2⟩
set_option maxRecDepth 100000 in
set_option maxHeartbeats 6400000 in
theorem rp_good_neg {s : List UInt8} {n i j k : Nat} {c0 c1 e d1 d2 : UInt8} {p mid p1 p2 p3 m f m2 f2 x : List UInt8} {v1 v2 : Int} {r b r2 b2 : Bool} (hn : s.length = n) (h5 : 5 ≤ n) (h40 : n ≤ 40) (hi : (n : Int) - 2 = (i : Int)) (hj : (n : Int) - 3 = (j : Int)) (h0 : ∀ h', (ByteArray.mk s.toArray)[0]'h' = c0) (hc : (c0.toNat : Int) = 36) (hje : ∀ h', (ByteArray.mk s.toArray)[j]'h' = e) (he : (e.toNat : Int) = 46) (h1 : ∀ h', (ByteArray.mk s.toArray)[1]'h' = c1) (hc1 : (c1.toNat : Int) = 45) (hx : (ByteArray.mk s.toArray).extract 2 j = ⟨mid.toArray⟩) (hid : ∀ h', (ByteArray.mk s.toArray)[i]'h' = d1) (hke : (n : Int) - 1 = (k : Int)) (hkd : ∀ h', (ByteArray.mk s.toArray)[k]'h' = d2) (ha1 : 48 ≤ (d1.toNat : Int)) (hb1 : (d1.toNat : Int) ≤ 57) (hv1 : (d1.toNat : Int) - 48 = v1) (ha2 : 48 ≤ (d2.toNat : Int)) (hb2 : (d2.toNat : Int) ≤ 57) (hv2 : 10 * v1 + ((d2.toNat : Int) - 48) = v2) (hH1 : Ans 76 #[S mid] (.tuple #[S p, .bool true])) (hH2 : Ans 40 #[.int .i64 100] (S [100])) (hH3 : Ans 42 #[S p, S [100]] (S p1)) (hH4 : Ans 40 #[.int .i64 v2] (S p2)) (hH5 : Ans 53 #[S p1, S p2] (S p3)) (hH6 : Ans 77 #[.bool true, S p3, S [100]] (.tuple #[Rv r m f, .bool true])) (hH7 : AnsM 50 #[Rv r m f] (.tuple #[S x, .bool b])) (hHDD : (b = false ∧ b2 = false ∧ r2 = false ∧ m2 = [] ∧ f2 = []) ∨ (b = true ∧ x ≠ s ∧ b2 = false ∧ r2 = false ∧ m2 = [] ∧ f2 = []) ∨ (b = true ∧ x = s ∧ b2 = true ∧ r2 = r ∧ m2 = m ∧ f2 = f)) : AnsM 33 #[S s] (.tuple #[Rv r2 m2 f2, .bool b2]) := fun w ht => by
  have q1 : ¬ (n : Int) < 5 := by omega
  have q2 : ¬ 40 < (n : Int) := by omega
  have q3 : (j : Int) < (n : Int) := by omega
  have q4 : (i : Int) < (n : Int) := by omega
  have q5 : 0 ≤ (j : Int) := by omega
  have q6 : 0 ≤ (i : Int) := by omega
  have q8 : (0 : Int) < (n : Int) := by omega
  have q9 : (1 : Int) < (n : Int) := by omega
  have y1 : (2 : Int) ≤ (j : Int) := by omega
  have y2 : (j : Int) ≤ (n : Int) := by omega
  have y4 : (i : Int) + 1 = (k : Int) := by omega
  have y5 : (k : Int) < (n : Int) := by omega
  have y6 : (k : Int) + 1 = (n : Int) := by omega
  have g0 : ¬ (d1.toNat : Int) < 48 := by omega
  have g1 : ¬ 57 < (d1.toNat : Int) := by omega
  have g2 : ¬ (d2.toNat : Int) < 48 := by omega
  have g3 : ¬ 57 < (d2.toNat : Int) := by omega
  have g4 : 0 ≤ v1 := by omega
  have g5 : v1 ≤ 9 := by omega
  have H1 := Lib.hid hH1
  have H2 := Lib.hid hH2
  have H3 := Lib.hid hH3
  have H4 := Lib.hid hH4
  have H5 := Lib.hid hH5
  have H6 := Lib.hid hH6
  have H7 := Lib.hid hH7
  have HDD := Lib.hid hHDD
  clear hH1 hH2 hH3 hH4 hH5 hH6 hH7 hHDD
  have HT := Lib.hid ht
  have HK := Lib.hid ((Kq.nil w).new #[.bool false, S [], S []] 26)
  obtain ⟨B, hB⟩ : ∃ B, w.heap.size = B := ⟨_, rfl⟩
  rw [hB] at HK
  have HBB := Lib.hid hB
  clear ht
  have HF1 := Lib.hid (show ∀ W, Kq w W [(B, 26, [.bool false, S [], S []])] → W.cell? ⟨B, 0, none⟩ = some (.bool false) ∧ W.cell? ⟨B, 1, none⟩ = some (S []) ∧ W.cell? ⟨B, 2, none⟩ = some (S []) from fun W h => ⟨(h.row _ (.head _)).cell 0, (h.row _ (.head _)).cell 1, (h.row _ (.head _)).cell 2⟩)
  obtain ⟨cc0, cc1, cc2⟩ := HF1.out _ HK.out
  go_enter Tryz.func33, Tryz.ntmps33
  go_wp2_with fail
  refine (H1.out _).mono ?_
  rintro e w1 ⟨rfl, hC⟩
  have HK2 := Lib.hid (HK.out.on hC)
  clear cc0 cc1 cc2
  clear hC HK
  have HK := HK2
  clear HK2
  obtain ⟨cc0, cc1, cc2⟩ := HF1.out _ HK.out
  go_wp2_with fail
  go_loop [8, 9] (fun c x => (x = .int .i64 i ∧ c = .int .i64 0) ∨ (x = .int .i64 k ∧ c = .int .i64 v1) ∨ (x = .int .i64 n ∧ c = .int .i64 v2)) (fun _ x => n - (intOf x).toNat)
  case atStart => exact .inl ⟨rfl, rfl⟩
  case round =>
    obtain ⟨rfl, rfl⟩ | ⟨rfl, rfl⟩ | ⟨rfl, rfl⟩ := hrel
    · go_wp2_with fail
      go_round
      case rel => exact .inr (.inl ⟨by first | go_num | rfl, by first | go_num | rfl⟩)
      case measure => simp [intOf]; omega
    · go_wp2_with fail
      go_round
      case rel => exact .inr (.inr ⟨by first | go_num | rfl, by first | go_num | rfl⟩)
      case measure => simp [intOf]; omega
    · go_wp2_with fail
      refine (H2.out _).mono ?_
      rintro e w2 ⟨rfl, hC⟩
      have HK2 := Lib.hid (HK.out.on hC)
      clear cc0 cc1 cc2
      clear hC HK
      have HK := HK2
      clear HK2
      obtain ⟨cc0, cc1, cc2⟩ := HF1.out _ HK.out
      go_wp2_with fail
      refine (H3.out _).mono ?_
      rintro e w3 ⟨rfl, hC⟩
      have HK2 := Lib.hid (HK.out.on hC)
      clear cc0 cc1 cc2
      clear hC HK
      have HK := HK2
      clear HK2
      obtain ⟨cc0, cc1, cc2⟩ := HF1.out _ HK.out
      go_wp2_with fail
      refine (H4.out _).mono ?_
      rintro e w4 ⟨rfl, hC⟩
      have HK2 := Lib.hid (HK.out.on hC)
      clear cc0 cc1 cc2
      clear hC HK
      have HK := HK2
      clear HK2
      obtain ⟨cc0, cc1, cc2⟩ := HF1.out _ HK.out
      go_wp2_with fail
      refine (H5.out _).mono ?_
      rintro e w5 ⟨rfl, hC⟩
      have HK2 := Lib.hid (HK.out.on hC)
      clear cc0 cc1 cc2
      clear hC HK
      have HK := HK2
      clear HK2
      obtain ⟨cc0, cc1, cc2⟩ := HF1.out _ HK.out
      go_wp2_with fail
      refine (H2.out _).mono ?_
      rintro e w6 ⟨rfl, hC⟩
      have HK2 := Lib.hid (HK.out.on hC)
      clear cc0 cc1 cc2
      clear hC HK
      have HK := HK2
      clear HK2
      obtain ⟨cc0, cc1, cc2⟩ := HF1.out _ HK.out
      go_wp2_with fail
      refine (H6.out _).mono ?_
      rintro e w7 ⟨rfl, hC⟩
      have HK2 := Lib.hid (HK.out.on hC)
      clear cc0 cc1 cc2
      clear hC HK
      have HK := HK2
      clear HK2
      obtain ⟨cc0, cc1, cc2⟩ := HF1.out _ HK.out
      obtain ⟨dd0, dd1, dd2⟩ : (∀ o : Obj, (w7.alloc o).cell? ⟨B, 0, none⟩ = some (.bool false)) ∧ (∀ o : Obj, (w7.alloc o).cell? ⟨B, 1, none⟩ = some (S [])) ∧ (∀ o : Obj, (w7.alloc o).cell? ⟨B, 2, none⟩ = some (S [])) := by
        have hall := fun o : Obj => HF1.out _ (HK.out.other o)
        exact ⟨fun o => (hall o).1, fun o => (hall o).2.1, fun o => (hall o).2.2⟩
      go_wp2_with fail
      clear cc0 cc1 cc2 dd0 dd1 dd2
      have HK2 := Lib.hid (HK.out.new #[.bool r, S m, S f] 26)
      obtain ⟨w8, hW⟩ : ∃ W, w7.alloc (.cells #[.bool r, S m, S f] 26 (0, 0)) = W := ⟨_, rfl⟩
      rw [hW] at HK2 ⊢
      obtain ⟨Qa, hA⟩ : ∃ A, w7.heap.size = A := ⟨_, rfl⟩
      rw [hA] at HK2 ⊢
      clear hA hW HK
      have HK := HK2
      clear HK2
      have HF2 := Lib.hid (show ∀ W, Kq w W [(Qa, 26, [.bool r, S m, S f]), (B, 26, [.bool false, S [], S []])] → W.cell? ⟨Qa, 0, none⟩ = some (.bool r) ∧ W.cell? ⟨Qa, 1, none⟩ = some (S m) ∧ W.cell? ⟨Qa, 2, none⟩ = some (S f) ∧ W.cell? ⟨B, 0, none⟩ = some (.bool false) ∧ W.cell? ⟨B, 1, none⟩ = some (S []) ∧ W.cell? ⟨B, 2, none⟩ = some (S []) from fun W h => ⟨(h.row _ (.head _)).cell 0, (h.row _ (.head _)).cell 1, (h.row _ (.head _)).cell 2, (h.row _ (.tail _ (.head _))).cell 0, (h.row _ (.tail _ (.head _))).cell 1, (h.row _ (.tail _ (.head _))).cell 2⟩)
      obtain ⟨cc0, cc1, cc2, cc3, cc4, cc5⟩ := HF2.out _ HK.out
      refine (H7.out _ (HT.out.ch HK.out.ch)).mono ?_
      rintro e w9 ⟨rfl, hC⟩
      have HK2 := Lib.hid (HK.out.on hC)
      clear cc0 cc1 cc2 cc3 cc4 cc5
      clear hC HK
      have HK := HK2
      clear HK2
      obtain ⟨cc0, cc1, cc2, cc3, cc4, cc5⟩ := HF2.out _ HK.out
      rcases HDD.out with ⟨rfl, rfl, rfl, rfl, rfl⟩ | ⟨rfl, hne, rfl, rfl, rfl, rfl⟩ | ⟨rfl, rfl, rfl, rfl, rfl, rfl⟩
      · have f0 := (HK.out.row _ (.tail _ (.head _))).frozen 0
        have f1 := (HK.out.row _ (.tail _ (.head _))).frozen 1
        have f2 := (HK.out.row _ (.tail _ (.head _))).frozen 2
        go_wp2_with fail
        clear f0 f1 f2
        have hp := HK.out.put (g := B) (.tail _ (.head _)) (by have := HBB.out; omega) (.bool false) (S []) (S [])
        refine bodyPost_ret (results_cell_row_tmp (P := Tryz.prog) rfl _ _ (B) 26 _ (0, 0) _ rfl hp.1 Tryz.underlying26 rfl (by kernel_rfl)) rfl ?_
        exact ⟨rfl, hp.2⟩
      · have hne1 : (x == s) = false := beq_no hne
        have hne2 : ¬ x.toArray = s.toArray := fun q => hne (by simpa using q)
        have f0 := (HK.out.row _ (.tail _ (.head _))).frozen 0
        have f1 := (HK.out.row _ (.tail _ (.head _))).frozen 1
        have f2 := (HK.out.row _ (.tail _ (.head _))).frozen 2
        go_wp2_with fail
        clear f0 f1 f2
        have hp := HK.out.put (g := B) (.tail _ (.head _)) (by have := HBB.out; omega) (.bool false) (S []) (S [])
        refine bodyPost_ret (results_cell_row_tmp (P := Tryz.prog) rfl _ _ (B) 26 _ (0, 0) _ rfl hp.1 Tryz.underlying26 rfl (by kernel_rfl)) rfl ?_
        exact ⟨rfl, hp.2⟩
      · have f0 := (HK.out.row _ (.tail _ (.head _))).frozen 0
        have f1 := (HK.out.row _ (.tail _ (.head _))).frozen 1
        have f2 := (HK.out.row _ (.tail _ (.head _))).frozen 2
        go_wp2_with fail
        clear f0 f1 f2
        have hp := HK.out.put (g := B) (.tail _ (.head _)) (by have := HBB.out; omega) (.bool r2) (S m2) (S f2)
        refine bodyPost_ret (results_cell_row_tmp (P := Tryz.prog) rfl _ _ (B) 26 _ (0, 0) _ rfl hp.1 Tryz.underlying26 rfl (by kernel_rfl)) rfl ?_
        exact ⟨rfl, hp.2⟩
set_option maxRecDepth 100000 in
set_option maxHeartbeats 6400000 in
theorem rp_good_pos {s : List UInt8} {n i j k : Nat} {c0 c1 e d1 d2 : UInt8} {p mid p1 p2 p3 m f m2 f2 x : List UInt8} {v1 v2 : Int} {r b r2 b2 : Bool} (hn : s.length = n) (h5 : 5 ≤ n) (h40 : n ≤ 40) (hi : (n : Int) - 2 = (i : Int)) (hj : (n : Int) - 3 = (j : Int)) (h0 : ∀ h', (ByteArray.mk s.toArray)[0]'h' = c0) (hc : (c0.toNat : Int) = 36) (hje : ∀ h', (ByteArray.mk s.toArray)[j]'h' = e) (he : (e.toNat : Int) = 46) (h1 : ∀ h', (ByteArray.mk s.toArray)[1]'h' = c1) (hc1 : ¬ (c1.toNat : Int) = 45) (hx : (ByteArray.mk s.toArray).extract 1 j = ⟨mid.toArray⟩) (hid : ∀ h', (ByteArray.mk s.toArray)[i]'h' = d1) (hke : (n : Int) - 1 = (k : Int)) (hkd : ∀ h', (ByteArray.mk s.toArray)[k]'h' = d2) (ha1 : 48 ≤ (d1.toNat : Int)) (hb1 : (d1.toNat : Int) ≤ 57) (hv1 : (d1.toNat : Int) - 48 = v1) (ha2 : 48 ≤ (d2.toNat : Int)) (hb2 : (d2.toNat : Int) ≤ 57) (hv2 : 10 * v1 + ((d2.toNat : Int) - 48) = v2) (hH1 : Ans 76 #[S mid] (.tuple #[S p, .bool true])) (hH2 : Ans 40 #[.int .i64 100] (S [100])) (hH3 : Ans 42 #[S p, S [100]] (S p1)) (hH4 : Ans 40 #[.int .i64 v2] (S p2)) (hH5 : Ans 53 #[S p1, S p2] (S p3)) (hH6 : Ans 77 #[.bool false, S p3, S [100]] (.tuple #[Rv r m f, .bool true])) (hH7 : AnsM 50 #[Rv r m f] (.tuple #[S x, .bool b])) (hHDD : (b = false ∧ b2 = false ∧ r2 = false ∧ m2 = [] ∧ f2 = []) ∨ (b = true ∧ x ≠ s ∧ b2 = false ∧ r2 = false ∧ m2 = [] ∧ f2 = []) ∨ (b = true ∧ x = s ∧ b2 = true ∧ r2 = r ∧ m2 = m ∧ f2 = f)) : AnsM 33 #[S s] (.tuple #[Rv r2 m2 f2, .bool b2]) := fun w ht => by
  have q1 : ¬ (n : Int) < 5 := by omega
  have q2 : ¬ 40 < (n : Int) := by omega
  have q3 : (j : Int) < (n : Int) := by omega
  have q4 : (i : Int) < (n : Int) := by omega
  have q5 : 0 ≤ (j : Int) := by omega
  have q6 : 0 ≤ (i : Int) := by omega
  have q8 : (0 : Int) < (n : Int) := by omega
  have q9 : (1 : Int) < (n : Int) := by omega
  have y1 : (1 : Int) ≤ (j : Int) := by omega
  have y2 : (j : Int) ≤ (n : Int) := by omega
  have y3 : ((c1.toNat : Int) == 45) = false := beq_false_of_ne hc1
  have y4 : (i : Int) + 1 = (k : Int) := by omega
  have y5 : (k : Int) < (n : Int) := by omega
  have y6 : (k : Int) + 1 = (n : Int) := by omega
  have g0 : ¬ (d1.toNat : Int) < 48 := by omega
  have g1 : ¬ 57 < (d1.toNat : Int) := by omega
  have g2 : ¬ (d2.toNat : Int) < 48 := by omega
  have g3 : ¬ 57 < (d2.toNat : Int) := by omega
  have g4 : 0 ≤ v1 := by omega
  have g5 : v1 ≤ 9 := by omega
  have H1 := Lib.hid hH1
  have H2 := Lib.hid hH2
  have H3 := Lib.hid hH3
  have H4 := Lib.hid hH4
  have H5 := Lib.hid hH5
  have H6 := Lib.hid hH6
  have H7 := Lib.hid hH7
  have HDD := Lib.hid hHDD
  clear hH1 hH2 hH3 hH4 hH5 hH6 hH7 hHDD
  have HT := Lib.hid ht
  have HK := Lib.hid ((Kq.nil w).new #[.bool false, S [], S []] 26)
  obtain ⟨B, hB⟩ : ∃ B, w.heap.size = B := ⟨_, rfl⟩
  rw [hB] at HK
  have HBB := Lib.hid hB
  clear ht
  have HF1 := Lib.hid (show ∀ W, Kq w W [(B, 26, [.bool false, S [], S []])] → W.cell? ⟨B, 0, none⟩ = some (.bool false) ∧ W.cell? ⟨B, 1, none⟩ = some (S []) ∧ W.cell? ⟨B, 2, none⟩ = some (S []) from fun W h => ⟨(h.row _ (.head _)).cell 0, (h.row _ (.head _)).cell 1, (h.row _ (.head _)).cell 2⟩)
  obtain ⟨cc0, cc1, cc2⟩ := HF1.out _ HK.out
  go_enter Tryz.func33, Tryz.ntmps33
  go_wp2_with fail
  refine (H1.out _).mono ?_
  rintro e w1 ⟨rfl, hC⟩
  have HK2 := Lib.hid (HK.out.on hC)
  clear cc0 cc1 cc2
  clear hC HK
  have HK := HK2
  clear HK2
  obtain ⟨cc0, cc1, cc2⟩ := HF1.out _ HK.out
  go_wp2_with fail
  go_loop [8, 9] (fun c x => (x = .int .i64 i ∧ c = .int .i64 0) ∨ (x = .int .i64 k ∧ c = .int .i64 v1) ∨ (x = .int .i64 n ∧ c = .int .i64 v2)) (fun _ x => n - (intOf x).toNat)
  case atStart => exact .inl ⟨rfl, rfl⟩
  case round =>
    obtain ⟨rfl, rfl⟩ | ⟨rfl, rfl⟩ | ⟨rfl, rfl⟩ := hrel
    · go_wp2_with fail
      go_round
      case rel => exact .inr (.inl ⟨by first | go_num | rfl, by first | go_num | rfl⟩)
      case measure => simp [intOf]; omega
    · go_wp2_with fail
      go_round
      case rel => exact .inr (.inr ⟨by first | go_num | rfl, by first | go_num | rfl⟩)
      case measure => simp [intOf]; omega
    · go_wp2_with fail
      refine (H2.out _).mono ?_
      rintro e w2 ⟨rfl, hC⟩
      have HK2 := Lib.hid (HK.out.on hC)
      clear cc0 cc1 cc2
      clear hC HK
      have HK := HK2
      clear HK2
      obtain ⟨cc0, cc1, cc2⟩ := HF1.out _ HK.out
      go_wp2_with fail
      refine (H3.out _).mono ?_
      rintro e w3 ⟨rfl, hC⟩
      have HK2 := Lib.hid (HK.out.on hC)
      clear cc0 cc1 cc2
      clear hC HK
      have HK := HK2
      clear HK2
      obtain ⟨cc0, cc1, cc2⟩ := HF1.out _ HK.out
      go_wp2_with fail
      refine (H4.out _).mono ?_
      rintro e w4 ⟨rfl, hC⟩
      have HK2 := Lib.hid (HK.out.on hC)
      clear cc0 cc1 cc2
      clear hC HK
      have HK := HK2
      clear HK2
      obtain ⟨cc0, cc1, cc2⟩ := HF1.out _ HK.out
      go_wp2_with fail
      refine (H5.out _).mono ?_
      rintro e w5 ⟨rfl, hC⟩
      have HK2 := Lib.hid (HK.out.on hC)
      clear cc0 cc1 cc2
      clear hC HK
      have HK := HK2
      clear HK2
      obtain ⟨cc0, cc1, cc2⟩ := HF1.out _ HK.out
      go_wp2_with fail
      refine (H2.out _).mono ?_
      rintro e w6 ⟨rfl, hC⟩
      have HK2 := Lib.hid (HK.out.on hC)
      clear cc0 cc1 cc2
      clear hC HK
      have HK := HK2
      clear HK2
      obtain ⟨cc0, cc1, cc2⟩ := HF1.out _ HK.out
      go_wp2_with fail
      refine (H6.out _).mono ?_
      rintro e w7 ⟨rfl, hC⟩
      have HK2 := Lib.hid (HK.out.on hC)
      clear cc0 cc1 cc2
      clear hC HK
      have HK := HK2
      clear HK2
      obtain ⟨cc0, cc1, cc2⟩ := HF1.out _ HK.out
      obtain ⟨dd0, dd1, dd2⟩ : (∀ o : Obj, (w7.alloc o).cell? ⟨B, 0, none⟩ = some (.bool false)) ∧ (∀ o : Obj, (w7.alloc o).cell? ⟨B, 1, none⟩ = some (S [])) ∧ (∀ o : Obj, (w7.alloc o).cell? ⟨B, 2, none⟩ = some (S [])) := by
        have hall := fun o : Obj => HF1.out _ (HK.out.other o)
        exact ⟨fun o => (hall o).1, fun o => (hall o).2.1, fun o => (hall o).2.2⟩
      go_wp2_with fail
      clear cc0 cc1 cc2 dd0 dd1 dd2
      have HK2 := Lib.hid (HK.out.new #[.bool r, S m, S f] 26)
      obtain ⟨w8, hW⟩ : ∃ W, w7.alloc (.cells #[.bool r, S m, S f] 26 (0, 0)) = W := ⟨_, rfl⟩
      rw [hW] at HK2 ⊢
      obtain ⟨Qa, hA⟩ : ∃ A, w7.heap.size = A := ⟨_, rfl⟩
      rw [hA] at HK2 ⊢
      clear hA hW HK
      have HK := HK2
      clear HK2
      have HF2 := Lib.hid (show ∀ W, Kq w W [(Qa, 26, [.bool r, S m, S f]), (B, 26, [.bool false, S [], S []])] → W.cell? ⟨Qa, 0, none⟩ = some (.bool r) ∧ W.cell? ⟨Qa, 1, none⟩ = some (S m) ∧ W.cell? ⟨Qa, 2, none⟩ = some (S f) ∧ W.cell? ⟨B, 0, none⟩ = some (.bool false) ∧ W.cell? ⟨B, 1, none⟩ = some (S []) ∧ W.cell? ⟨B, 2, none⟩ = some (S []) from fun W h => ⟨(h.row _ (.head _)).cell 0, (h.row _ (.head _)).cell 1, (h.row _ (.head _)).cell 2, (h.row _ (.tail _ (.head _))).cell 0, (h.row _ (.tail _ (.head _))).cell 1, (h.row _ (.tail _ (.head _))).cell 2⟩)
      obtain ⟨cc0, cc1, cc2, cc3, cc4, cc5⟩ := HF2.out _ HK.out
      refine (H7.out _ (HT.out.ch HK.out.ch)).mono ?_
      rintro e w9 ⟨rfl, hC⟩
      have HK2 := Lib.hid (HK.out.on hC)
      clear cc0 cc1 cc2 cc3 cc4 cc5
      clear hC HK
      have HK := HK2
      clear HK2
      obtain ⟨cc0, cc1, cc2, cc3, cc4, cc5⟩ := HF2.out _ HK.out
      rcases HDD.out with ⟨rfl, rfl, rfl, rfl, rfl⟩ | ⟨rfl, hne, rfl, rfl, rfl, rfl⟩ | ⟨rfl, rfl, rfl, rfl, rfl, rfl⟩
      · have f0 := (HK.out.row _ (.tail _ (.head _))).frozen 0
        have f1 := (HK.out.row _ (.tail _ (.head _))).frozen 1
        have f2 := (HK.out.row _ (.tail _ (.head _))).frozen 2
        go_wp2_with fail
        clear f0 f1 f2
        have hp := HK.out.put (g := B) (.tail _ (.head _)) (by have := HBB.out; omega) (.bool false) (S []) (S [])
        refine bodyPost_ret (results_cell_row_tmp (P := Tryz.prog) rfl _ _ (B) 26 _ (0, 0) _ rfl hp.1 Tryz.underlying26 rfl (by kernel_rfl)) rfl ?_
        exact ⟨rfl, hp.2⟩
      · have hne1 : (x == s) = false := beq_no hne
        have hne2 : ¬ x.toArray = s.toArray := fun q => hne (by simpa using q)
        have f0 := (HK.out.row _ (.tail _ (.head _))).frozen 0
        have f1 := (HK.out.row _ (.tail _ (.head _))).frozen 1
        have f2 := (HK.out.row _ (.tail _ (.head _))).frozen 2
        go_wp2_with fail
        clear f0 f1 f2
        have hp := HK.out.put (g := B) (.tail _ (.head _)) (by have := HBB.out; omega) (.bool false) (S []) (S [])
        refine bodyPost_ret (results_cell_row_tmp (P := Tryz.prog) rfl _ _ (B) 26 _ (0, 0) _ rfl hp.1 Tryz.underlying26 rfl (by kernel_rfl)) rfl ?_
        exact ⟨rfl, hp.2⟩
      · have f0 := (HK.out.row _ (.tail _ (.head _))).frozen 0
        have f1 := (HK.out.row _ (.tail _ (.head _))).frozen 1
        have f2 := (HK.out.row _ (.tail _ (.head _))).frozen 2
        go_wp2_with fail
        clear f0 f1 f2
        have hp := HK.out.put (g := B) (.tail _ (.head _)) (by have := HBB.out; omega) (.bool r2) (S m2) (S f2)
        refine bodyPost_ret (results_cell_row_tmp (P := Tryz.prog) rfl _ _ (B) 26 _ (0, 0) _ rfl hp.1 Tryz.underlying26 rfl (by kernel_rfl)) rfl ?_
        exact ⟨rfl, hp.2⟩
end Go.Proofs.YtnblmmhpndnjcaaGreatDoor
