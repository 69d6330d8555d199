/- MoneyTexts: the walks and the core. -/
import Derived.Test.YtnblmmhpndnjcaaGreatDoorWp
namespace Go.Proofs.YtnblmmhpndnjcaaGreatDoor
open Go.RowKit
set_option maxRecDepth 100000 in
set_option maxHeartbeats 6400000 in
theorem texts_yes {s u : List UInt8} {n k : Nat} {r : Bool} {m f : List UInt8} (w : World) (ht : Ts w) (hn : s.length = n) (hk : min (n : Int) 60 = (k : Int)) (hkn : (k : Int) ≤ (n : Int)) (hx : (ByteArray.mk s.toArray).extract 0 k = ⟨u.toArray⟩)
    (hH0 : AnsM 11 #[] (.bool true)) (hH1 : AnsS 31 #[S u] (.tuple #[Rv r m f, .bool true])) (hH2 : AnsM 33 #[S u] (.tuple #[Rv r m f, .bool true])) (hH3 : AnsM 30 #[Rv r m f] (.tuple #[S u, .bool true])) :
    Calls Tryz.prog 8 #[S s] w (Yld w (.bool true)) := by
  have hk0 : 0 ≤ (k : Int) := by omega
  have H0 := Lib.hid hH0
  have H1 := Lib.hid hH1
  have H2 := Lib.hid hH2
  have H3 := Lib.hid hH3
  have HT := Lib.hid ht
  clear ht hH0 hH1 hH2 hH3
  have HK := Lib.hid (Kq.nil w)
  go_enter Tryz.func8, Tryz.ntmps8
  go_wp2_with fail
  refine (H0.out _ (HT.out.tm.ch HK.out.ch)).mono ?_
  rintro e w1 ⟨rfl, hC⟩
  have HK2 := Lib.hid (HK.out.on hC)
  clear hC HK
  have HK := HK2
  clear HK2
  go_wp2_with fail
  refine (H1.out _ (HT.out.ch HK.out.ch)).mono ?_
  rintro e w2 ⟨rfl, hC⟩
  have HK2 := Lib.hid (HK.out.on hC)
  clear hC HK
  have HK := HK2
  clear HK2
  go_wp2_with fail
  have HK2 := Lib.hid (HK.out.new #[.bool r, S m, S f] 26)
  obtain ⟨w3, hW⟩ : ∃ W, w2.alloc (.cells #[.bool r, S m, S f] 26 (0, 0)) = W := ⟨_, rfl⟩
  rw [hW] at HK2 ⊢
  obtain ⟨Ra, hA⟩ : ∃ A, w2.heap.size = A := ⟨_, rfl⟩
  rw [hA] at HK2 ⊢
  clear hA hW HK
  have HK := HK2
  clear HK2
  have HF1 := Lib.hid (show ∀ W, Kq w W [(Ra, 26, [.bool r, S m, S f])] → W.cell? ⟨Ra, 0, none⟩ = some (.bool r) ∧ W.cell? ⟨Ra, 1, none⟩ = some (S m) ∧ W.cell? ⟨Ra, 2, none⟩ = some (S f) from fun W h => ⟨(h.row _ (.head _)).cell 0, (h.row _ (.head _)).cell 1, (h.row _ (.head _)).cell 2⟩)
  obtain ⟨cc0, cc1, cc2⟩ := HF1.out _ HK.out
  refine (H2.out _ (HT.out.tm.ch HK.out.ch)).mono ?_
  rintro e w4 ⟨rfl, hC⟩
  have HK2 := Lib.hid (HK.out.on hC)
  clear cc0 cc1 cc2
  clear hC HK
  have HK := HK2
  clear HK2
  obtain ⟨cc0, cc1, cc2⟩ := HF1.out _ HK.out
  obtain ⟨dd0, dd1, dd2⟩ : (∀ o : Obj, (w4.alloc o).cell? ⟨Ra, 0, none⟩ = some (.bool r)) ∧ (∀ o : Obj, (w4.alloc o).cell? ⟨Ra, 1, none⟩ = some (S m)) ∧ (∀ o : Obj, (w4.alloc o).cell? ⟨Ra, 2, none⟩ = some (S f)) := by
    have hall := fun o : Obj => HF1.out _ (HK.out.other o)
    exact ⟨fun o => (hall o).1, fun o => (hall o).2.1, fun o => (hall o).2.2⟩
  go_wp2_with fail
  clear cc0 cc1 cc2 dd0 dd1 dd2
  have HK2 := Lib.hid (HK.out.new #[.bool r, S m, S f] 26)
  obtain ⟨w5, hW⟩ : ∃ W, w4.alloc (.cells #[.bool r, S m, S f] 26 (0, 0)) = W := ⟨_, rfl⟩
  rw [hW] at HK2 ⊢
  obtain ⟨Rb, hA⟩ : ∃ A, w4.heap.size = A := ⟨_, rfl⟩
  rw [hA] at HK2 ⊢
  clear hA hW HK
  have HK := HK2
  clear HK2
  have HF2 := Lib.hid (show ∀ W, Kq w W [(Rb, 26, [.bool r, S m, S f]), (Ra, 26, [.bool r, S m, S f])] → W.cell? ⟨Rb, 0, none⟩ = some (.bool r) ∧ W.cell? ⟨Rb, 1, none⟩ = some (S m) ∧ W.cell? ⟨Rb, 2, none⟩ = some (S f) ∧ W.cell? ⟨Ra, 0, none⟩ = some (.bool r) ∧ W.cell? ⟨Ra, 1, none⟩ = some (S m) ∧ W.cell? ⟨Ra, 2, none⟩ = some (S f) from fun W h => ⟨(h.row _ (.head _)).cell 0, (h.row _ (.head _)).cell 1, (h.row _ (.head _)).cell 2, (h.row _ (.tail _ (.head _))).cell 0, (h.row _ (.tail _ (.head _))).cell 1, (h.row _ (.tail _ (.head _))).cell 2⟩)
  obtain ⟨cc0, cc1, cc2, cc3, cc4, cc5⟩ := HF2.out _ HK.out
  refine (H3.out _ (HT.out.tm.ch HK.out.ch)).mono ?_
  rintro e w6 ⟨rfl, hC⟩
  have HK2 := Lib.hid (HK.out.on hC)
  clear cc0 cc1 cc2 cc3 cc4 cc5
  clear hC HK
  have HK := HK2
  clear HK2
  obtain ⟨cc0, cc1, cc2, cc3, cc4, cc5⟩ := HF2.out _ HK.out
  go_wp2_with fail
  go_ret
  exact ⟨rfl, HK.out.ch⟩
set_option maxRecDepth 100000 in
set_option maxHeartbeats 6400000 in
theorem texts_no {s u : List UInt8} {n k : Nat} (w : World) (ht : Ts w) (hn : s.length = n) (hk : min (n : Int) 60 = (k : Int)) (hkn : (k : Int) ≤ (n : Int)) (hx : (ByteArray.mk s.toArray).extract 0 k = ⟨u.toArray⟩)
    (hH0 : AnsM 11 #[] (.bool true)) (hH1 : AnsS 31 #[S u] (.tuple #[Rv false [] [], .bool false])) (hH2 : AnsM 33 #[S u] (.tuple #[Rv false [] [], .bool false])) :
    Calls Tryz.prog 8 #[S s] w (Yld w (.bool true)) := by
  have hk0 : 0 ≤ (k : Int) := by omega
  have H0 := Lib.hid hH0
  have H1 := Lib.hid hH1
  have H2 := Lib.hid hH2
  have HT := Lib.hid ht
  clear ht hH0 hH1 hH2
  have HK := Lib.hid (Kq.nil w)
  go_enter Tryz.func8, Tryz.ntmps8
  go_wp2_with fail
  refine (H0.out _ (HT.out.tm.ch HK.out.ch)).mono ?_
  rintro e w1 ⟨rfl, hC⟩
  have HK2 := Lib.hid (HK.out.on hC)
  clear hC HK
  have HK := HK2
  clear HK2
  go_wp2_with fail
  refine (H1.out _ (HT.out.ch HK.out.ch)).mono ?_
  rintro e w2 ⟨rfl, hC⟩
  have HK2 := Lib.hid (HK.out.on hC)
  clear hC HK
  have HK := HK2
  clear HK2
  go_wp2_with fail
  have HK2 := Lib.hid (HK.out.new #[.bool false, S [], S []] 26)
  obtain ⟨w3, hW⟩ : ∃ W, w2.alloc (.cells #[.bool false, S [], S []] 26 (0, 0)) = W := ⟨_, rfl⟩
  rw [hW] at HK2 ⊢
  obtain ⟨Ra, hA⟩ : ∃ A, w2.heap.size = A := ⟨_, rfl⟩
  rw [hA] at HK2 ⊢
  clear hA hW HK
  have HK := HK2
  clear HK2
  have HF1 := Lib.hid (show ∀ W, Kq w W [(Ra, 26, [.bool false, S [], S []])] → W.cell? ⟨Ra, 0, none⟩ = some (.bool false) ∧ W.cell? ⟨Ra, 1, none⟩ = some (S []) ∧ W.cell? ⟨Ra, 2, none⟩ = some (S []) from fun W h => ⟨(h.row _ (.head _)).cell 0, (h.row _ (.head _)).cell 1, (h.row _ (.head _)).cell 2⟩)
  obtain ⟨cc0, cc1, cc2⟩ := HF1.out _ HK.out
  refine (H2.out _ (HT.out.tm.ch HK.out.ch)).mono ?_
  rintro e w4 ⟨rfl, hC⟩
  have HK2 := Lib.hid (HK.out.on hC)
  clear cc0 cc1 cc2
  clear hC HK
  have HK := HK2
  clear HK2
  obtain ⟨cc0, cc1, cc2⟩ := HF1.out _ HK.out
  obtain ⟨dd0, dd1, dd2⟩ : (∀ o : Obj, (w4.alloc o).cell? ⟨Ra, 0, none⟩ = some (.bool false)) ∧ (∀ o : Obj, (w4.alloc o).cell? ⟨Ra, 1, none⟩ = some (S [])) ∧ (∀ o : Obj, (w4.alloc o).cell? ⟨Ra, 2, none⟩ = some (S [])) := by
    have hall := fun o : Obj => HF1.out _ (HK.out.other o)
    exact ⟨fun o => (hall o).1, fun o => (hall o).2.1, fun o => (hall o).2.2⟩
  go_wp2_with fail
  clear cc0 cc1 cc2 dd0 dd1 dd2
  have HK2 := Lib.hid (HK.out.new #[.bool false, S [], S []] 26)
  obtain ⟨w5, hW⟩ : ∃ W, w4.alloc (.cells #[.bool false, S [], S []] 26 (0, 0)) = W := ⟨_, rfl⟩
  rw [hW] at HK2 ⊢
  obtain ⟨Rb, hA⟩ : ∃ A, w4.heap.size = A := ⟨_, rfl⟩
  rw [hA] at HK2 ⊢
  clear hA hW HK
  have HK := HK2
  clear HK2
  have HF2 := Lib.hid (show ∀ W, Kq w W [(Rb, 26, [.bool false, S [], S []]), (Ra, 26, [.bool false, S [], S []])] → W.cell? ⟨Rb, 0, none⟩ = some (.bool false) ∧ W.cell? ⟨Rb, 1, none⟩ = some (S []) ∧ W.cell? ⟨Rb, 2, none⟩ = some (S []) ∧ W.cell? ⟨Ra, 0, none⟩ = some (.bool false) ∧ W.cell? ⟨Ra, 1, none⟩ = some (S []) ∧ W.cell? ⟨Ra, 2, none⟩ = some (S []) from fun W h => ⟨(h.row _ (.head _)).cell 0, (h.row _ (.head _)).cell 1, (h.row _ (.head _)).cell 2, (h.row _ (.tail _ (.head _))).cell 0, (h.row _ (.tail _ (.head _))).cell 1, (h.row _ (.tail _ (.head _))).cell 2⟩)
  obtain ⟨cc0, cc1, cc2, cc3, cc4, cc5⟩ := HF2.out _ HK.out
  go_ret
  exact ⟨rfl, HK.out.ch⟩
set_option maxHeartbeats 1600000 in
theorem texts_core (s : List UInt8) (w : World) (_ : s.length ≤ 9223372036854775807) (ht : Ts w) : Calls Tryz.prog 8 #[S s] w (Yld w (.bool true)) := by
  obtain ⟨k, hk⟩ : ∃ k, min s.length 60 = k := ⟨_, rfl⟩
  have hk1 : min (s.length : Int) 60 = (k : Int) := by omega
  have hx := ext_mid (s := s) (A := []) (B := s.take k) (C := s.drop k) (a := 0) (b := k) (by simp) rfl (by rw [List.length_take, List.length_nil]; omega)
  obtain ⟨u, hu⟩ : ∃ u, s.take k = u := ⟨_, rfl⟩
  rw [hu] at hx
  have hul : u.length ≤ 60 := by rw [← hu, List.length_take]; omega
  by_cases h : ∃ c, i64m c ∧ wtx c = u
  · obtain ⟨c, hc, rfl⟩ := h
    obtain ⟨r, m, f, ic⟩ := Is.ex ((c : Rat) * (1 / 100))
    obtain ⟨l1, l2⟩ := (cq_size hc).len ic
    exact texts_yes w ht rfl hk1 (by omega) hx (fun W hT => sanity4 W hT) (C_mParse_yes hc ic) (C_rmParse (.inr ⟨rfl, c, hc, rfl, ic⟩)) (C_mText_yes (by omega) (by omega) (cq_cents hc ic) rfl)
  · have hno : ∀ c, i64m c → wtx c ≠ u := fun c hc e => h ⟨c, hc, e⟩
    exact texts_no w ht rfl hk1 (by omega) hx (fun W hT => sanity4 W hT) (C_mParse_no (by omega) hno) (C_rmParse (.inl ⟨rfl, rfl, rfl, rfl, hno⟩))
end Go.Proofs.YtnblmmhpndnjcaaGreatDoor
