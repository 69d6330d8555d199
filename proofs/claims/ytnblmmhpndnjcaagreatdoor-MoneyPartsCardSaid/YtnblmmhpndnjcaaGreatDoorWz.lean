/- The reference's Of. -/
import Derived.Test.YtnblmmhpndnjcaaGreatDoorAz
import Derived.Test.YtnblmmhpndnjcaaGreatDoorAx
namespace Go.Proofs.YtnblmmhpndnjcaaGreatDoor
open Go.RowKit
set_option maxRecDepth 100000 in
set_option maxHeartbeats 12800000 in
theorem C_r4Of {c : Int} {r : Bool} {k f : List UInt8} (h1 : -9223372036854775808 ≤ c) (h2 : c ≤ 9223372036854775807) (ic : Is ((c : Rat) * (1 / 100)) r k f) : AnsM 14 #[.int .i64 c] (Rv r k f) := fun w ht => by
  obtain ⟨x, hx⟩ : ∃ x, nb c.natAbs = x := ⟨_, rfl⟩
  obtain ⟨M, hM⟩ : ∃ M, M = 8 := ⟨_, rfl⟩
  have lx := nbl' M hx (Nat.lt_of_lt_of_le (show c.natAbs < 256 ^ 8 by have : (256 : Nat) ^ 8 = 18446744073709551616 := rfl; omega) (Nat.pow_le_pow_right (by decide) (by omega)))
  have H1 := Lib.hid (C_rOf c h1 h2 hx)
  have hr := ratOf_is (Is.int c hx)
  obtain ⟨s, hs⟩ : ∃ s, decide (c < 0) = s := ⟨_, rfl⟩
  rw [hs] at H1 hr
  have H2 := Lib.hid C_rcent
  have H3 := Lib.hid (C_rMul (s := s) (n := x) (d := [1]) (t := false) (m := [1]) (e := [100]) (by omega) (by decide) (by decide) (by decide) hr (ratOf_is cent_is) ic)
  clear hx hM lx hr hs ic
  have HT := Lib.hid ht
  have HK := Lib.hid ((Kq.nil w).new #[.bool false, S [], S []] 26)
  obtain ⟨B, hB⟩ : ∃ B, w.heap.size = B := ⟨_, rfl⟩
  rw [hB] at HK
  have HBB := Lib.hid hB
  clear ht
  have HF1 := Lib.hid (show ∀ W, Kq w W [(B, 26, [.bool false, S [], S []])] → W.cell? ⟨B, 0, none⟩ = some (.bool false) ∧ W.cell? ⟨B, 1, none⟩ = some (S []) ∧ W.cell? ⟨B, 2, none⟩ = some (S []) from fun W h => ⟨(h.row _ (.head _)).cell 0, (h.row _ (.head _)).cell 1, (h.row _ (.head _)).cell 2⟩)
  obtain ⟨cc0, cc1, cc2⟩ := HF1.out _ HK.out
  go_enter Tryz.func14, Tryz.ntmps14
  go_wp2_with fail
  clear hB
  refine (H1.out _).mono ?_
  rintro e w1 ⟨rfl, hC⟩
  have HK2 := Lib.hid (HK.out.on hC)
  clear cc0 cc1 cc2
  clear hC HK
  have HK := HK2
  clear HK2
  obtain ⟨cc0, cc1, cc2⟩ := HF1.out _ HK.out
  go_wp2_with fail
  refine (H2.out _ (HT.out.ch HK.out.ch)).mono ?_
  rintro e w2 ⟨rfl, hC⟩
  have HK2 := Lib.hid (HK.out.on hC)
  clear cc0 cc1 cc2
  clear hC HK
  have HK := HK2
  clear HK2
  obtain ⟨cc0, cc1, cc2⟩ := HF1.out _ HK.out
  go_wp2_with fail
  refine (H3.out _).mono ?_
  rintro e w3 ⟨rfl, hC⟩
  have HK2 := Lib.hid (HK.out.on hC)
  clear cc0 cc1 cc2
  clear hC HK
  have HK := HK2
  clear HK2
  obtain ⟨cc0, cc1, cc2⟩ := HF1.out _ HK.out
  clear cc0 cc1 cc2
  have e0 := (HK.out.row _ (.head _)).cell 0
  have e1 := (HK.out.row _ (.head _)).cell 1
  have e2 := (HK.out.row _ (.head _)).cell 2
  have f0 := (HK.out.row _ (.head _)).frozen 0
  have f1 := (HK.out.row _ (.head _)).frozen 1
  have f2 := (HK.out.row _ (.head _)).frozen 2
  simp only [List.getElem?_cons_zero, List.getElem?_cons_succ] at e0 e1 e2
  go_wp2_with fail
  have hp := HK.out.put (g := B) (.head _) (by have := HBB.out; omega) (.bool r) (S k) (S f)
  refine bodyPost_ret (results_cell_row (P := Tryz.prog) rfl _ _ (B) 26 _ (0, 0) _ rfl hp.1 Tryz.underlying26 rfl (by kernel_rfl)) rfl ?_
  exact ⟨rfl, hp.2⟩
end Go.Proofs.YtnblmmhpndnjcaaGreatDoor
