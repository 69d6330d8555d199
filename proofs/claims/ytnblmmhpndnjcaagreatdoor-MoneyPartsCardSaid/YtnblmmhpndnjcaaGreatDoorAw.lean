/- Package money: Parse. -/
import Derived.Test.YtnblmmhpndnjcaaGreatDoorAt
import Derived.Test.YtnblmmhpndnjcaaGreatDoorAb
import Derived.Lib.AtoiErrMem
import Derived.Lib.AtoiAllCases
import Derived.Lib.Replace
namespace Go.Proofs.YtnblmmhpndnjcaaGreatDoor
open Go.RowKit Go.Shelf
theorem C_trim (s : List UInt8) : Ans 72 #[S s, S [36]] (S (Lib.trimPrefix s [36])) := fun w =>
  (Tryz.strings_TrimPrefix ⟨s.toArray⟩ ⟨#[36]⟩ w).mono fun _ _ ⟨he, hw⟩ => ⟨he, by rw [hw]; exact Ch.refl _ _ _⟩
theorem C_repl (s : List UInt8) (hs : s.length ≤ 1000) : AnsM 71 #[S s, S [46], S [], .int .i64 1] (S (Lib.replace s [46] [] 1)) := fun w ht => by
  obtain ⟨m, hm, -⟩ := ht.tb.ml
  refine (Tryz.strings_Replace ⟨s.toArray⟩ ⟨#[46]⟩ ⟨#[]⟩ 1 m w ?_ hm ?_ ?_).mono fun _ _ ⟨he, hw⟩ => ⟨he, Ch.of_below hw⟩
  · show s.toArray.size < _; simp; omega
  · decide
  · show s.toArray.size + _ * 0 ≤ _; simp; omega
theorem C_atoi_ok {s : List UInt8} {v : Int} (hs : s.length ≤ 1000) (h : Lib.atoiAll s = .ok v) : Ans 73 #[S s] (.tuple #[.int .i64 v, .nilIface]) := fun w =>
  (Tryz.strconv_Atoi_ok ⟨s.toArray⟩ (by show s.toArray.size ≤ _; simp; omega) v h w).mono fun _ _ ⟨he, hw⟩ => ⟨he, by
    rcases hw with hw | ⟨t, hw⟩
    · rw [hw]; exact Ch.refl _ _ _
    · rw [hw]; exact Ch.of_below (Lib.bytesWorld_below w _ t)⟩
/-- What is read as an int: without the sign of the money and the first point. -/
def unDot (s : List UInt8) : List UInt8 := Lib.replace (Lib.trimPrefix s [36]) [46] [] 1
theorem trimD_len (s : List UInt8) : (Lib.trimPrefix s [36]).length ≤ s.length := by
  unfold Lib.trimPrefix
  split
  · rw [List.length_drop]; omega
  · exact Nat.le_refl _
theorem replK_len : ∀ (k : Nat) (s : List UInt8), (Lib.replaceK [46] [] k s).length ≤ s.length
  | 0, s => Nat.le_refl _
  | k + 1, s => by
    unfold Lib.replaceK
    split
    · exact Nat.le_refl _
    · have ih := replK_len k (s.drop ((Lib.index s [46]).toNat + ([46] : List UInt8).length))
      rw [List.length_drop] at ih
      simp only [List.append_nil, List.length_append, List.length_take, List.length_cons, List.length_nil] at ih ⊢
      omega
theorem unDot_len (s : List UInt8) : (unDot s).length ≤ s.length := by
  unfold unDot Lib.replace
  have h := trimD_len s
  split
  · exact h
  · exact Nat.le_trans (replK_len _ _) h
set_option maxRecDepth 100000 in
set_option maxHeartbeats 3200000 in
theorem C_mParse_ok {s : List UInt8} {c : Int} {r : Bool} {k f : List UInt8} (hs : s.length ≤ 999) (h : Lib.atoiAll (unDot s) = .ok c) (hw : wtx c = s) (ic : Is ((c : Rat) * (1 / 100)) r k f) : AnsM 31 #[S s] (.tuple #[Rv r k f, .bool true]) := fun w ht => by
  obtain ⟨hc1, hc2⟩ := Lib.atoiAll_bounds h
  have hl := trimD_len s
  have hu := unDot_len s
  have H1 := Lib.hid (C_trim s)
  have H2 := Lib.hid (C_repl (Lib.trimPrefix s [36]) (by omega))
  rw [show Lib.replace (Lib.trimPrefix s [36]) [46] [] 1 = unDot s from rfl] at H2
  obtain ⟨a, ha⟩ : ∃ a, Lib.trimPrefix s [36] = a := ⟨_, rfl⟩
  obtain ⟨b, hb⟩ : ∃ b, unDot s = b := ⟨_, rfl⟩
  rw [ha] at H1 H2
  rw [hb] at H2 h hu
  have H3 := Lib.hid (C_atoi_ok (by omega) h)
  have H4 := Lib.hid (C_written hc1 hc2)
  rw [hw] at H4
  have H5 := Lib.hid (C_mOf hc1 hc2 ic)
  clear hc1 hc2 hl hu ha hb h hw ic hs
  have HT := Lib.hid ht
  have HK := Lib.hid ((Kq.nil w).new #[.bool false, S [], S []] 26)
  obtain ⟨B, hB⟩ : ∃ B, w.heap.size = B := ⟨_, rfl⟩
  rw [hB] at HK 
  have HBB := Lib.hid hB
  clear ht 
  have HF1 := Lib.hid (show ∀ W, Kq w W [(B, 26, [.bool false, S [], S []])] → W.cell? ⟨B, 0, none⟩ = some (.bool false) ∧ W.cell? ⟨B, 1, none⟩ = some (S []) ∧ W.cell? ⟨B, 2, none⟩ = some (S []) from fun W h => ⟨(h.row _ (.head _)).cell 0, (h.row _ (.head _)).cell 1, (h.row _ (.head _)).cell 2⟩)
  obtain ⟨cc0, cc1, cc2⟩ := HF1.out _ HK.out
  go_enter Tryz.func31, Tryz.ntmps31
  go_wp2_with fail
  clear hB
  refine (H1.out _).mono ?_
  rintro e w1 ⟨rfl, hC⟩
  have HK2 := Lib.hid (HK.out.on hC)
  clear cc0 cc1 cc2
  clear hC HK
  have HK := HK2
  clear HK2
  obtain ⟨cc0, cc1, cc2⟩ := HF1.out _ HK.out
  go_wp2_with fail
  refine (H2.out _ (HT.out.ch HK.out.ch)).mono ?_
  rintro e w2 ⟨rfl, hC⟩
  have HK2 := Lib.hid (HK.out.on hC)
  clear cc0 cc1 cc2
  clear hC HK
  have HK := HK2
  clear HK2
  obtain ⟨cc0, cc1, cc2⟩ := HF1.out _ HK.out
  go_wp2_with fail
  refine (H3.out _).mono ?_
  rintro e w3 ⟨rfl, hC⟩
  have HK2 := Lib.hid (HK.out.on hC)
  clear cc0 cc1 cc2
  clear hC HK
  have HK := HK2
  clear HK2
  obtain ⟨cc0, cc1, cc2⟩ := HF1.out _ HK.out
  go_wp2_with fail
  refine (H4.out _ (HT.out.ch HK.out.ch)).mono ?_
  rintro e w4 ⟨rfl, hC⟩
  have HK2 := Lib.hid (HK.out.on hC)
  clear cc0 cc1 cc2
  clear hC HK
  have HK := HK2
  clear HK2
  obtain ⟨cc0, cc1, cc2⟩ := HF1.out _ HK.out
  go_wp2_with fail
  refine (H5.out _ (HT.out.ch HK.out.ch)).mono ?_
  rintro e w5 ⟨rfl, hC⟩
  have HK2 := Lib.hid (HK.out.on hC)
  clear cc0 cc1 cc2
  clear hC HK
  have HK := HK2
  clear HK2
  obtain ⟨cc0, cc1, cc2⟩ := HF1.out _ HK.out
  have f0 := (HK.out.row _ (.head _)).frozen 0
  have f1 := (HK.out.row _ (.head _)).frozen 1
  have f2 := (HK.out.row _ (.head _)).frozen 2
  go_wp2_with fail
  have hp := HK.out.put (g := B) (.head _) (by have := HBB.out; omega) (.bool r) (S k) (S f)
  refine bodyPost_ret (results_cell_row_tmp (P := Tryz.prog) rfl _ _ (B) 26 _ (0, 0) _ rfl hp.1 Tryz.underlying26 rfl (by kernel_rfl)) rfl ?_
  exact ⟨rfl, hp.2⟩
set_option maxRecDepth 100000 in
set_option maxHeartbeats 3200000 in
theorem C_mParse_ne {s : List UInt8} {c : Int} (hs : s.length ≤ 999) (h : Lib.atoiAll (unDot s) = .ok c) (hw : wtx c ≠ s) : AnsM 31 #[S s] (.tuple #[Rv false [] [], .bool false]) := fun w ht => by
  obtain ⟨hc1, hc2⟩ := Lib.atoiAll_bounds h
  have hl := trimD_len s
  have hu := unDot_len s
  have H1 := Lib.hid (C_trim s)
  have H2 := Lib.hid (C_repl (Lib.trimPrefix s [36]) (by omega))
  rw [show Lib.replace (Lib.trimPrefix s [36]) [46] [] 1 = unDot s from rfl] at H2
  obtain ⟨a, ha⟩ : ∃ a, Lib.trimPrefix s [36] = a := ⟨_, rfl⟩
  obtain ⟨b, hb⟩ : ∃ b, unDot s = b := ⟨_, rfl⟩
  rw [ha] at H1 H2
  rw [hb] at H2 h hu
  have H3 := Lib.hid (C_atoi_ok (by omega) h)
  have H4 := Lib.hid (C_written hc1 hc2)
  obtain ⟨x, hx⟩ : ∃ x, wtx c = x := ⟨_, rfl⟩
  rw [hx] at H4 hw
  have hne : (x == s) = false := beq_no hw
  have hne2 : ¬ x.toArray = s.toArray := fun q => hw (by simpa using q)
  clear hc1 hc2 hl hu ha hb h hw hx hs
  have HT := Lib.hid ht
  have HK := Lib.hid ((Kq.nil w).new #[.bool false, S [], S []] 26)
  obtain ⟨B, hB⟩ : ∃ B, w.heap.size = B := ⟨_, rfl⟩
  rw [hB] at HK 
  have HBB := Lib.hid hB
  clear ht 
  have HF1 := Lib.hid (show ∀ W, Kq w W [(B, 26, [.bool false, S [], S []])] → W.cell? ⟨B, 0, none⟩ = some (.bool false) ∧ W.cell? ⟨B, 1, none⟩ = some (S []) ∧ W.cell? ⟨B, 2, none⟩ = some (S []) from fun W h => ⟨(h.row _ (.head _)).cell 0, (h.row _ (.head _)).cell 1, (h.row _ (.head _)).cell 2⟩)
  obtain ⟨cc0, cc1, cc2⟩ := HF1.out _ HK.out
  go_enter Tryz.func31, Tryz.ntmps31
  go_wp2_with fail
  clear hB
  refine (H1.out _).mono ?_
  rintro e w1 ⟨rfl, hC⟩
  have HK2 := Lib.hid (HK.out.on hC)
  clear cc0 cc1 cc2
  clear hC HK
  have HK := HK2
  clear HK2
  obtain ⟨cc0, cc1, cc2⟩ := HF1.out _ HK.out
  go_wp2_with fail
  refine (H2.out _ (HT.out.ch HK.out.ch)).mono ?_
  rintro e w2 ⟨rfl, hC⟩
  have HK2 := Lib.hid (HK.out.on hC)
  clear cc0 cc1 cc2
  clear hC HK
  have HK := HK2
  clear HK2
  obtain ⟨cc0, cc1, cc2⟩ := HF1.out _ HK.out
  go_wp2_with fail
  refine (H3.out _).mono ?_
  rintro e w3 ⟨rfl, hC⟩
  have HK2 := Lib.hid (HK.out.on hC)
  clear cc0 cc1 cc2
  clear hC HK
  have HK := HK2
  clear HK2
  obtain ⟨cc0, cc1, cc2⟩ := HF1.out _ HK.out
  go_wp2_with fail
  refine (H4.out _ (HT.out.ch HK.out.ch)).mono ?_
  rintro e w4 ⟨rfl, hC⟩
  have HK2 := Lib.hid (HK.out.on hC)
  clear cc0 cc1 cc2
  clear hC HK
  have HK := HK2
  clear HK2
  obtain ⟨cc0, cc1, cc2⟩ := HF1.out _ HK.out
  have f0 := (HK.out.row _ (.head _)).frozen 0
  have f1 := (HK.out.row _ (.head _)).frozen 1
  have f2 := (HK.out.row _ (.head _)).frozen 2
  go_wp2_with fail
  have hp := HK.out.put (g := B) (.head _) (by have := HBB.out; omega) (.bool false) (S []) (S [])
  refine bodyPost_ret (results_cell_row_tmp (P := Tryz.prog) rfl _ _ (B) 26 _ (0, 0) _ rfl hp.1 Tryz.underlying26 rfl (by kernel_rfl)) rfl ?_
  exact ⟨rfl, hp.2⟩
end Go.Proofs.YtnblmmhpndnjcaaGreatDoor
