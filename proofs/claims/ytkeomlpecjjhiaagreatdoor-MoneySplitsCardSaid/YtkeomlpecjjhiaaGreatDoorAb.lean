/- Package money: Fits, Of, Cents. -/
import Derived.Test.YtkeomlpecjjhiaaGreatDoorAa
namespace Go.Proofs.YtkeomlpecjjhiaaGreatDoor
open Go.RowKit
set_option maxRecDepth 100000
set_option maxHeartbeats 3200000 in
theorem C_fits {s b : Bool} {n d : List UInt8} (hn : n.length ≤ 1000) (hd : d.length ≤ 1000) (hb : fitsB s n d = b) : AnsM 39 #[Rv s n d] (.bool b) := fun w ht => by
 obtain ⟨k1, hk1⟩ : ∃ k : Int, (nbits (bv n) : Int) = k := ⟨_, rfl⟩
 obtain ⟨k2, hk2⟩ : ∃ k : Int, (nbits (bv d) : Int) = k := ⟨_, rfl⟩
 obtain ⟨r, hr⟩ : ∃ r, rightR s n d = r := ⟨_, rfl⟩
 have H1 := Lib.hid (C_bits (a := n) (by omega) hk1)
 have H2 := Lib.hid (C_bits (a := d) (by omega) hk2)
 have H3 := Lib.hid (C_Right (s := s) hn hd hr)
 have hbb : b = (decide (k1 ≤ 400) && (decide (k2 ≤ 400) && r)) := by
  rw [← hb, ← hk1, ← hk2, ← hr]
  unfold fitsB
  congr 1
  ·exact decide_eq_decide.2 (by omega)
  ·congr 1
   exact decide_eq_decide.2 (by omega)
 have hp1 : 0 ≤ k1 := by omega
 have hp2 : 0 ≤ k2 := by omega
 clear hb hk1 hk2 hr hn hd
 by_cases h1 : k1 ≤ 400
 ·by_cases h2 : k2 ≤ 400
  ·have HBV := Lib.hid (show r = b by rw [hbb, decide_eq_true h1, decide_eq_true h2]; rfl)
   clear hbb
   have HT := Lib.hid ht
   have HK := Lib.hid ((Kq.nil w).new #[.bool s, S n, S d] 26)
   obtain ⟨B, hB⟩ : ∃ B, w.heap.size = B := ⟨_, rfl⟩
   rw [hB] at HK
   have HBB := Lib.hid hB
   clear ht
   have HF1 := Lib.hid (show ∀ W, Kq w W [(B, 26, [.bool s, S n, S d])] → W.cell? ⟨B, 0, none⟩ = some (.bool s) ∧ W.cell? ⟨B, 1, none⟩ = some (S n) ∧ W.cell? ⟨B, 2, none⟩ = some (S d) from fun W h => ⟨(h.row _ mm0).cell 0, (h.row _ mm0).cell 1, (h.row _ mm0).cell 2⟩)
   obtain ⟨cc0, cc1, cc2⟩ := HF1.out _ HK.out
   go_enter Tryz.func39, Tryz.ntmps39
   go_wp2_with fail
   clear hB
   refine (H1.out _).mono ?_
   rintro e w1 ⟨rfl, hC⟩
   replace HK := Lib.hid (HK.out.on hC)
   clear hC cc0 cc1 cc2
   obtain ⟨cc0, cc1, cc2⟩ := HF1.out _ HK.out
   go_wp2_with fail
   refine (H2.out _).mono ?_
   rintro e w2 ⟨rfl, hC⟩
   replace HK := Lib.hid (HK.out.on hC)
   clear hC cc0 cc1 cc2
   obtain ⟨cc0, cc1, cc2⟩ := HF1.out _ HK.out
   go_wp2_with fail
   refine (H3.out _ (HT.out.ch HK.out.ch).tb).mono ?_
   rintro e w3 ⟨rfl, hC⟩
   replace HK := Lib.hid (HK.out.on hC)
   clear hC cc0 cc1 cc2
   obtain ⟨cc0, cc1, cc2⟩ := HF1.out _ HK.out
   go_wp2_with fail
   go_ret
   exact ⟨by rw [HBV.out]; rfl, HK.out.ch⟩
  ·have HBV := Lib.hid (show false = b by rw [hbb, decide_eq_true h1, decide_eq_false h2]; rfl)
   clear hbb
   have HT := Lib.hid ht
   have HK := Lib.hid ((Kq.nil w).new #[.bool s, S n, S d] 26)
   obtain ⟨B, hB⟩ : ∃ B, w.heap.size = B := ⟨_, rfl⟩
   rw [hB] at HK
   have HBB := Lib.hid hB
   clear ht
   have HF1 := Lib.hid (show ∀ W, Kq w W [(B, 26, [.bool s, S n, S d])] → W.cell? ⟨B, 0, none⟩ = some (.bool s) ∧ W.cell? ⟨B, 1, none⟩ = some (S n) ∧ W.cell? ⟨B, 2, none⟩ = some (S d) from fun W h => ⟨(h.row _ mm0).cell 0, (h.row _ mm0).cell 1, (h.row _ mm0).cell 2⟩)
   obtain ⟨cc0, cc1, cc2⟩ := HF1.out _ HK.out
   go_enter Tryz.func39, Tryz.ntmps39
   go_wp2_with fail
   clear hB
   refine (H1.out _).mono ?_
   rintro e w1 ⟨rfl, hC⟩
   replace HK := Lib.hid (HK.out.on hC)
   clear hC cc0 cc1 cc2
   obtain ⟨cc0, cc1, cc2⟩ := HF1.out _ HK.out
   go_wp2_with fail
   refine (H2.out _).mono ?_
   rintro e w2 ⟨rfl, hC⟩
   replace HK := Lib.hid (HK.out.on hC)
   clear hC cc0 cc1 cc2
   obtain ⟨cc0, cc1, cc2⟩ := HF1.out _ HK.out
   go_wp2_with fail
   go_ret
   exact ⟨by rw [HBV.out]; rfl, HK.out.ch⟩
 ·have HBV := Lib.hid (show false = b by rw [hbb, decide_eq_false h1]; rfl)
  clear hbb
  have HT := Lib.hid ht
  have HK := Lib.hid ((Kq.nil w).new #[.bool s, S n, S d] 26)
  obtain ⟨B, hB⟩ : ∃ B, w.heap.size = B := ⟨_, rfl⟩
  rw [hB] at HK
  have HBB := Lib.hid hB
  clear ht
  have HF1 := Lib.hid (show ∀ W, Kq w W [(B, 26, [.bool s, S n, S d])] → W.cell? ⟨B, 0, none⟩ = some (.bool s) ∧ W.cell? ⟨B, 1, none⟩ = some (S n) ∧ W.cell? ⟨B, 2, none⟩ = some (S d) from fun W h => ⟨(h.row _ mm0).cell 0, (h.row _ mm0).cell 1, (h.row _ mm0).cell 2⟩)
  obtain ⟨cc0, cc1, cc2⟩ := HF1.out _ HK.out
  go_enter Tryz.func39, Tryz.ntmps39
  go_wp2_with fail
  clear hB
  refine (H1.out _).mono ?_
  rintro e w1 ⟨rfl, hC⟩
  replace HK := Lib.hid (HK.out.on hC)
  clear hC cc0 cc1 cc2
  obtain ⟨cc0, cc1, cc2⟩ := HF1.out _ HK.out
  go_wp2_with fail
  go_ret
  exact ⟨by rw [HBV.out]; rfl, HK.out.ch⟩
set_option maxHeartbeats 3200000 in
theorem C_mOf {c : Int} {r : Bool} {k f : List UInt8} (h1 : -9223372036854775808 ≤ c) (h2 : c ≤ 9223372036854775807) (ic : Is ((c : Rat) * (1 / 100)) r k f) : AnsM 20 #[.int .i64 c] (Rv r k f) := fun w ht => by
 obtain ⟨x, hx⟩ : ∃ x, nb c.natAbs = x := ⟨_, rfl⟩
 obtain ⟨M, hM⟩ : ∃ M, M = 8 := ⟨_, rfl⟩
 have lx := nbl' M hx (Nat.lt_of_lt_of_le (show c.natAbs < 256 ^ 8 by have : (256 : Nat) ^ 8 = 18446744073709551616 := rfl; omega) (Nat.pow_le_pow_right (by decide) (by omega)))
 have H1 := Lib.hid (C_Of c h1 h2 hx)
 have hr := ratOf_is (Is.int c hx)
 obtain ⟨s, hs⟩ : ∃ s, decide (c < 0) = s := ⟨_, rfl⟩
 rw [hs] at H1 hr
 have H2 := Lib.hid (C_Mul (s := s) (n := x) (d := [1]) (t := false) (m := [1]) (e := [100]) (by omega) (by decide) (by decide) (by decide) hr (ratOf_is cent_is) ic)
 clear hx hM lx hr hs ic
 have HT := Lib.hid ht
 have HK := Lib.hid (((Kq.nil w).add ht.cent).new #[.bool false, S [], S []] 26)
 have hgc := ht.cent.lt
 obtain ⟨B, hB⟩ : ∃ B, w.heap.size = B := ⟨_, rfl⟩
 rw [hB] at HK hgc
 have HBB := Lib.hid hB
 clear ht
 have HF1 := Lib.hid (show ∀ W, Kq w W [(B, 26, [.bool false, S [], S []]), (0, 26, [.bool false, S [1], S [100]])] → W.cell? ⟨B, 0, none⟩ = some (.bool false) ∧ W.cell? ⟨B, 1, none⟩ = some (S []) ∧ W.cell? ⟨B, 2, none⟩ = some (S []) ∧ W.cell? ⟨0, 0, none⟩ = some (.bool false) ∧ W.cell? ⟨0, 1, none⟩ = some (S [1]) ∧ W.cell? ⟨0, 2, none⟩ = some (S [100]) from fun W h => ⟨(h.row _ mm0).cell 0, (h.row _ mm0).cell 1, (h.row _ mm0).cell 2, (h.row _ mm1).cell 0, (h.row _ mm1).cell 1, (h.row _ mm1).cell 2⟩)
 obtain ⟨cc0, cc1, cc2, cc3, cc4, cc5⟩ := HF1.out _ HK.out
 go_enter Tryz.func20, Tryz.ntmps20
 go_wp2_with fail
 clear hB
 clear cc0 cc1 cc2 cc3 cc4 cc5
 replace HK := Lib.hid HK.out.drew
 have HNE := Lib.hid (show 0 ≠ B by omega)
 have HCC := Lib.hid (show ∀ W, Kq w W [(B, 26, [.bool false, S [], S []]), (0, 26, [.bool false, S [1], S [100]])] → W.cell? ⟨0, 0, none⟩ = some (.bool false) ∧ W.cell? ⟨0, 1, none⟩ = some (S [1]) ∧ W.cell? ⟨0, 2, none⟩ = some (S [100]) from fun W h => ⟨(h.row _ mm1).cell 0, (h.row _ mm1).cell 1, (h.row _ mm1).cell 2⟩)
 go_region_held3 (fun w' => w'.cell? ⟨0, 0, none⟩ = some (.bool false) ∧ w'.cell? ⟨0, 1, none⟩ = some (S [1]) ∧ w'.cell? ⟨0, 2, none⟩ = some (S [100]))
  (first
   | (with_reducible exact HCC.out _ HK.out)
   | (exact HK.out.cellsp (g := 0) (r := B) mm1 HNE.out _ _ _)
   | go_keep)
  (first
   | (go_at_call 60; (with_reducible refine (H1.out _).mono ?_); rintro e wq ⟨rfl, hCq⟩; replace HK := Lib.hid (HK.out.on hCq); clear hCq)
   | (go_at_call 59; (with_reducible refine (H2.out _ (HT.out.ch HK.out.ch).tb).mono ?_); rintro e wq ⟨rfl, hCq⟩; replace HK := Lib.hid (HK.out.on hCq); clear hCq; have e0 := (HK.out.row _ mm0).cell 0; have e1 := (HK.out.row _ mm0).cell 1; have e2 := (HK.out.row _ mm0).cell 2; have f0 := (HK.out.row _ mm0).frozen 0; have f1 := (HK.out.row _ mm0).frozen 1; have f2 := (HK.out.row _ mm0).frozen 2; simp only [List.getElem?_cons_zero, List.getElem?_cons_succ] at e0 e1 e2))
 go_wp2_with fail
 have hp := HK.out.put (g := B) mm0 (by have := HBB.out; omega) (.bool r) (S k) (S f)
 refine bodyPost_ret (results_cell_row (P := Tryz.prog) rfl _ _ (B) 26 _ (0, 0) _ rfl hp.1 Tryz.underlying26 rfl (by kernel_rfl)) rfl ?_
 exact ⟨rfl, hp.2⟩
set_option maxHeartbeats 3200000 in
theorem C_intOf_yes {s : Bool} {n d : List UInt8} {z : Int} (hn : n.length ≤ 1000) (hz : sv s (bv n) = z) (hs : s = true → 0 < bv n) (h1 : -9223372036854775808 ≤ z) (h2 : z ≤ 9223372036854775807) : AnsM 69 #[Rv s n d] (.tuple #[.int .i64 z, .bool true]) := fun w ht => by
 rcases s with _ | _
 ·have hz' : (bv n : Int) = z := hz
  have H1 := Lib.hid (C_int (a := n) (by omega) hz' h2)
  clear hz hs hz'
  have HT := Lib.hid ht
  have HK := Lib.hid ((Kq.nil w).new #[.bool false, S n, S d] 26)
  obtain ⟨B, hB⟩ : ∃ B, w.heap.size = B := ⟨_, rfl⟩
  rw [hB] at HK
  have HBB := Lib.hid hB
  clear ht
  have HF1 := Lib.hid (show ∀ W, Kq w W [(B, 26, [.bool false, S n, S d])] → W.cell? ⟨B, 0, none⟩ = some (.bool false) ∧ W.cell? ⟨B, 1, none⟩ = some (S n) ∧ W.cell? ⟨B, 2, none⟩ = some (S d) from fun W h => ⟨(h.row _ mm0).cell 0, (h.row _ mm0).cell 1, (h.row _ mm0).cell 2⟩)
  obtain ⟨cc0, cc1, cc2⟩ := HF1.out _ HK.out
  go_enter Tryz.func69, Tryz.ntmps69
  go_wp2_with fail
  clear hB
  refine (H1.out _).mono ?_
  rintro e w1 ⟨rfl, hC⟩
  replace HK := Lib.hid (HK.out.on hC)
  clear hC cc0 cc1 cc2
  obtain ⟨cc0, cc1, cc2⟩ := HF1.out _ HK.out
  go_wp2_with fail
  go_ret2
  exact ⟨rfl, HK.out.ch⟩
 ·have hz' : -(bv n : Int) = z := hz
  have h0 := hs rfl
  obtain ⟨l, hl, vl⟩ := has_nb (bv n - 1)
  obtain ⟨M, hM⟩ : ∃ M, M = 1000 := ⟨_, rfl⟩
  have ll := nbl' M hl (Nat.lt_of_le_of_lt (Nat.sub_le _ _) (bv_b (by omega)))
  obtain ⟨y, hy⟩ : ∃ y : Int, (bv l : Int) = y := ⟨_, rfl⟩
  have hyz : -y - 1 = z := by omega
  have H1 := Lib.hid (C_sub (a := n) (b := [1]) (n := bv n - 1) hl (by omega) (by decide) (by rw [show bv [1] = 1 from rfl]; omega))
  have H2 := Lib.hid (C_int (a := l) (k := y) (by omega) hy (by omega))
  have hyr : 0 ≤ y ∧ y ≤ 9223372036854775807 := by omega
  clear hz hs hz' h0 hl vl hM ll hy
  have HT := Lib.hid ht
  have HK := Lib.hid ((Kq.nil w).new #[.bool true, S n, S d] 26)
  obtain ⟨B, hB⟩ : ∃ B, w.heap.size = B := ⟨_, rfl⟩
  rw [hB] at HK
  have HBB := Lib.hid hB
  clear ht
  have HF1 := Lib.hid (show ∀ W, Kq w W [(B, 26, [.bool true, S n, S d])] → W.cell? ⟨B, 0, none⟩ = some (.bool true) ∧ W.cell? ⟨B, 1, none⟩ = some (S n) ∧ W.cell? ⟨B, 2, none⟩ = some (S d) from fun W h => ⟨(h.row _ mm0).cell 0, (h.row _ mm0).cell 1, (h.row _ mm0).cell 2⟩)
  obtain ⟨cc0, cc1, cc2⟩ := HF1.out _ HK.out
  go_enter Tryz.func69, Tryz.ntmps69
  go_wp2_with fail
  clear hB
  refine (H1.out _).mono ?_
  rintro e w1 ⟨rfl, hC⟩
  replace HK := Lib.hid (HK.out.on hC)
  clear hC cc0 cc1 cc2
  obtain ⟨cc0, cc1, cc2⟩ := HF1.out _ HK.out
  go_wp2_with fail
  refine (H2.out _).mono ?_
  rintro e w2 ⟨rfl, hC⟩
  replace HK := Lib.hid (HK.out.on hC)
  clear hC cc0 cc1 cc2
  obtain ⟨cc0, cc1, cc2⟩ := HF1.out _ HK.out
  go_wp2_with fail
  go_ret2
  exact ⟨rfl, HK.out.ch⟩
set_option maxHeartbeats 3200000 in
theorem C_intOf_no {s : Bool} {n d : List UInt8} (hn : n.length ≤ 1000) (hs : s = true → 0 < bv n) (h : sv s (bv n) < -9223372036854775808 ∨ 9223372036854775807 < sv s (bv n)) : AnsM 69 #[Rv s n d] (.tuple #[.int .i64 0, .bool false]) := fun w ht => by
 rcases s with _ | _
 ·have hz' : 9223372036854775807 < bv n := by
   have : sv false (bv n) = (bv n : Int) := rfl
   omega
  have H1 := Lib.hid (C_int_no (a := n) (by omega) hz')
  clear h hs hz'
  have HT := Lib.hid ht
  have HK := Lib.hid ((Kq.nil w).new #[.bool false, S n, S d] 26)
  obtain ⟨B, hB⟩ : ∃ B, w.heap.size = B := ⟨_, rfl⟩
  rw [hB] at HK
  have HBB := Lib.hid hB
  clear ht
  have HF1 := Lib.hid (show ∀ W, Kq w W [(B, 26, [.bool false, S n, S d])] → W.cell? ⟨B, 0, none⟩ = some (.bool false) ∧ W.cell? ⟨B, 1, none⟩ = some (S n) ∧ W.cell? ⟨B, 2, none⟩ = some (S d) from fun W h => ⟨(h.row _ mm0).cell 0, (h.row _ mm0).cell 1, (h.row _ mm0).cell 2⟩)
  obtain ⟨cc0, cc1, cc2⟩ := HF1.out _ HK.out
  go_enter Tryz.func69, Tryz.ntmps69
  go_wp2_with fail
  clear hB
  refine (H1.out _).mono ?_
  rintro e w1 ⟨rfl, hC⟩
  replace HK := Lib.hid (HK.out.on hC)
  clear hC cc0 cc1 cc2
  obtain ⟨cc0, cc1, cc2⟩ := HF1.out _ HK.out
  go_wp2_with fail
  go_ret2
  exact ⟨rfl, HK.out.ch⟩
 ·have h0 := hs rfl
  obtain ⟨l, hl, vl⟩ := has_nb (bv n - 1)
  obtain ⟨M, hM⟩ : ∃ M, M = 1000 := ⟨_, rfl⟩
  have ll := nbl' M hl (Nat.lt_of_le_of_lt (Nat.sub_le _ _) (bv_b (by omega)))
  have H1 := Lib.hid (C_sub (a := n) (b := [1]) (n := bv n - 1) hl (by omega) (by decide) (by rw [show bv [1] = 1 from rfl]; omega))
  have H2 := Lib.hid (C_int_no (a := l) (by omega) (by
   have : sv true (bv n) = -(bv n : Int) := rfl
   omega))
  clear h hs h0 hl vl hM ll
  have HT := Lib.hid ht
  have HK := Lib.hid ((Kq.nil w).new #[.bool true, S n, S d] 26)
  obtain ⟨B, hB⟩ : ∃ B, w.heap.size = B := ⟨_, rfl⟩
  rw [hB] at HK
  have HBB := Lib.hid hB
  clear ht
  have HF1 := Lib.hid (show ∀ W, Kq w W [(B, 26, [.bool true, S n, S d])] → W.cell? ⟨B, 0, none⟩ = some (.bool true) ∧ W.cell? ⟨B, 1, none⟩ = some (S n) ∧ W.cell? ⟨B, 2, none⟩ = some (S d) from fun W h => ⟨(h.row _ mm0).cell 0, (h.row _ mm0).cell 1, (h.row _ mm0).cell 2⟩)
  obtain ⟨cc0, cc1, cc2⟩ := HF1.out _ HK.out
  go_enter Tryz.func69, Tryz.ntmps69
  go_wp2_with fail
  clear hB
  refine (H1.out _).mono ?_
  rintro e w1 ⟨rfl, hC⟩
  replace HK := Lib.hid (HK.out.on hC)
  clear hC cc0 cc1 cc2
  obtain ⟨cc0, cc1, cc2⟩ := HF1.out _ HK.out
  go_wp2_with fail
  refine (H2.out _).mono ?_
  rintro e w2 ⟨rfl, hC⟩
  replace HK := Lib.hid (HK.out.on hC)
  clear hC cc0 cc1 cc2
  obtain ⟨cc0, cc1, cc2⟩ := HF1.out _ HK.out
  go_wp2_with fail
  go_ret2
  exact ⟨rfl, HK.out.ch⟩
def centsQ (q : Rat) : Option Int := if (q / (1 / 100)).den = 1 ∧ -9223372036854775808 ≤ (q / (1 / 100)).num ∧ (q / (1 / 100)).num ≤ 9223372036854775807 then some (q / (1 / 100)).num else none
def centsV : Option Int → Value
 | some z => .tuple #[.int .i64 z, .bool true]
 | none => .tuple #[.int .i64 0, .bool false]
def centsR (s : Bool) (n d : List UInt8) : Option Int := if rightR s n d = true then centsQ (ratOf s n d) else none
theorem cent_ne : (1 / 100 : Rat) ≠ 0 := by decide +kernel
theorem den_one {q : Rat} {s : Bool} {n d : List UInt8} (h : Is q s n d) : d = [1] ↔ q.den = 1 := by
 constructor
 ·rintro rfl
  exact h.vd.symm
 ·intro e
  rw [← h.den, e, nb_one]
set_option maxHeartbeats 3200000 in
theorem C_Cents {s : Bool} {n d : List UInt8} {o : Option Int} (hn : n.length ≤ 900) (hd : d.length ≤ 900) (ho : centsR s n d = o) : AnsM 29 #[Rv s n d] (centsV o) := fun w ht => by
 obtain ⟨r, hr⟩ : ∃ r, rightR s n d = r := ⟨_, rfl⟩
 have H1 := Lib.hid (C_Right (s := s) (by omega) (by omega) hr)
 unfold centsR at ho
 rw [hr] at ho
 rcases r with _ | _
 ·rw [if_neg (by simp)] at ho
  subst ho
  clear hr hn hd
  have HT := Lib.hid ht
  have HK := Lib.hid ((Kq.nil w).new #[.bool s, S n, S d] 26)
  obtain ⟨B, hB⟩ : ∃ B, w.heap.size = B := ⟨_, rfl⟩
  rw [hB] at HK
  have HBB := Lib.hid hB
  clear ht
  have HF1 := Lib.hid (show ∀ W, Kq w W [(B, 26, [.bool s, S n, S d])] → W.cell? ⟨B, 0, none⟩ = some (.bool s) ∧ W.cell? ⟨B, 1, none⟩ = some (S n) ∧ W.cell? ⟨B, 2, none⟩ = some (S d) from fun W h => ⟨(h.row _ mm0).cell 0, (h.row _ mm0).cell 1, (h.row _ mm0).cell 2⟩)
  obtain ⟨cc0, cc1, cc2⟩ := HF1.out _ HK.out
  go_enter Tryz.func29, Tryz.ntmps29
  go_wp2_with fail
  clear hB
  refine (H1.out _ (HT.out.ch HK.out.ch).tb).mono ?_
  rintro e w1 ⟨rfl, hC⟩
  replace HK := Lib.hid (HK.out.on hC)
  clear hC cc0 cc1 cc2
  obtain ⟨cc0, cc1, cc2⟩ := HF1.out _ HK.out
  go_wp2_with fail
  go_ret2
  exact ⟨rfl, HK.out.ch⟩
 ·rw [if_pos rfl] at ho
  obtain ⟨a, ha⟩ : ∃ a, ratOf s n d = a := ⟨_, rfl⟩
  rw [ha] at ho
  obtain ⟨s1, n1, d1, ic⟩ := Is.ex (a / (1 / 100))
  have za : Szq a 900 := by rw [← ha]; exact Szq.of_len hn hd (by omega)
  have zc : Szq (1 / 100 : Rat) 1 := by constructor <;> decide +kernel
  obtain ⟨l1, l2⟩ := (za.div zc cent_ne).len ic
  have H2 := Lib.hid (C_Quo (s := s) (n := n) (d := d) (t := false) (m := [1]) (e := [100]) (by omega) (by omega) (by decide) (by decide) ha (ratOf_is cent_is) cent_ne ic)
  have hsv := ic.val
  have hden := den_one ic
  have hpos : s1 = true → 0 < bv n1 := fun e => by
   have h1 := ic.sgn
   rw [e] at h1
   have h2 := of_decide_eq_true h1
   rw [ic.vn]
   omega
  by_cases hd1 : d1 = [1]
  ·have hq := hden.1 hd1
   subst hd1
   by_cases hb : -9223372036854775808 ≤ (a / (1 / 100)).num ∧ (a / (1 / 100)).num ≤ 9223372036854775807
   ·have ho2 : centsQ a = some (a / (1 / 100)).num := by unfold centsQ; rw [if_pos ⟨hq, hb.1, hb.2⟩]
    rw [ho2] at ho
    subst ho
    obtain ⟨z, hz⟩ : ∃ z, (a / (1 / 100)).num = z := ⟨_, rfl⟩
    rw [hz] at hb hsv ⊢
    have H3 := Lib.hid (C_intOf_yes (d := [1]) (by omega) hsv hpos hb.1 hb.2)
    clear hz hb ho2 hsv hden hpos hq l1 l2 za zc ic ha hn hd hr
    have HT := Lib.hid ht
    have HK := Lib.hid (((Kq.nil w).add ht.cent).new #[.bool s, S n, S d] 26)
    have hgc := ht.cent.lt
    obtain ⟨B, hB⟩ : ∃ B, w.heap.size = B := ⟨_, rfl⟩
    rw [hB] at HK hgc
    have HBB := Lib.hid hB
    clear ht
    have HF1 := Lib.hid (show ∀ W, Kq w W [(B, 26, [.bool s, S n, S d]), (0, 26, [.bool false, S [1], S [100]])] → W.cell? ⟨B, 0, none⟩ = some (.bool s) ∧ W.cell? ⟨B, 1, none⟩ = some (S n) ∧ W.cell? ⟨B, 2, none⟩ = some (S d) ∧ W.cell? ⟨0, 0, none⟩ = some (.bool false) ∧ W.cell? ⟨0, 1, none⟩ = some (S [1]) ∧ W.cell? ⟨0, 2, none⟩ = some (S [100]) from fun W h => ⟨(h.row _ mm0).cell 0, (h.row _ mm0).cell 1, (h.row _ mm0).cell 2, (h.row _ mm1).cell 0, (h.row _ mm1).cell 1, (h.row _ mm1).cell 2⟩)
    obtain ⟨cc0, cc1, cc2, cc3, cc4, cc5⟩ := HF1.out _ HK.out
    go_enter Tryz.func29, Tryz.ntmps29
    go_wp2_with fail
    clear hB
    refine (H1.out _ (HT.out.ch HK.out.ch).tb).mono ?_
    rintro e w1 ⟨rfl, hC⟩
    replace HK := Lib.hid (HK.out.on hC)
    clear hC cc0 cc1 cc2 cc3 cc4 cc5
    obtain ⟨cc0, cc1, cc2, cc3, cc4, cc5⟩ := HF1.out _ HK.out
    go_wp2_with fail
    refine (H2.out _ (HT.out.ch HK.out.ch).tb).mono ?_
    rintro e w2 ⟨rfl, hC⟩
    replace HK := Lib.hid (HK.out.on hC)
    clear hC cc0 cc1 cc2 cc3 cc4 cc5
    obtain ⟨cc0, cc1, cc2, cc3, cc4, cc5⟩ := HF1.out _ HK.out
    have hall := fun o : Obj => HF1.out _ (HK.out.other o)
    have dd0 : ∀ o : Obj, (w2.alloc o).cell? ⟨B, 0, none⟩ = some (.bool s) := fun o => (hall o).1
    have dd1 : ∀ o : Obj, (w2.alloc o).cell? ⟨B, 1, none⟩ = some (S n) := fun o => (hall o).2.1
    have dd2 : ∀ o : Obj, (w2.alloc o).cell? ⟨B, 2, none⟩ = some (S d) := fun o => (hall o).2.2.1
    have dd3 : ∀ o : Obj, (w2.alloc o).cell? ⟨0, 0, none⟩ = some (.bool false) := fun o => (hall o).2.2.2.1
    have dd4 : ∀ o : Obj, (w2.alloc o).cell? ⟨0, 1, none⟩ = some (S [1]) := fun o => (hall o).2.2.2.2.1
    have dd5 : ∀ o : Obj, (w2.alloc o).cell? ⟨0, 2, none⟩ = some (S [100]) := fun o => (hall o).2.2.2.2.2
    clear hall
    go_wp2_with fail
    clear cc0 cc1 cc2 cc3 cc4 cc5 dd0 dd1 dd2 dd3 dd4 dd5
    have HK2 := Lib.hid (HK.out.new #[.bool s1, S n1, S [1]] 26)
    obtain ⟨w3, hW⟩ : ∃ W, w2.alloc (.cells #[.bool s1, S n1, S [1]] 26 (0, 0)) = W := ⟨_, rfl⟩
    rw [hW] at HK2 ⊢
    obtain ⟨Q, hA⟩ : ∃ A, w2.heap.size = A := ⟨_, rfl⟩
    rw [hA] at HK2 ⊢
    clear hA hW HK
    have HK := HK2
    clear HK2
    have HF2 := Lib.hid (show ∀ W, Kq w W [(Q, 26, [.bool s1, S n1, S [1]]), (B, 26, [.bool s, S n, S d]), (0, 26, [.bool false, S [1], S [100]])] → W.cell? ⟨Q, 0, none⟩ = some (.bool s1) ∧ W.cell? ⟨Q, 1, none⟩ = some (S n1) ∧ W.cell? ⟨Q, 2, none⟩ = some (S [1]) ∧ W.cell? ⟨B, 0, none⟩ = some (.bool s) ∧ W.cell? ⟨B, 1, none⟩ = some (S n) ∧ W.cell? ⟨B, 2, none⟩ = some (S d) ∧ W.cell? ⟨0, 0, none⟩ = some (.bool false) ∧ W.cell? ⟨0, 1, none⟩ = some (S [1]) ∧ W.cell? ⟨0, 2, none⟩ = some (S [100]) from fun W h => ⟨(h.row _ mm0).cell 0, (h.row _ mm0).cell 1, (h.row _ mm0).cell 2, (h.row _ mm1).cell 0, (h.row _ mm1).cell 1, (h.row _ mm1).cell 2, (h.row _ mm2).cell 0, (h.row _ mm2).cell 1, (h.row _ mm2).cell 2⟩)
    obtain ⟨cc0, cc1, cc2, cc3, cc4, cc5, cc6, cc7, cc8⟩ := HF2.out _ HK.out
    refine (H3.out _ (HT.out.ch HK.out.ch)).mono ?_
    rintro e w4 ⟨rfl, hC⟩
    replace HK := Lib.hid (HK.out.on hC)
    clear hC cc0 cc1 cc2 cc3 cc4 cc5 cc6 cc7 cc8
    obtain ⟨cc0, cc1, cc2, cc3, cc4, cc5, cc6, cc7, cc8⟩ := HF2.out _ HK.out
    go_wp2_with fail
    go_ret2
    exact ⟨rfl, HK.out.ch⟩
   ·have ho2 : centsQ a = none := by unfold centsQ; rw [if_neg (fun h => hb h.2)]
    rw [ho2] at ho
    subst ho
    have H3 := Lib.hid (C_intOf_no (d := [1]) (n := n1) (s := s1) (by omega) hpos (by rw [hsv]; omega))
    clear hb ho2 hsv hden hpos hq l1 l2 za zc ic ha hn hd hr
    have HT := Lib.hid ht
    have HK := Lib.hid (((Kq.nil w).add ht.cent).new #[.bool s, S n, S d] 26)
    have hgc := ht.cent.lt
    obtain ⟨B, hB⟩ : ∃ B, w.heap.size = B := ⟨_, rfl⟩
    rw [hB] at HK hgc
    have HBB := Lib.hid hB
    clear ht
    have HF1 := Lib.hid (show ∀ W, Kq w W [(B, 26, [.bool s, S n, S d]), (0, 26, [.bool false, S [1], S [100]])] → W.cell? ⟨B, 0, none⟩ = some (.bool s) ∧ W.cell? ⟨B, 1, none⟩ = some (S n) ∧ W.cell? ⟨B, 2, none⟩ = some (S d) ∧ W.cell? ⟨0, 0, none⟩ = some (.bool false) ∧ W.cell? ⟨0, 1, none⟩ = some (S [1]) ∧ W.cell? ⟨0, 2, none⟩ = some (S [100]) from fun W h => ⟨(h.row _ mm0).cell 0, (h.row _ mm0).cell 1, (h.row _ mm0).cell 2, (h.row _ mm1).cell 0, (h.row _ mm1).cell 1, (h.row _ mm1).cell 2⟩)
    obtain ⟨cc0, cc1, cc2, cc3, cc4, cc5⟩ := HF1.out _ HK.out
    go_enter Tryz.func29, Tryz.ntmps29
    go_wp2_with fail
    clear hB
    refine (H1.out _ (HT.out.ch HK.out.ch).tb).mono ?_
    rintro e w1 ⟨rfl, hC⟩
    replace HK := Lib.hid (HK.out.on hC)
    clear hC cc0 cc1 cc2 cc3 cc4 cc5
    obtain ⟨cc0, cc1, cc2, cc3, cc4, cc5⟩ := HF1.out _ HK.out
    go_wp2_with fail
    refine (H2.out _ (HT.out.ch HK.out.ch).tb).mono ?_
    rintro e w2 ⟨rfl, hC⟩
    replace HK := Lib.hid (HK.out.on hC)
    clear hC cc0 cc1 cc2 cc3 cc4 cc5
    obtain ⟨cc0, cc1, cc2, cc3, cc4, cc5⟩ := HF1.out _ HK.out
    have hall := fun o : Obj => HF1.out _ (HK.out.other o)
    have dd0 : ∀ o : Obj, (w2.alloc o).cell? ⟨B, 0, none⟩ = some (.bool s) := fun o => (hall o).1
    have dd1 : ∀ o : Obj, (w2.alloc o).cell? ⟨B, 1, none⟩ = some (S n) := fun o => (hall o).2.1
    have dd2 : ∀ o : Obj, (w2.alloc o).cell? ⟨B, 2, none⟩ = some (S d) := fun o => (hall o).2.2.1
    have dd3 : ∀ o : Obj, (w2.alloc o).cell? ⟨0, 0, none⟩ = some (.bool false) := fun o => (hall o).2.2.2.1
    have dd4 : ∀ o : Obj, (w2.alloc o).cell? ⟨0, 1, none⟩ = some (S [1]) := fun o => (hall o).2.2.2.2.1
    have dd5 : ∀ o : Obj, (w2.alloc o).cell? ⟨0, 2, none⟩ = some (S [100]) := fun o => (hall o).2.2.2.2.2
    clear hall
    go_wp2_with fail
    clear cc0 cc1 cc2 cc3 cc4 cc5 dd0 dd1 dd2 dd3 dd4 dd5
    have HK2 := Lib.hid (HK.out.new #[.bool s1, S n1, S [1]] 26)
    obtain ⟨w3, hW⟩ : ∃ W, w2.alloc (.cells #[.bool s1, S n1, S [1]] 26 (0, 0)) = W := ⟨_, rfl⟩
    rw [hW] at HK2 ⊢
    obtain ⟨Q, hA⟩ : ∃ A, w2.heap.size = A := ⟨_, rfl⟩
    rw [hA] at HK2 ⊢
    clear hA hW HK
    have HK := HK2
    clear HK2
    have HF2 := Lib.hid (show ∀ W, Kq w W [(Q, 26, [.bool s1, S n1, S [1]]), (B, 26, [.bool s, S n, S d]), (0, 26, [.bool false, S [1], S [100]])] → W.cell? ⟨Q, 0, none⟩ = some (.bool s1) ∧ W.cell? ⟨Q, 1, none⟩ = some (S n1) ∧ W.cell? ⟨Q, 2, none⟩ = some (S [1]) ∧ W.cell? ⟨B, 0, none⟩ = some (.bool s) ∧ W.cell? ⟨B, 1, none⟩ = some (S n) ∧ W.cell? ⟨B, 2, none⟩ = some (S d) ∧ W.cell? ⟨0, 0, none⟩ = some (.bool false) ∧ W.cell? ⟨0, 1, none⟩ = some (S [1]) ∧ W.cell? ⟨0, 2, none⟩ = some (S [100]) from fun W h => ⟨(h.row _ mm0).cell 0, (h.row _ mm0).cell 1, (h.row _ mm0).cell 2, (h.row _ mm1).cell 0, (h.row _ mm1).cell 1, (h.row _ mm1).cell 2, (h.row _ mm2).cell 0, (h.row _ mm2).cell 1, (h.row _ mm2).cell 2⟩)
    obtain ⟨cc0, cc1, cc2, cc3, cc4, cc5, cc6, cc7, cc8⟩ := HF2.out _ HK.out
    refine (H3.out _ (HT.out.ch HK.out.ch)).mono ?_
    rintro e w4 ⟨rfl, hC⟩
    replace HK := Lib.hid (HK.out.on hC)
    clear hC cc0 cc1 cc2 cc3 cc4 cc5 cc6 cc7 cc8
    obtain ⟨cc0, cc1, cc2, cc3, cc4, cc5, cc6, cc7, cc8⟩ := HF2.out _ HK.out
    go_wp2_with fail
    go_ret2
    exact ⟨rfl, HK.out.ch⟩
  ·have ho2 : centsQ a = none := by unfold centsQ; rw [if_neg (fun h => hd1 (hden.2 h.1))]
   rw [ho2] at ho
   subst ho
   have hb1 : (d1 == [1]) = false := beq_no hd1
   clear ho2 hsv hden hpos l1 l2 za zc ic ha hn hd hr
   have HT := Lib.hid ht
   have HK := Lib.hid (((Kq.nil w).add ht.cent).new #[.bool s, S n, S d] 26)
   have hgc := ht.cent.lt
   obtain ⟨B, hB⟩ : ∃ B, w.heap.size = B := ⟨_, rfl⟩
   rw [hB] at HK hgc
   have HBB := Lib.hid hB
   clear ht
   have HF1 := Lib.hid (show ∀ W, Kq w W [(B, 26, [.bool s, S n, S d]), (0, 26, [.bool false, S [1], S [100]])] → W.cell? ⟨B, 0, none⟩ = some (.bool s) ∧ W.cell? ⟨B, 1, none⟩ = some (S n) ∧ W.cell? ⟨B, 2, none⟩ = some (S d) ∧ W.cell? ⟨0, 0, none⟩ = some (.bool false) ∧ W.cell? ⟨0, 1, none⟩ = some (S [1]) ∧ W.cell? ⟨0, 2, none⟩ = some (S [100]) from fun W h => ⟨(h.row _ mm0).cell 0, (h.row _ mm0).cell 1, (h.row _ mm0).cell 2, (h.row _ mm1).cell 0, (h.row _ mm1).cell 1, (h.row _ mm1).cell 2⟩)
   obtain ⟨cc0, cc1, cc2, cc3, cc4, cc5⟩ := HF1.out _ HK.out
   go_enter Tryz.func29, Tryz.ntmps29
   go_wp2_with fail
   clear hB
   refine (H1.out _ (HT.out.ch HK.out.ch).tb).mono ?_
   rintro e w1 ⟨rfl, hC⟩
   replace HK := Lib.hid (HK.out.on hC)
   clear hC cc0 cc1 cc2 cc3 cc4 cc5
   obtain ⟨cc0, cc1, cc2, cc3, cc4, cc5⟩ := HF1.out _ HK.out
   go_wp2_with fail
   refine (H2.out _ (HT.out.ch HK.out.ch).tb).mono ?_
   rintro e w2 ⟨rfl, hC⟩
   replace HK := Lib.hid (HK.out.on hC)
   clear hC cc0 cc1 cc2 cc3 cc4 cc5
   obtain ⟨cc0, cc1, cc2, cc3, cc4, cc5⟩ := HF1.out _ HK.out
   have hall := fun o : Obj => HF1.out _ (HK.out.other o)
   have dd0 : ∀ o : Obj, (w2.alloc o).cell? ⟨B, 0, none⟩ = some (.bool s) := fun o => (hall o).1
   have dd1 : ∀ o : Obj, (w2.alloc o).cell? ⟨B, 1, none⟩ = some (S n) := fun o => (hall o).2.1
   have dd2 : ∀ o : Obj, (w2.alloc o).cell? ⟨B, 2, none⟩ = some (S d) := fun o => (hall o).2.2.1
   have dd3 : ∀ o : Obj, (w2.alloc o).cell? ⟨0, 0, none⟩ = some (.bool false) := fun o => (hall o).2.2.2.1
   have dd4 : ∀ o : Obj, (w2.alloc o).cell? ⟨0, 1, none⟩ = some (S [1]) := fun o => (hall o).2.2.2.2.1
   have dd5 : ∀ o : Obj, (w2.alloc o).cell? ⟨0, 2, none⟩ = some (S [100]) := fun o => (hall o).2.2.2.2.2
   clear hall
   have nb := Blk.new w2 #[.bool s1, S n1, S d1] 26
   have nb2 := nb.cell 2
   simp only [List.getElem?_cons_zero, List.getElem?_cons_succ] at nb2
   have HNB := Lib.hid (HK.out.other (.cells #[.bool s1, S n1, S d1] 26))
   clear nb
   go_wp2_with fail
   go_ret2
   exact ⟨rfl, HNB.out.ch⟩
end Go.Proofs.YtkeomlpecjjhiaaGreatDoor
