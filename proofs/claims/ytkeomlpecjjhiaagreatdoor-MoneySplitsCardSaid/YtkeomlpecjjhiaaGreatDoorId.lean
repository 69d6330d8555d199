/- The reference of layer 4: Fits, Cents. -/
import Derived.Test.YtkeomlpecjjhiaaGreatDoorAz
namespace Go.Proofs.YtkeomlpecjjhiaaGreatDoor
open Go.RowKit
set_option maxRecDepth 100000
theorem nbits_step (d : Nat) (h : d ≠ 0) : nbits d = nbits (d / 2) + 1 := by rw [nbits]; simp [h]
theorem nbits_head (b : UInt8) (l : List UInt8) (hb : ¬ b = 0) : nbits (bv (b :: l)) = 8 * l.length + nbits b.toNat := by
 have h0 : b.toNat ≠ 0 := fun h => hb (UInt8.toNat_inj.1 (by simpa using h))
 have h1 := (nbits_iff b.toNat (nbits b.toNat)).1 (Nat.le_refl _)
 have hp : 1 ≤ nbits b.toNat := by rw [nbits_step _ h0]; omega
 have h2 := mt (nbits_iff b.toNat (nbits b.toNat - 1)).2 (by omega)
 exact nbits_byte b l (nbits b.toNat) h1 (by omega) hp
set_option maxHeartbeats 800000 in
theorem refBits_any (a : List UInt8) (w : World) (ha : a.length ≤ 1152921504606846975) :
  Calls Tryz.prog 88 #[S a] w fun e w' => e = .returned (.int .i64 (nbits (bv a) : Nat)) ∧ w' = w := by
 have ha1 := trimL_len a
 have hbv := bv_trim a
 have hr := rt_trim a
 have HC0 := Lib.hid (canon_any a)
 obtain ⟨l, hl⟩ : ∃ l, trimL a = l := ⟨_, rfl⟩
 rw [hl] at ha1 hbv hr HC0
 clear hl
 rcases hr with rfl | ⟨b, m, rfl, hb⟩
 ·have hz : nbits (bv a) = 0 := by rw [← hbv]; exact nbits_zero
  rw [hz]
  go_enter Tryz.func88, Tryz.ntmps88
  go_wp2_with fail
  refine (HC0.out _ ha).mono ?_
  rintro e w' ⟨rfl, rfl⟩
  go_wp2_with fail
  go_ret
  exact ⟨rfl, rfl⟩
 ·have hh := nbits_head b m hb
  rw [hbv] at hh
  obtain ⟨T, hT⟩ : ∃ T, nbits (bv a) = T := ⟨_, rfl⟩
  rw [hT] at hh ⊢
  have h8 := (nbits_iff b.toNat 8).2 (by have := u8_lt b; omega)
  have hbb := u8_lt b
  have HH := Lib.hid hh
  have hTb : T ≤ 8 * m.length + 8 := by omega
  have hml : m.length ≤ 1152921504606846974 := by simp at ha1; omega
  have hlen : (((b :: m).length : Nat) : Int) = (m.length : Int) + 1 := by simp
  have HST := Lib.hid nbits_step
  have hg0 : ∀ h', (ByteArray.mk (b :: m).toArray)[0]'h' = b := fun _ => rfl
  clear hbv hT hh h8
  go_enter Tryz.func88, Tryz.ntmps88
  go_wp2_with fail
  refine (HC0.out _ ha).mono ?_
  rintro e w' ⟨rfl, rfl⟩
  go_wp2_with fail
  go_loop [3, 4] (fun n d => ∃ (nN dN : Nat), n = I nN ∧ d = I dN ∧ nN + nbits dN = T ∧ dN < 256) (fun _ d => (intOf d).toNat)
  case atStart => exact ⟨8 * m.length, b.toNat, by go_num, rfl, HH.out.symm, hbb⟩
  case round =>
   obtain ⟨nN, dN, rfl, rfl, hsum, hd⟩ := hrel
   have HSUM := Lib.hid hsum
   have hnT : nN ≤ T := by omega
   clear hsum
   by_cases h0 : dN = 0
   ·subst h0
    go_wp2_with fail
    go_ret
    exact ⟨ret_nat (by have := HSUM.out; rw [nbits_zero] at this; omega), rfl⟩
   ·have hst := HST.out dN h0
    have hpos : (0 : Int) < (dN : Int) := by omega
    have HS1 := Lib.hid hst
    have hq : (dN : Int).tdiv 2 = ((dN / 2 : Nat) : Int) := by rw [Int.tdiv_eq_ediv_of_nonneg (by omega)]; omega
    clear hst
    go_wp2_with fail
    go_round
    case rel => exact ⟨nN + 1, dN / 2, by go_num, by go_num, by have := HSUM.out; have := HS1.out; omega, by omega⟩
    case measure => simp [intOf]; omega
theorem C_refBits {a : List UInt8} {k : Int} (ha : a.length ≤ 10000) (hn : (nbits (bv a) : Int) = k) : Ans 88 #[S a] (.int .i64 k) := fun w =>
 (refBits_any a w (by omega)).mono fun _ _ ⟨he, hC⟩ => ⟨by rw [he, hn], ch_same hC⟩
set_option maxHeartbeats 6400000 in
theorem C_rFits {s b : Bool} {n d : List UInt8} (hn : n.length ≤ 1000) (hd : d.length ≤ 1000) (hb : fitsB s n d = b) : AnsM 51 #[Rv s n d] (.bool b) := fun w ht => by
 obtain ⟨k1, hk1⟩ : ∃ k : Int, (nbits (bv n) : Int) = k := ⟨_, rfl⟩
 obtain ⟨k2, hk2⟩ : ∃ k : Int, (nbits (bv d) : Int) = k := ⟨_, rfl⟩
 obtain ⟨r, hr⟩ : ∃ r, rightR s n d = r := ⟨_, rfl⟩
 have H1 := Lib.hid (C_rRight (s := s) hn hd hr)
 have H2 := Lib.hid (C_refBits (a := n) (by omega) hk1)
 have H3 := Lib.hid (C_refBits (a := d) (by omega) hk2)
 have hbb : b = (decide (k1 ≤ 400) && (decide (k2 ≤ 400) && r)) := by
  rw [← hb, ← hk1, ← hk2, ← hr]
  unfold fitsB
  congr 1
  ·exact decide_eq_decide.2 (by omega)
  ·congr 1
   exact decide_eq_decide.2 (by omega)
 have hp1 : 0 ≤ k1 := by omega
 have hp2 : 0 ≤ k2 := by omega
 clear hb hk1 hk2 hr hn hd
 cases r with
 | false =>
  have HBV := Lib.hid (show false = b by rw [hbb]; simp)
  clear hbb
  have HT := Lib.hid ht
  have HK := Lib.hid ((Kq.nil w).new #[.bool s, S n, S d] 26)
  obtain ⟨B, hB⟩ : ∃ B, w.heap.size = B := ⟨_, rfl⟩
  rw [hB] at HK
  have HBB := Lib.hid hB
  clear ht
  have HF1 := Lib.hid (show ∀ W, Kq w W [(B, 26, [.bool s, S n, S d])] → W.cell? ⟨B, 0, none⟩ = some (.bool s) ∧ W.cell? ⟨B, 1, none⟩ = some (S n) ∧ W.cell? ⟨B, 2, none⟩ = some (S d) from fun W h => ⟨(h.row _ mm0).cell 0, (h.row _ mm0).cell 1, (h.row _ mm0).cell 2⟩)
  obtain ⟨cc0, cc1, cc2⟩ := HF1.out _ HK.out
  go_enter Tryz.func51, Tryz.ntmps51
  go_wp2_with fail
  clear hB
  refine (H1.out _).mono ?_
  rintro e w1 ⟨rfl, hC⟩
  replace HK := Lib.hid (HK.out.on hC)
  clear hC cc0 cc1 cc2
  obtain ⟨cc0, cc1, cc2⟩ := HF1.out _ HK.out
  go_wp2_with fail
  go_ret
  exact ⟨by rw [← HBV.out]; first | rfl | simp [*], HK.out.ch⟩
 | true =>
  by_cases h1 : k1 ≤ 400
  ·have HBV := Lib.hid (show decide (k2 ≤ 400) = b by rw [hbb, decide_eq_true h1]; simp)
   clear hbb
   have HT := Lib.hid ht
   have HK := Lib.hid ((Kq.nil w).new #[.bool s, S n, S d] 26)
   obtain ⟨B, hB⟩ : ∃ B, w.heap.size = B := ⟨_, rfl⟩
   rw [hB] at HK
   have HBB := Lib.hid hB
   clear ht
   have HF1 := Lib.hid (show ∀ W, Kq w W [(B, 26, [.bool s, S n, S d])] → W.cell? ⟨B, 0, none⟩ = some (.bool s) ∧ W.cell? ⟨B, 1, none⟩ = some (S n) ∧ W.cell? ⟨B, 2, none⟩ = some (S d) from fun W h => ⟨(h.row _ mm0).cell 0, (h.row _ mm0).cell 1, (h.row _ mm0).cell 2⟩)
   obtain ⟨cc0, cc1, cc2⟩ := HF1.out _ HK.out
   go_enter Tryz.func51, Tryz.ntmps51
   go_wp2_with fail
   clear hB
   refine (H1.out _).mono ?_
   rintro e w1 ⟨rfl, hC⟩
   replace HK := Lib.hid (HK.out.on hC)
   clear hC cc0 cc1 cc2
   obtain ⟨cc0, cc1, cc2⟩ := HF1.out _ HK.out
   go_wp2_with fail
   refine (H2.out _).mono ?_
   rintro e w2 ⟨rfl, hC⟩
   replace HK := Lib.hid (HK.out.on hC)
   clear hC cc0 cc1 cc2
   obtain ⟨cc0, cc1, cc2⟩ := HF1.out _ HK.out
   go_wp2_with fail
   refine (H3.out _).mono ?_
   rintro e w3 ⟨rfl, hC⟩
   replace HK := Lib.hid (HK.out.on hC)
   clear hC cc0 cc1 cc2
   obtain ⟨cc0, cc1, cc2⟩ := HF1.out _ HK.out
   go_wp2_with fail
   go_ret
   exact ⟨by rw [← HBV.out]; first | rfl | simp [*], HK.out.ch⟩
  ·have HBV := Lib.hid (show false = b by rw [hbb, decide_eq_false h1]; rfl)
   clear hbb
   have HT := Lib.hid ht
   have HK := Lib.hid ((Kq.nil w).new #[.bool s, S n, S d] 26)
   obtain ⟨B, hB⟩ : ∃ B, w.heap.size = B := ⟨_, rfl⟩
   rw [hB] at HK
   have HBB := Lib.hid hB
   clear ht
   have HF1 := Lib.hid (show ∀ W, Kq w W [(B, 26, [.bool s, S n, S d])] → W.cell? ⟨B, 0, none⟩ = some (.bool s) ∧ W.cell? ⟨B, 1, none⟩ = some (S n) ∧ W.cell? ⟨B, 2, none⟩ = some (S d) from fun W h => ⟨(h.row _ mm0).cell 0, (h.row _ mm0).cell 1, (h.row _ mm0).cell 2⟩)
   obtain ⟨cc0, cc1, cc2⟩ := HF1.out _ HK.out
   go_enter Tryz.func51, Tryz.ntmps51
   go_wp2_with fail
   clear hB
   refine (H1.out _).mono ?_
   rintro e w1 ⟨rfl, hC⟩
   replace HK := Lib.hid (HK.out.on hC)
   clear hC cc0 cc1 cc2
   obtain ⟨cc0, cc1, cc2⟩ := HF1.out _ HK.out
   go_wp2_with fail
   refine (H2.out _).mono ?_
   rintro e w2 ⟨rfl, hC⟩
   replace HK := Lib.hid (HK.out.on hC)
   clear hC cc0 cc1 cc2
   obtain ⟨cc0, cc1, cc2⟩ := HF1.out _ HK.out
   go_wp2_with fail
   go_ret
   exact ⟨by rw [← HBV.out]; first | rfl | simp [*], HK.out.ch⟩
theorem cents_mul (a : Rat) : a / (1 / 100) = a * 100 := by
 rw [Rat.div_def, show ((1 / 100 : Rat))⁻¹ = 100 by decide +kernel]
theorem i_100 : Is (100 : Rat) false [100] [1] := ⟨by decide +kernel, by decide +kernel, by decide +kernel⟩
theorem C_rOf100 : Ans 17 #[.int .i64 100] (Rv false [100] [1]) := C_rOf 100 (by decide) (by decide) (show nb (100 : Int).natAbs = [100] from nb_is [100] _ (by decide) (by decide))
theorem C_rint {a : List UInt8} {k : Int} (ha : a.length ≤ 10000) (hk : (bv a : Int) = k) (h : k ≤ 9223372036854775807) : Ans 86 #[S a] (.tuple #[.int .i64 k, .bool true]) := fun w =>
 (refInt_yes a w (by omega) (by omega)).mono fun _ _ ⟨he, hC⟩ => ⟨by rw [he, hk], ch_same hC⟩
theorem C_rint_no {a : List UInt8} (ha : a.length ≤ 10000) (h : 9223372036854775807 < bv a) : Ans 86 #[S a] (.tuple #[.int .i64 0, .bool false]) := fun w =>
 (refInt_no a w (by omega) (by omega)).mono fun _ _ ⟨he, hC⟩ => ⟨he, ch_same hC⟩
set_option maxHeartbeats 6400000 in
theorem C_rCents {s : Bool} {n d : List UInt8} {o : Option Int} (hn : n.length ≤ 390) (hd : d.length ≤ 390) (ho : centsR s n d = o) : AnsM 49 #[Rv s n d] (centsV o) := fun w ht => by
 obtain ⟨r, hr⟩ : ∃ r, rightR s n d = r := ⟨_, rfl⟩
 have H1 := Lib.hid (C_rRight (s := s) (by omega) (by omega) hr)
 unfold centsR at ho
 rw [hr] at ho
 rcases r with _ | _
 ·rw [if_neg (by simp)] at ho
  subst ho
  clear hr hn hd
  have HT := Lib.hid ht
  have HK := Lib.hid ((Kq.nil w).new #[.bool s, S n, S d] 26)
  obtain ⟨B, hB⟩ : ∃ B, w.heap.size = B := ⟨_, rfl⟩
  rw [hB] at HK
  have HBB := Lib.hid hB
  clear ht
  have HF1 := Lib.hid (show ∀ W, Kq w W [(B, 26, [.bool s, S n, S d])] → W.cell? ⟨B, 0, none⟩ = some (.bool s) ∧ W.cell? ⟨B, 1, none⟩ = some (S n) ∧ W.cell? ⟨B, 2, none⟩ = some (S d) from fun W h => ⟨(h.row _ mm0).cell 0, (h.row _ mm0).cell 1, (h.row _ mm0).cell 2⟩)
  obtain ⟨cc0, cc1, cc2⟩ := HF1.out _ HK.out
  go_enter Tryz.func49, Tryz.ntmps49
  go_wp2_with fail
  clear hB
  refine (H1.out _).mono ?_
  rintro e w1 ⟨rfl, hC⟩
  replace HK := Lib.hid (HK.out.on hC)
  clear hC cc0 cc1 cc2
  obtain ⟨cc0, cc1, cc2⟩ := HF1.out _ HK.out
  go_wp2_with fail
  go_ret2
  exact ⟨rfl, HK.out.ch⟩
 ·rw [if_pos rfl] at ho
  obtain ⟨a, ha⟩ : ∃ a, ratOf s n d = a := ⟨_, rfl⟩
  rw [ha] at ho
  obtain ⟨s1, n1, d1, ic⟩ := Is.ex (a * 100)
  have za : Szq a 390 := by rw [← ha]; exact Szq.of_len hn hd (by omega)
  have zc : Szq (100 : Rat) 1 := by constructor <;> decide +kernel
  obtain ⟨l1, l2⟩ := (za.mul zc).len ic
  have H2 := Lib.hid C_rOf100
  have H3 := Lib.hid (C_rMul (s := s) (n := n) (d := d) (t := false) (m := [100]) (e := [1]) (by omega) (by omega) (by decide) (by decide) ha (ratOf_is i_100) ic)
  have H4 := Lib.hid C_ref1
  unfold centsQ at ho
  rw [cents_mul] at ho
  have hsv := ic.val
  have hden := den_one ic
  have hpos : s1 = true → 0 < bv n1 := fun e => by
   have h1 := ic.sgn
   rw [e] at h1
   have h2 := of_decide_eq_true h1
   rw [ic.vn]
   omega
  obtain ⟨z, hz⟩ : ∃ z, (a * 100).num = z := ⟨_, rfl⟩
  rw [hz] at ho hsv
  have HD : (d1 ≠ [1] ∧ o = none) ∨ (d1 = [1] ∧ s1 = false ∧ ((∃ y : Int, o = some y ∧ Ans 86 #[S n1] (.tuple #[.int .i64 y, .bool true])) ∨ (o = none ∧ Ans 86 #[S n1] (.tuple #[.int .i64 0, .bool false])))) ∨ (d1 = [1] ∧ s1 = true ∧ ∃ l, Ans 75 #[S n1, S [1]] (.tuple #[S l, .bool true]) ∧ ((∃ y : Int, 0 ≤ y ∧ y ≤ 9223372036854775807 ∧ o = some (-y - 1) ∧ Ans 86 #[S l] (.tuple #[.int .i64 y, .bool true])) ∨ (o = none ∧ Ans 86 #[S l] (.tuple #[.int .i64 0, .bool false])))) := by
   by_cases hd1 : d1 = [1]
   ·have hq := hden.1 hd1
    rcases s1 with _ | _
    ·have hz' : (bv n1 : Int) = z := hsv
     refine .inr (.inl ⟨hd1, rfl, ?_⟩)
     by_cases hb : z ≤ 9223372036854775807
     ·rw [if_pos ⟨hq, by omega, hb⟩] at ho
      exact .inl ⟨z, ho.symm, C_rint (a := n1) (by omega) hz' hb⟩
     ·rw [if_neg (fun h => hb h.2.2)] at ho
      exact .inr ⟨ho.symm, C_rint_no (a := n1) (by omega) (by omega)⟩
    ·have hz' : -(bv n1 : Int) = z := hsv
     have h0 := hpos rfl
     obtain ⟨l, hl, vl⟩ := has_nb (bv n1 - 1)
     obtain ⟨M, hM⟩ : ∃ M, M = 391 := ⟨_, rfl⟩
     have ll := nbl' M hl (Nat.lt_of_le_of_lt (Nat.sub_le _ _) (bv_b (by omega)))
     refine .inr (.inr ⟨hd1, rfl, l, C_rsub (a := n1) (b := [1]) (n := bv n1 - 1) hl (by omega) (by decide) (by rw [show bv [1] = 1 from rfl]; omega), ?_⟩)
     by_cases hb : -9223372036854775808 ≤ z
     ·rw [if_pos ⟨hq, hb, by omega⟩] at ho
      exact .inl ⟨(bv l : Int), by omega, by omega, by rw [← ho]; congr 1; omega, C_rint (a := l) (by omega) rfl (by omega)⟩
     ·rw [if_neg (fun h => hb h.2.1)] at ho
      exact .inr ⟨ho.symm, C_rint_no (a := l) (by omega) (by omega)⟩
   ·rw [if_neg (fun h => hd1 (hden.2 h.1))] at ho
    exact .inl ⟨hd1, ho.symm⟩
  have HDD := Lib.hid HD
  clear HD hr hn hd ha ho ic za zc l1 l2 hsv hden hpos hz
  have HT := Lib.hid ht
  have HK := Lib.hid ((Kq.nil w).new #[.bool s, S n, S d] 26)
  obtain ⟨B, hB⟩ : ∃ B, w.heap.size = B := ⟨_, rfl⟩
  rw [hB] at HK
  have HBB := Lib.hid hB
  clear ht
  have HF1 := Lib.hid (show ∀ W, Kq w W [(B, 26, [.bool s, S n, S d])] → W.cell? ⟨B, 0, none⟩ = some (.bool s) ∧ W.cell? ⟨B, 1, none⟩ = some (S n) ∧ W.cell? ⟨B, 2, none⟩ = some (S d) from fun W h => ⟨(h.row _ mm0).cell 0, (h.row _ mm0).cell 1, (h.row _ mm0).cell 2⟩)
  obtain ⟨cc0, cc1, cc2⟩ := HF1.out _ HK.out
  go_enter Tryz.func49, Tryz.ntmps49
  go_wp2_with fail
  clear hB
  refine (H1.out _).mono ?_
  rintro e w1 ⟨rfl, hC⟩
  replace HK := Lib.hid (HK.out.on hC)
  clear hC cc0 cc1 cc2
  obtain ⟨cc0, cc1, cc2⟩ := HF1.out _ HK.out
  go_wp2_with fail
  clear cc0 cc1 cc2
  replace HK := Lib.hid HK.out.drew
  refine wp_region_held_drew (S := fun w' => w'.cell? ⟨B, 0, none⟩ = some (.bool s) ∧ w'.cell? ⟨B, 1, none⟩ = some (S n) ∧ w'.cell? ⟨B, 2, none⟩ = some (S d)) (by kernel_rfl) ?_ (fun hHeld => ?_)
  ·(try dsimp only); exact HF1.out _ HK.out
  refine tk 0 (v := ?_) hHeld ?_ ?_
  rotate_left 1
  ·intro _ hw; (try dsimp only at hw); go_simp; try with_reducible rfl
  (try simp only [Act.put, List.setIfInBounds_toArray, List.set_cons_zero, List.set_cons_succ])
  generalize hX : @wpAnyH _ _ _ _ _ = X
  have hXi : ∀ f l a W, X f l a W → wpAnyH _ _ _ _ _ f l a W := fun f l a W h => by rw [hX]; exact h
  have hXo : ∀ f l a W, wpAnyH _ _ _ _ _ f l a W → X f l a W := fun f l a W h => by rw [← hX]; exact h
  have HXI := Lib.hid hXi
  have HXO := Lib.hid hXo
  clear hXi hXo hX hHeld
  have HK0 := HK
  clear HK
  have LS2_0 : ∀ (pm : Nat) (W : World), Kq w W [(B, 26, [.bool s, S n, S d])] → Blk W pm 26 [.bool false, S [], S []] → B < pm → X 1 #[true, true, true, true, false] { tmps := #[Rv s n d, .pointer (some ⟨B, 0, none⟩), .int .i64 0, .bool false, .bool true, .pointer (some ⟨pm, 0, none⟩), undef, undef, undef, undef, Rv s n d, .bool true, .bool true, .bool false, Rv s n d, Rv false [100] [1], Rv s1 n1 d1, undef, undef, undef, undef, undef, undef, undef, undef, undef, undef, undef, undef, undef, undef, undef, undef, undef, undef, undef, undef, undef, undef, undef, undef, undef, undef, undef, undef, undef], defers := [] } W := by
   intro pm W hK0 bpm gpm
   have HK := Lib.hid hK0
   clear hK0
   have hHeld := HF1.out _ HK.out
   refine HXO.out _ _ _ _ ?_
   replace HK := Lib.hid (HK.out.add bpm)
   clear bpm
   have e0 := (HK.out.row _ mm0).cell 0
   have f0 := (HK.out.row _ mm0).frozen 0
   have e1 := (HK.out.row _ mm0).cell 1
   have f1 := (HK.out.row _ mm0).frozen 1
   have e2 := (HK.out.row _ mm0).cell 2
   have f2 := (HK.out.row _ mm0).frozen 2
   simp only [List.getElem?_cons_zero, List.getElem?_cons_succ] at e0 e1 e2
   refine wpAnyH_ready (rs := [4]) (by kernel_rfl) (by simp) ?_
   refine AllReadyH.cons (at_list rfl) (fun K hK => ?_) AllReadyH.nil
   go_simp
   clear hHeld e0 e1 e2 f0 f1 f2
   have HKp := Lib.hid (Kq.sub (l' := [(pm, 26, [.bool false, S [], S []]), (B, 26, [.bool s, S n, S d])]) HK.out (by intro p hp; simp only [List.mem_cons, List.not_mem_nil, or_false] at hp ⊢; rcases hp with rfl | rfl <;> simp))
   have HKq := Lib.hid (HKp.out.put3 (by have := HBB.out; omega) (by intro p hp; simp only [List.mem_cons, List.not_mem_nil, or_false] at hp; rcases hp with rfl <;> (simp only; omega)) (.bool s1) (S n1) (S d1))
   have HK2 := Lib.hid (Kq.sub (l' := [(pm, 26, [.bool s1, S n1, S d1]), (B, 26, [.bool s, S n, S d])]) HKq.out (by intro p hp; simp only [List.mem_cons, List.not_mem_nil, or_false] at hp ⊢; rcases hp with rfl | rfl <;> simp))
   refine hK.out _ _ ?_ (fun hHeld => ?_)
   ·(try dsimp only); exact HF1.out _ (Kq.sub HK2.out (by intro p hp; simp only [List.mem_cons, List.not_mem_nil, or_false] at hp ⊢; rcases hp with rfl <;> simp))
   clear hK K HK HKp HKq
   have HK := HK2
   clear HK2
   (try simp only [List.setIfInBounds_toArray, List.set_cons_zero, List.set_cons_succ])
   refine wpAnyH_done (by kernel_rfl) ?_ _
   clear hHeld
   rcases HDD.out with ⟨hd1, rfl⟩ | ⟨rfl, rfl, ⟨y, rfl, H50⟩ | ⟨rfl, H50⟩⟩ | ⟨rfl, rfl, l, H60, ⟨y, hy1, hy2, rfl, H50⟩ | ⟨rfl, H50⟩⟩
   ·clear HDD
    have hb1 : (d1 == [1]) = false := beq_no hd1
    have hb2 : ¬ d1.toArray = #[1] := fun q => hd1 (by have := congrArg Array.toList q; simpa using this)
    clear hd1
    have HF72 := Lib.hid (show ∀ W, Kq w W [(pm, 26, [.bool s1, S n1, S d1]), (B, 26, [.bool s, S n, S d])] → W.cell? ⟨pm, 0, none⟩ = some (.bool s1) ∧ W.cell? ⟨pm, 1, none⟩ = some (S n1) ∧ W.cell? ⟨pm, 2, none⟩ = some (S d1) ∧ W.cell? ⟨B, 0, none⟩ = some (.bool s) ∧ W.cell? ⟨B, 1, none⟩ = some (S n) ∧ W.cell? ⟨B, 2, none⟩ = some (S d) from fun W h => ⟨(h.row _ mm0).cell 0, (h.row _ mm0).cell 1, (h.row _ mm0).cell 2, (h.row _ mm1).cell 0, (h.row _ mm1).cell 1, (h.row _ mm1).cell 2⟩)
    obtain ⟨cc0, cc1, cc2, cc3, cc4, cc5⟩ := HF72.out _ HK.out
    go_wp2_with fail
    clear cc0 cc1 cc2 cc3 cc4 cc5
    have HF73 := Lib.hid (show ∀ W, Kq w W [(pm, 26, [.bool s1, S n1, S d1]), (B, 26, [.bool s, S n, S d])] → W.cell? ⟨pm, 0, none⟩ = some (.bool s1) ∧ W.cell? ⟨pm, 1, none⟩ = some (S n1) ∧ W.cell? ⟨pm, 2, none⟩ = some (S d1) from fun W h => ⟨(h.row _ mm0).cell 0, (h.row _ mm0).cell 1, (h.row _ mm0).cell 2⟩)
    obtain ⟨cc0, cc1, cc2⟩ := HF73.out _ HK.out
    clear cc0 cc1 cc2
    replace HK := Lib.hid HK.out.drew
    go_region_held3 (fun w' => w'.cell? ⟨pm, 0, none⟩ = some (.bool s1) ∧ w'.cell? ⟨pm, 1, none⟩ = some (S n1) ∧ w'.cell? ⟨pm, 2, none⟩ = some (S d1))
     (first
      | (with_reducible exact HF73.out _ HK.out)
      | go_keep)
     (first
      | (go_at_call 40; with_reducible refine (H4.out _).mono ?_; rintro e wq ⟨rfl, hCq⟩; replace HK := Lib.hid (HK.out.on hCq); clear hCq))
    obtain ⟨cc0, cc1, cc2⟩ := HF73.out _ HK.out
    go_wp2_with fail
    go_ret2
    exact ⟨rfl, HK.out.ch⟩
   ·clear HDD
    have H5 := Lib.hid H50
    clear H50
    have HF72 := Lib.hid (show ∀ W, Kq w W [(pm, 26, [.bool false, S n1, S [1]]), (B, 26, [.bool s, S n, S d])] → W.cell? ⟨pm, 0, none⟩ = some (.bool false) ∧ W.cell? ⟨pm, 1, none⟩ = some (S n1) ∧ W.cell? ⟨pm, 2, none⟩ = some (S [1]) ∧ W.cell? ⟨B, 0, none⟩ = some (.bool s) ∧ W.cell? ⟨B, 1, none⟩ = some (S n) ∧ W.cell? ⟨B, 2, none⟩ = some (S d) from fun W h => ⟨(h.row _ mm0).cell 0, (h.row _ mm0).cell 1, (h.row _ mm0).cell 2, (h.row _ mm1).cell 0, (h.row _ mm1).cell 1, (h.row _ mm1).cell 2⟩)
    obtain ⟨cc0, cc1, cc2, cc3, cc4, cc5⟩ := HF72.out _ HK.out
    go_wp2_with fail
    clear cc0 cc1 cc2 cc3 cc4 cc5
    have HF73 := Lib.hid (show ∀ W, Kq w W [(pm, 26, [.bool false, S n1, S [1]]), (B, 26, [.bool s, S n, S d])] → W.cell? ⟨pm, 0, none⟩ = some (.bool false) ∧ W.cell? ⟨pm, 1, none⟩ = some (S n1) ∧ W.cell? ⟨pm, 2, none⟩ = some (S [1]) from fun W h => ⟨(h.row _ mm0).cell 0, (h.row _ mm0).cell 1, (h.row _ mm0).cell 2⟩)
    obtain ⟨cc0, cc1, cc2⟩ := HF73.out _ HK.out
    clear cc0 cc1 cc2
    replace HK := Lib.hid HK.out.drew
    go_region_held3 (fun w' => w'.cell? ⟨pm, 0, none⟩ = some (.bool false) ∧ w'.cell? ⟨pm, 1, none⟩ = some (S n1) ∧ w'.cell? ⟨pm, 2, none⟩ = some (S [1]))
     (first
      | (with_reducible exact HF73.out _ HK.out)
      | go_keep)
     (first
      | (go_at_call 40; with_reducible refine (H4.out _).mono ?_; rintro e wq ⟨rfl, hCq⟩; replace HK := Lib.hid (HK.out.on hCq); clear hCq))
    obtain ⟨cc0, cc1, cc2⟩ := HF73.out _ HK.out
    go_wp2_with fail
    refine (H5.out _).mono ?_
    rintro e w52 ⟨rfl, hC⟩
    replace HK := Lib.hid (HK.out.on hC)
    clear hC cc0 cc1 cc2
    obtain ⟨cc0, cc1, cc2⟩ := HF73.out _ HK.out
    go_wp2_with fail
    go_ret2
    exact ⟨rfl, HK.out.ch⟩
   ·clear HDD
    have H5 := Lib.hid H50
    clear H50
    have HF72 := Lib.hid (show ∀ W, Kq w W [(pm, 26, [.bool false, S n1, S [1]]), (B, 26, [.bool s, S n, S d])] → W.cell? ⟨pm, 0, none⟩ = some (.bool false) ∧ W.cell? ⟨pm, 1, none⟩ = some (S n1) ∧ W.cell? ⟨pm, 2, none⟩ = some (S [1]) ∧ W.cell? ⟨B, 0, none⟩ = some (.bool s) ∧ W.cell? ⟨B, 1, none⟩ = some (S n) ∧ W.cell? ⟨B, 2, none⟩ = some (S d) from fun W h => ⟨(h.row _ mm0).cell 0, (h.row _ mm0).cell 1, (h.row _ mm0).cell 2, (h.row _ mm1).cell 0, (h.row _ mm1).cell 1, (h.row _ mm1).cell 2⟩)
    obtain ⟨cc0, cc1, cc2, cc3, cc4, cc5⟩ := HF72.out _ HK.out
    go_wp2_with fail
    clear cc0 cc1 cc2 cc3 cc4 cc5
    have HF73 := Lib.hid (show ∀ W, Kq w W [(pm, 26, [.bool false, S n1, S [1]]), (B, 26, [.bool s, S n, S d])] → W.cell? ⟨pm, 0, none⟩ = some (.bool false) ∧ W.cell? ⟨pm, 1, none⟩ = some (S n1) ∧ W.cell? ⟨pm, 2, none⟩ = some (S [1]) from fun W h => ⟨(h.row _ mm0).cell 0, (h.row _ mm0).cell 1, (h.row _ mm0).cell 2⟩)
    obtain ⟨cc0, cc1, cc2⟩ := HF73.out _ HK.out
    clear cc0 cc1 cc2
    replace HK := Lib.hid HK.out.drew
    go_region_held3 (fun w' => w'.cell? ⟨pm, 0, none⟩ = some (.bool false) ∧ w'.cell? ⟨pm, 1, none⟩ = some (S n1) ∧ w'.cell? ⟨pm, 2, none⟩ = some (S [1]))
     (first
      | (with_reducible exact HF73.out _ HK.out)
      | go_keep)
     (first
      | (go_at_call 40; with_reducible refine (H4.out _).mono ?_; rintro e wq ⟨rfl, hCq⟩; replace HK := Lib.hid (HK.out.on hCq); clear hCq))
    obtain ⟨cc0, cc1, cc2⟩ := HF73.out _ HK.out
    go_wp2_with fail
    refine (H5.out _).mono ?_
    rintro e w52 ⟨rfl, hC⟩
    replace HK := Lib.hid (HK.out.on hC)
    clear hC cc0 cc1 cc2
    obtain ⟨cc0, cc1, cc2⟩ := HF73.out _ HK.out
    go_wp2_with fail
    go_ret2
    exact ⟨rfl, HK.out.ch⟩
   ·clear HDD
    have H5 := Lib.hid H50
    clear H50
    have H6 := Lib.hid H60
    clear H60
    have HF72 := Lib.hid (show ∀ W, Kq w W [(pm, 26, [.bool true, S n1, S [1]]), (B, 26, [.bool s, S n, S d])] → W.cell? ⟨pm, 0, none⟩ = some (.bool true) ∧ W.cell? ⟨pm, 1, none⟩ = some (S n1) ∧ W.cell? ⟨pm, 2, none⟩ = some (S [1]) ∧ W.cell? ⟨B, 0, none⟩ = some (.bool s) ∧ W.cell? ⟨B, 1, none⟩ = some (S n) ∧ W.cell? ⟨B, 2, none⟩ = some (S d) from fun W h => ⟨(h.row _ mm0).cell 0, (h.row _ mm0).cell 1, (h.row _ mm0).cell 2, (h.row _ mm1).cell 0, (h.row _ mm1).cell 1, (h.row _ mm1).cell 2⟩)
    obtain ⟨cc0, cc1, cc2, cc3, cc4, cc5⟩ := HF72.out _ HK.out
    go_wp2_with fail
    clear cc0 cc1 cc2 cc3 cc4 cc5
    have HF73 := Lib.hid (show ∀ W, Kq w W [(pm, 26, [.bool true, S n1, S [1]]), (B, 26, [.bool s, S n, S d])] → W.cell? ⟨pm, 0, none⟩ = some (.bool true) ∧ W.cell? ⟨pm, 1, none⟩ = some (S n1) ∧ W.cell? ⟨pm, 2, none⟩ = some (S [1]) from fun W h => ⟨(h.row _ mm0).cell 0, (h.row _ mm0).cell 1, (h.row _ mm0).cell 2⟩)
    obtain ⟨cc0, cc1, cc2⟩ := HF73.out _ HK.out
    clear cc0 cc1 cc2
    replace HK := Lib.hid HK.out.drew
    go_region_held3 (fun w' => w'.cell? ⟨pm, 0, none⟩ = some (.bool true) ∧ w'.cell? ⟨pm, 1, none⟩ = some (S n1) ∧ w'.cell? ⟨pm, 2, none⟩ = some (S [1]))
     (first
      | (with_reducible exact HF73.out _ HK.out)
      | go_keep)
     (first
      | (go_at_call 40; with_reducible refine (H4.out _).mono ?_; rintro e wq ⟨rfl, hCq⟩; replace HK := Lib.hid (HK.out.on hCq); clear hCq))
    obtain ⟨cc0, cc1, cc2⟩ := HF73.out _ HK.out
    go_wp2_with fail
    clear cc0 cc1 cc2
    replace HK := Lib.hid HK.out.drew
    go_region_held3 (fun w' => w'.cell? ⟨pm, 0, none⟩ = some (.bool true) ∧ w'.cell? ⟨pm, 1, none⟩ = some (S n1) ∧ w'.cell? ⟨pm, 2, none⟩ = some (S [1]))
     (first
      | (with_reducible exact HF73.out _ HK.out)
      | go_keep)
     (first
      | (go_at_call 40; with_reducible refine (H4.out _).mono ?_; rintro e wq ⟨rfl, hCq⟩; replace HK := Lib.hid (HK.out.on hCq); clear hCq)
      | (go_at_call 75; with_reducible refine (H6.out _).mono ?_; rintro e wq ⟨rfl, hCq⟩; replace HK := Lib.hid (HK.out.on hCq); clear hCq))
    obtain ⟨cc0, cc1, cc2⟩ := HF73.out _ HK.out
    go_wp2_with fail
    refine (H5.out _).mono ?_
    rintro e w52 ⟨rfl, hC⟩
    replace HK := Lib.hid (HK.out.on hC)
    clear hC cc0 cc1 cc2
    obtain ⟨cc0, cc1, cc2⟩ := HF73.out _ HK.out
    go_wp2_with fail
    go_ret2
    exact ⟨rfl, HK.out.ch⟩
   ·clear HDD
    have H5 := Lib.hid H50
    clear H50
    have H6 := Lib.hid H60
    clear H60
    have HF72 := Lib.hid (show ∀ W, Kq w W [(pm, 26, [.bool true, S n1, S [1]]), (B, 26, [.bool s, S n, S d])] → W.cell? ⟨pm, 0, none⟩ = some (.bool true) ∧ W.cell? ⟨pm, 1, none⟩ = some (S n1) ∧ W.cell? ⟨pm, 2, none⟩ = some (S [1]) ∧ W.cell? ⟨B, 0, none⟩ = some (.bool s) ∧ W.cell? ⟨B, 1, none⟩ = some (S n) ∧ W.cell? ⟨B, 2, none⟩ = some (S d) from fun W h => ⟨(h.row _ mm0).cell 0, (h.row _ mm0).cell 1, (h.row _ mm0).cell 2, (h.row _ mm1).cell 0, (h.row _ mm1).cell 1, (h.row _ mm1).cell 2⟩)
    obtain ⟨cc0, cc1, cc2, cc3, cc4, cc5⟩ := HF72.out _ HK.out
    go_wp2_with fail
    clear cc0 cc1 cc2 cc3 cc4 cc5
    have HF73 := Lib.hid (show ∀ W, Kq w W [(pm, 26, [.bool true, S n1, S [1]]), (B, 26, [.bool s, S n, S d])] → W.cell? ⟨pm, 0, none⟩ = some (.bool true) ∧ W.cell? ⟨pm, 1, none⟩ = some (S n1) ∧ W.cell? ⟨pm, 2, none⟩ = some (S [1]) from fun W h => ⟨(h.row _ mm0).cell 0, (h.row _ mm0).cell 1, (h.row _ mm0).cell 2⟩)
    obtain ⟨cc0, cc1, cc2⟩ := HF73.out _ HK.out
    clear cc0 cc1 cc2
    replace HK := Lib.hid HK.out.drew
    go_region_held3 (fun w' => w'.cell? ⟨pm, 0, none⟩ = some (.bool true) ∧ w'.cell? ⟨pm, 1, none⟩ = some (S n1) ∧ w'.cell? ⟨pm, 2, none⟩ = some (S [1]))
     (first
      | (with_reducible exact HF73.out _ HK.out)
      | go_keep)
     (first
      | (go_at_call 40; with_reducible refine (H4.out _).mono ?_; rintro e wq ⟨rfl, hCq⟩; replace HK := Lib.hid (HK.out.on hCq); clear hCq))
    obtain ⟨cc0, cc1, cc2⟩ := HF73.out _ HK.out
    go_wp2_with fail
    clear cc0 cc1 cc2
    replace HK := Lib.hid HK.out.drew
    go_region_held3 (fun w' => w'.cell? ⟨pm, 0, none⟩ = some (.bool true) ∧ w'.cell? ⟨pm, 1, none⟩ = some (S n1) ∧ w'.cell? ⟨pm, 2, none⟩ = some (S [1]))
     (first
      | (with_reducible exact HF73.out _ HK.out)
      | go_keep)
     (first
      | (go_at_call 40; with_reducible refine (H4.out _).mono ?_; rintro e wq ⟨rfl, hCq⟩; replace HK := Lib.hid (HK.out.on hCq); clear hCq)
      | (go_at_call 75; with_reducible refine (H6.out _).mono ?_; rintro e wq ⟨rfl, hCq⟩; replace HK := Lib.hid (HK.out.on hCq); clear hCq))
    obtain ⟨cc0, cc1, cc2⟩ := HF73.out _ HK.out
    go_wp2_with fail
    refine (H5.out _).mono ?_
    rintro e w52 ⟨rfl, hC⟩
    replace HK := Lib.hid (HK.out.on hC)
    clear hC cc0 cc1 cc2
    obtain ⟨cc0, cc1, cc2⟩ := HF73.out _ HK.out
    go_wp2_with fail
    go_ret2
    exact ⟨rfl, HK.out.ch⟩
  have LS1_0 : ∀ (pm : Nat) (W : World), Kq w W [(B, 26, [.bool s, S n, S d])] → Blk W pm 26 [.bool false, S [], S []] → B < pm → X 2 #[true, true, false, true, false] { tmps := #[Rv s n d, .pointer (some ⟨B, 0, none⟩), .int .i64 0, .bool false, .bool true, .pointer (some ⟨pm, 0, none⟩), undef, undef, undef, undef, Rv s n d, .bool true, .bool true, .bool false, Rv s n d, Rv false [100] [1], undef, undef, undef, undef, undef, undef, undef, undef, undef, undef, undef, undef, undef, undef, undef, undef, undef, undef, undef, undef, undef, undef, undef, undef, undef, undef, undef, undef, undef, undef], defers := [] } W := by
   intro pm W hK0 bpm gpm
   have HK := Lib.hid hK0
   clear hK0
   have hHeld := HF1.out _ HK.out
   refine HXO.out _ _ _ _ ?_
   refine wpAnyH_ready (rs := [2]) (by kernel_rfl) (by simp) ?_
   refine AllReadyH.cons (at_list rfl) (fun K hK => ?_) (AllReadyH.nil)
   ·go_simp
    go_at_call 16
    with_reducible refine (H3.out _).mono ?_
    rintro e wq ⟨rfl, hCq⟩
    have HK2 := Lib.hid (HK.out.on hCq)
    clear hHeld
    first | (refine hK.out _ _ ?_ (fun hHeld => ?_)) | (go_wp2_with fail; refine hK.out _ _ ?_ (fun hHeld => ?_))
    ·(try dsimp only); exact HF1.out _ HK2.out
    (try simp only [List.setIfInBounds_toArray, List.set_cons_zero, List.set_cons_succ])
    exact HXI.out _ _ _ _ (LS2_0 _ _ HK2.out (hCq.blk bpm (Blk.lt bpm) (fun q => q)) gpm)
  have LS2_ : ∀ (W : World), Kq w W [(B, 26, [.bool s, S n, S d])] → X 2 #[true, true, true, false, false] { tmps := #[Rv s n d, .pointer (some ⟨B, 0, none⟩), .int .i64 0, .bool false, .bool true, undef, undef, undef, undef, undef, Rv s n d, .bool true, .bool true, .bool false, Rv s n d, Rv false [100] [1], Rv s1 n1 d1, undef, undef, undef, undef, undef, undef, undef, undef, undef, undef, undef, undef, undef, undef, undef, undef, undef, undef, undef, undef, undef, undef, undef, undef, undef, undef, undef, undef, undef], defers := [] } W := by
   intro  W hK0
   have HK := Lib.hid hK0
   clear hK0
   have hHeld := HF1.out _ HK.out
   refine HXO.out _ _ _ _ ?_
   refine wpAnyH_ready (rs := [3]) (by kernel_rfl) (by simp) ?_
   refine AllReadyH.cons (at_list rfl) (fun K hK => ?_) (AllReadyH.nil)
   ·go_simp
    have HK2 := Lib.hid (HK.out.other (.cells #[.bool false, S [], S []] 26 (0, 0)))
    have nB := Blk.new W #[.bool false, S [], S []] 26
    have nG : B < W.heap.size := (HK.out.row _ mm0).lt
    clear hHeld
    refine hK.out _ _ ?_ (fun hHeld => ?_)
    ·(try dsimp only); exact HF1.out _ HK2.out
    (try simp only [List.setIfInBounds_toArray, List.set_cons_zero, List.set_cons_succ])
    exact HXI.out _ _ _ _ (LS2_0 _ _ HK2.out nB nG)
  have LS0_0 : ∀ (pm : Nat) (W : World), Kq w W [(B, 26, [.bool s, S n, S d])] → Blk W pm 26 [.bool false, S [], S []] → B < pm → X 3 #[true, false, false, true, false] { tmps := #[Rv s n d, .pointer (some ⟨B, 0, none⟩), .int .i64 0, .bool false, .bool true, .pointer (some ⟨pm, 0, none⟩), undef, undef, undef, undef, Rv s n d, .bool true, .bool true, .bool false, Rv s n d, undef, undef, undef, undef, undef, undef, undef, undef, undef, undef, undef, undef, undef, undef, undef, undef, undef, undef, undef, undef, undef, undef, undef, undef, undef, undef, undef, undef, undef, undef, undef], defers := [] } W := by
   intro pm W hK0 bpm gpm
   have HK := Lib.hid hK0
   clear hK0
   have hHeld := HF1.out _ HK.out
   refine HXO.out _ _ _ _ ?_
   refine wpAnyH_ready (rs := [1]) (by kernel_rfl) (by simp) ?_
   refine AllReadyH.cons (at_list rfl) (fun K hK => ?_) (AllReadyH.nil)
   ·go_simp
    go_at_call 17
    with_reducible refine (H2.out _).mono ?_
    rintro e wq ⟨rfl, hCq⟩
    have HK2 := Lib.hid (HK.out.on hCq)
    clear hHeld
    first | (refine hK.out _ _ ?_ (fun hHeld => ?_)) | (go_wp2_with fail; refine hK.out _ _ ?_ (fun hHeld => ?_))
    ·(try dsimp only); exact HF1.out _ HK2.out
    (try simp only [List.setIfInBounds_toArray, List.set_cons_zero, List.set_cons_succ])
    exact HXI.out _ _ _ _ (LS1_0 _ _ HK2.out (hCq.blk bpm (Blk.lt bpm) (fun q => q)) gpm)
  have LS1_ : ∀ (W : World), Kq w W [(B, 26, [.bool s, S n, S d])] → X 3 #[true, true, false, false, false] { tmps := #[Rv s n d, .pointer (some ⟨B, 0, none⟩), .int .i64 0, .bool false, .bool true, undef, undef, undef, undef, undef, Rv s n d, .bool true, .bool true, .bool false, Rv s n d, Rv false [100] [1], undef, undef, undef, undef, undef, undef, undef, undef, undef, undef, undef, undef, undef, undef, undef, undef, undef, undef, undef, undef, undef, undef, undef, undef, undef, undef, undef, undef, undef, undef], defers := [] } W := by
   intro  W hK0
   have HK := Lib.hid hK0
   clear hK0
   have hHeld := HF1.out _ HK.out
   refine HXO.out _ _ _ _ ?_
   refine wpAnyH_ready (rs := [2, 3]) (by kernel_rfl) (by simp) ?_
   refine AllReadyH.cons (at_list rfl) (fun K hK => ?_) (AllReadyH.cons (at_list rfl) (fun K hK => ?_) (AllReadyH.nil))
   ·go_simp
    go_at_call 16
    with_reducible refine (H3.out _).mono ?_
    rintro e wq ⟨rfl, hCq⟩
    have HK2 := Lib.hid (HK.out.on hCq)
    clear hHeld
    first | (refine hK.out _ _ ?_ (fun hHeld => ?_)) | (go_wp2_with fail; refine hK.out _ _ ?_ (fun hHeld => ?_))
    ·(try dsimp only); exact HF1.out _ HK2.out
    (try simp only [List.setIfInBounds_toArray, List.set_cons_zero, List.set_cons_succ])
    exact HXI.out _ _ _ _ (LS2_ _ HK2.out)
   ·go_simp
    have HK2 := Lib.hid (HK.out.other (.cells #[.bool false, S [], S []] 26 (0, 0)))
    have nB := Blk.new W #[.bool false, S [], S []] 26
    have nG : B < W.heap.size := (HK.out.row _ mm0).lt
    clear hHeld
    refine hK.out _ _ ?_ (fun hHeld => ?_)
    ·(try dsimp only); exact HF1.out _ HK2.out
    (try simp only [List.setIfInBounds_toArray, List.set_cons_zero, List.set_cons_succ])
    exact HXI.out _ _ _ _ (LS1_0 _ _ HK2.out nB nG)
  have LS0_ : ∀ (W : World), Kq w W [(B, 26, [.bool s, S n, S d])] → X 4 #[true, false, false, false, false] { tmps := #[Rv s n d, .pointer (some ⟨B, 0, none⟩), .int .i64 0, .bool false, .bool true, undef, undef, undef, undef, undef, Rv s n d, .bool true, .bool true, .bool false, Rv s n d, undef, undef, undef, undef, undef, undef, undef, undef, undef, undef, undef, undef, undef, undef, undef, undef, undef, undef, undef, undef, undef, undef, undef, undef, undef, undef, undef, undef, undef, undef, undef], defers := [] } W := by
   intro  W hK0
   have HK := Lib.hid hK0
   clear hK0
   have hHeld := HF1.out _ HK.out
   refine HXO.out _ _ _ _ ?_
   refine wpAnyH_ready (rs := [1, 3]) (by kernel_rfl) (by simp) ?_
   refine AllReadyH.cons (at_list rfl) (fun K hK => ?_) (AllReadyH.cons (at_list rfl) (fun K hK => ?_) (AllReadyH.nil))
   ·go_simp
    go_at_call 17
    with_reducible refine (H2.out _).mono ?_
    rintro e wq ⟨rfl, hCq⟩
    have HK2 := Lib.hid (HK.out.on hCq)
    clear hHeld
    first | (refine hK.out _ _ ?_ (fun hHeld => ?_)) | (go_wp2_with fail; refine hK.out _ _ ?_ (fun hHeld => ?_))
    ·(try dsimp only); exact HF1.out _ HK2.out
    (try simp only [List.setIfInBounds_toArray, List.set_cons_zero, List.set_cons_succ])
    exact HXI.out _ _ _ _ (LS1_ _ HK2.out)
   ·go_simp
    have HK2 := Lib.hid (HK.out.other (.cells #[.bool false, S [], S []] 26 (0, 0)))
    have nB := Blk.new W #[.bool false, S [], S []] 26
    have nG : B < W.heap.size := (HK.out.row _ mm0).lt
    clear hHeld
    refine hK.out _ _ ?_ (fun hHeld => ?_)
    ·(try dsimp only); exact HF1.out _ HK2.out
    (try simp only [List.setIfInBounds_toArray, List.set_cons_zero, List.set_cons_succ])
    exact HXI.out _ _ _ _ (LS0_0 _ _ HK2.out nB nG)
  exact LS0_ _ HK0.out
end Go.Proofs.YtkeomlpecjjhiaaGreatDoor
