/- The reference's Text and Parse of layer 3. -/
import Derived.Test.YtehgkpbjbkeoeaaDoorDq
namespace Go.Proofs.YtehgkpbjbkeoeaaDoor
open Go.RowKit Go.Shelf
attribute [local go_sem] Oper.semAt_some
namespace Lay
theorem dig_dg {c : UInt8} (h : dig c = true) : ∃ a, a < 10 ∧ c = dg a := by
  obtain ⟨h1, h2⟩ := dig_iff.1 h
  refine ⟨c.toNat - 48, by omega, ?_⟩
  unfold dg
  rw [show 48 + (c.toNat - 48) = c.toNat by omega, UInt8.ofNat_toNat]
theorem parts_iso : parts iso = [[89, 89, 89, 89], [45], [77, 77], [45], [68, 68]] := by decide +kernel
theorem fmt_iso (y m d : Int) : fmt iso y m d = pad 4 y ++ (45 :: (pad 2 m ++ (45 :: pad 2 d))) := by
  unfold fmt
  rw [parts_iso]
  simp only [List.flatMap_cons, List.flatMap_nil, wr_y, wr_mm, wr_dd, wr_one y m d (c := 45) (by decide) (by decide), List.append_nil, List.cons_append, List.nil_append]
theorem nv4 {a b c d : Nat} (ha : a < 10) (hb : b < 10) (hc : c < 10) (hd : d < 10) : nv [dg a, dg b, dg c, dg d] = ((1000 * a + 100 * b + 10 * c + d : Nat) : Int) := by
  unfold nv
  simp only [List.foldl_cons, List.foldl_nil, (dg_dig a ha).2, (dg_dig b hb).2, (dg_dig c hc).2, (dg_dig d hd).2]
  omega
theorem nv2 {a b : Nat} (ha : a < 10) (hb : b < 10) : nv [dg a, dg b] = ((10 * a + b : Nat) : Int) := by
  unfold nv
  simp only [List.foldl_cons, List.foldl_nil, (dg_dig a ha).2, (dg_dig b hb).2]
  omega
/-- A text as Parse wants it: the three pieces. -/
def form (s : Part) : Bool := decide (s.length = 10) && (s[4]? == some 45 && s[7]? == some 45)
def pY (s : Part) : Part := s.take 4
def pM (s : Part) : Part := (s.take 7).drop 5
def pD (s : Part) : Part := s.drop 8
def prs (s : Part) : Bool := form s && (numB (pY s) && (numB (pM s) && (numB (pD s) && Cal.vld (numN (pY s)) (numN (pM s)) (numN (pD s)))))
def prsN (s : Part) : Int := Cal.num (numN (pY s)) (numN (pM s)) (numN (pD s))
theorem prs_dg {a b c d e f g h : Nat} (ha : a < 10) (hb : b < 10) (hc : c < 10) (hd : d < 10) (he : e < 10) (hf : f < 10) (hg : g < 10) (hh : h < 10) :
    prs [dg a, dg b, dg c, dg d, 45, dg e, dg f, 45, dg g, dg h] = rd iso [dg a, dg b, dg c, dg d, 45, dg e, dg f, 45, dg g, dg h]
    ∧ prsN [dg a, dg b, dg c, dg d, 45, dg e, dg f, 45, dg g, dg h] = rdN iso [dg a, dg b, dg c, dg d, 45, dg e, dg f, 45, dg g, dg h] := by
  have hy : fmt iso ((1000 * a + 100 * b + 10 * c + d : Nat) : Int) ((10 * e + f : Nat) : Int) ((10 * g + h : Nat) : Int) = [dg a, dg b, dg c, dg d, 45, dg e, dg f, 45, dg g, dg h] := by
    rw [fmt_iso, pad4 a ha b hb c hc d hd, pad2 e he f hf, pad2 g hg h hh]
    rfl
  have hu := undo_right (l := iso) iso_right (y := ((1000 * a + 100 * b + 10 * c + d : Nat) : Int)) (m := ((10 * e + f : Nat) : Int)) (d := ((10 * g + h : Nat) : Int)) (by omega) (by omega) (by omega) (by omega) (by omega) (by omega)
  have A4 : [dg a, dg b, dg c, dg d].all dig = true := by simp [(dg_dig a ha).1, (dg_dig b hb).1, (dg_dig c hc).1, (dg_dig d hd).1]
  have A2 : [dg e, dg f].all dig = true := by simp [(dg_dig e he).1, (dg_dig f hf).1]
  have A2' : [dg g, dg h].all dig = true := by simp [(dg_dig g hg).1, (dg_dig h hh).1]
  have e1 : numN [dg a, dg b, dg c, dg d] = ((1000 * a + 100 * b + 10 * c + d : Nat) : Int) := by unfold numN; rw [if_pos A4, nv4 ha hb hc hd]
  have e2 : numN [dg e, dg f] = ((10 * e + f : Nat) : Int) := by unfold numN; rw [if_pos A2, nv2 he hf]
  have e3 : numN [dg g, dg h] = ((10 * g + h : Nat) : Int) := by unfold numN; rw [if_pos A2', nv2 hg hh]
  have n1 : numB [dg a, dg b, dg c, dg d] = true := by unfold numB; rw [A4]; rfl
  have n2 : numB [dg e, dg f] = true := by unfold numB; rw [A2]; rfl
  have n3 : numB [dg g, dg h] = true := by unfold numB; rw [A2']; rfl
  rw [hy] at hu
  constructor
  · unfold prs rd
    rw [hu, iso_right]
    show ((true && (true && true)) && (numB [dg a, dg b, dg c, dg d] && (numB [dg e, dg f] && (numB [dg g, dg h] && Cal.vld (numN [dg a, dg b, dg c, dg d]) (numN [dg e, dg f]) (numN [dg g, dg h]))))) = _
    rw [n1, n2, n3, e1, e2, e3]
    simp only [hy, beq_self_eq_true, Bool.and_true, Bool.true_and]
  · unfold prsN rdN
    rw [hu]
    show Cal.num (numN [dg a, dg b, dg c, dg d]) (numN [dg e, dg f]) (numN [dg g, dg h]) = _
    rw [e1, e2, e3]
theorem len2 {s : Part} (h : s.length = 2) : ∃ a b, s = [a, b] := by
  match s, h with
  | [a, b], _ => exact ⟨a, b, rfl⟩
theorem len10 {s : Part} (h : s.length = 10) : ∃ a b c d e f g i j k, s = [a, b, c, d, e, f, g, i, j, k] := by
  match s, h with
  | [a, b, c, d, e, f, g, i, j, k], _ => exact ⟨a, b, c, d, e, f, g, i, j, k, rfl⟩
/-- Parse reads what Read reads with the layout of Text. -/
theorem prs_rd (s : Part) : prs s = rd iso s ∧ (prs s = true → prsN s = rdN iso s) := by
  have key : (prs s = true ∨ rd iso s = true) → prs s = rd iso s ∧ prsN s = rdN iso s := by
    intro h
    have hs : ∃ a b c d e f g h, a < 10 ∧ b < 10 ∧ c < 10 ∧ d < 10 ∧ e < 10 ∧ f < 10 ∧ g < 10 ∧ h < 10 ∧ s = [dg a, dg b, dg c, dg d, 45, dg e, dg f, 45, dg g, dg h] := by
      rcases h with h | h
      · unfold prs form at h
        simp only [Bool.and_eq_true, decide_eq_true_eq, beq_iff_eq] at h
        obtain ⟨⟨h1, h2, h3⟩, hY, hM, hD, _⟩ := h
        obtain ⟨c0, c1, c2, c3, c4, c5, c6, c7, c8, c9, rfl⟩ := len10 h1
        simp only [List.getElem?_cons_succ, List.getElem?_cons_zero, Option.some.injEq] at h2 h3
        subst h2 h3
        unfold numB pY at hY
        unfold numB pM at hM
        unfold numB pD at hD
        simp only [List.take_succ_cons, List.take_zero, List.drop_succ_cons, List.drop_zero, List.all_cons, List.all_nil, Bool.and_eq_true, Bool.and_true] at hY hM hD
        obtain ⟨⟨y0, y1, y2, y3⟩, _⟩ := hY
        obtain ⟨⟨m0, m1⟩, _⟩ := hM
        obtain ⟨⟨d0, d1⟩, _⟩ := hD
        obtain ⟨a, ha, rfl⟩ := dig_dg y0
        obtain ⟨b, hb, rfl⟩ := dig_dg y1
        obtain ⟨c, hc, rfl⟩ := dig_dg y2
        obtain ⟨d, hd, rfl⟩ := dig_dg y3
        obtain ⟨e, he, rfl⟩ := dig_dg m0
        obtain ⟨f, hf, rfl⟩ := dig_dg m1
        obtain ⟨g, hg, rfl⟩ := dig_dg d0
        obtain ⟨i, hi, rfl⟩ := dig_dg d1
        exact ⟨a, b, c, d, e, f, g, i, ha, hb, hc, hd, he, hf, hg, hi, rfl⟩
      · unfold rd at h
        simp only [Bool.and_eq_true, beq_iff_eq] at h
        obtain ⟨_, hv, hs⟩ := h
        obtain ⟨p1, p2, p3, p4, p5, p6⟩ := vld_bd hv
        generalize (fnd (parts iso) s).y = y at *
        generalize (fnd (parts iso) s).m = m at *
        generalize (fnd (parts iso) s).d = d at *
        obtain ⟨a, b, c, d0, ha, hb, hc, hd, rfl⟩ := split4 p1 p2
        obtain ⟨e, f, he, hf, rfl⟩ := split2 p3 p4
        obtain ⟨g, i, hg, hi, rfl⟩ := split2 p5 p6
        rw [fmt_iso, pad4 a ha b hb c hc d0 hd, pad2 e he f hf, pad2 g hg i hi] at hs
        exact ⟨a, b, c, d0, e, f, g, i, ha, hb, hc, hd, he, hf, hg, hi, hs.symm⟩
    obtain ⟨a, b, c, d, e, f, g, i, ha, hb, hc, hd, he, hf, hg, hi, rfl⟩ := hs
    exact prs_dg ha hb hc hd he hf hg hi
  constructor
  · cases h1 : prs s
    · cases h2 : rd iso s
      · rfl
      · have := (key (.inr h2)).1
        rw [h1, h2] at this
        exact this
    · have := (key (.inl h1)).1
      rw [h1] at this
      exact this
  · intro h
    exact (key (.inl h)).2
end Lay
theorem dext_mid (l : List UInt8) (a b : Nat) : (ByteArray.mk l.toArray).extract a b = ⟨((l.take b).drop a).toArray⟩ := by
  apply ByteArray.ext
  simp [ByteArray.data_extract, List.extract_eq_take_drop, List.drop_take]
set_option maxRecDepth 100000 in
set_option maxHeartbeats 1600000 in
theorem refText_yes (n : Int) (hr : Cal.right n = true) (w : World) :
    Calls Tryd.prog 9 #[iz n] w (Yd w (S (Lay.fmt Lay.iso (Cal.cy n) (Cal.cm n) (Cal.cd n)))) := by
  obtain ⟨b0, b1, b2, b3, b4, b5⟩ := Lay.vld_bd (Cal.civ_spec hr).1
  have HV := Lib.hid (refCivil_yes n w hr)
  rw [Lay.fmt_iso]
  obtain ⟨y, hy⟩ : ∃ y, Cal.cy n = y := ⟨_, rfl⟩
  obtain ⟨m, hm⟩ : ∃ m, Cal.cm n = m := ⟨_, rfl⟩
  obtain ⟨d, hd⟩ : ∃ d, Cal.cd n = d := ⟨_, rfl⟩
  rw [hy, hm, hd] at HV
  rw [hy] at b0 b1
  rw [hm] at b2 b3
  rw [hd] at b4 b5
  rw [hy, hm, hd]
  clear hy hm hd hr
  have l1 := Lay.padl (k := 4) (n := y.toNat) (by omega) (by omega)
  have l2 := Lay.padl (k := 2) (n := m.toNat) (by omega) (by omega)
  have l3 := Lay.padl (k := 2) (n := d.toNat) (by omega) (by omega)
  rw [Int.toNat_of_nonneg b0] at l1
  rw [Int.toNat_of_nonneg b2] at l2
  rw [Int.toNat_of_nonneg b4] at l3
  obtain ⟨a, ha⟩ : ∃ a, Lay.pad 4 y = a := ⟨_, rfl⟩
  obtain ⟨b, hb⟩ : ∃ b, Lay.pad 2 m = b := ⟨_, rfl⟩
  obtain ⟨c, hc⟩ : ∃ c, Lay.pad 2 d = c := ⟨_, rfl⟩
  have HY := Lib.hid (fun w' => digits_of (K := 4) (k := 4) rfl b0 (by omega) (by omega) (by omega) ha w')
  have HM := Lib.hid (fun w' => digits_of (K := 2) (k := 2) rfl b2 (by omega) (by omega) (by omega) hb w')
  have HD := Lib.hid (fun w' => digits_of (K := 2) (k := 2) rfl b4 (by omega) (by omega) (by omega) hc w')
  rw [ha] at l1 ⊢
  rw [hb] at l2 ⊢
  rw [hc] at l3 ⊢
  clear ha hb hc b0 b1 b2 b3 b4 b5
  go_enter Tryd.func9, Tryd.ntmps9
  go_wp2_with (go_at_call 22; with_reducible refine HV.out.mono ?_; rintro e w' ⟨rfl, rfl⟩)
  with_reducible refine (HY.out _).mono ?_
  rintro e w1 ⟨rfl, hC1⟩
  have HC1 := Lib.hid hC1
  clear hC1
  go_wp2_with fail
  with_reducible refine (HM.out _).mono ?_
  rintro e w2 ⟨rfl, hC2⟩
  have HC2 := Lib.hid (HC1.out.trans (hC2.mono HC1.out.size (fun _ _ q => q)))
  clear hC2
  go_wp2_with fail
  with_reducible refine (HD.out _).mono ?_
  rintro e w3 ⟨rfl, hC3⟩
  have HC3 := Lib.hid (HC2.out.trans (hC3.mono HC2.out.size (fun _ _ q => q)))
  clear hC3
  go_wp2_with fail
  go_ret
  exact ⟨by rw [show a ++ 45 :: (b ++ 45 :: c) = ((a ++ [45]) ++ b ++ [45]) ++ c by simp]; simp only [S_app]; rfl, HC3.out⟩
theorem refText_no (n : Int) (hr : Cal.right n = false) (w : World) : Calls Tryd.prog 9 #[iz n] w (Yd w (S [])) := by
  have HV := Lib.hid (refCivil_no n w hr)
  clear hr
  go_enter Tryd.func9, Tryd.ntmps9
  go_wp2_with (go_at_call 22; with_reducible refine HV.out.mono ?_; rintro e w' ⟨rfl, rfl⟩)
  go_ret
  exact ⟨rfl, Ch.refl _ _ _⟩
theorem R_Text {n : Int} {f : List UInt8} (hf : (if Cal.right n then Lay.fmt Lay.iso (Cal.cy n) (Cal.cm n) (Cal.cd n) else []) = f) : AnsW 9 #[iz n] (S f) := fun w _ => by
  subst hf
  cases hr : Cal.right n
  · exact refText_no n hr w
  · exact refText_yes n hr w
set_option maxRecDepth 100000 in
set_option maxHeartbeats 3200000 in
theorem refParse_any (s : List UInt8) (hs : s.length ≤ 9223372036854775807) (w : World) :
    Calls Tryd.prog 11 #[S s] w (Yd w (.tuple #[iz (if Lay.prs s then Lay.prsN s else 0), .bool (Lay.prs s)])) := by
  by_cases h10 : s.length = 10
  · have e4 : s[4]? = some s[4] := List.getElem?_eq_getElem (by omega)
    have e7 : s[7]? = some s[7] := List.getElem?_eq_getElem (by omega)
    obtain ⟨c4, hc4⟩ : ∃ c, s[4] = c := ⟨_, rfl⟩
    obtain ⟨c7, hc7⟩ : ∃ c, s[7] = c := ⟨_, rfl⟩
    have hg4 : ∀ h', (ByteArray.mk s.toArray)[4]'h' = c4 := fun _ => hc4
    have hg7 : ∀ h', (ByteArray.mk s.toArray)[7]'h' = c7 := fun _ => hc7
    rw [hc4] at e4
    rw [hc7] at e7
    have hF : Lay.form s = (c4 == 45 && c7 == 45) := by unfold Lay.form; rw [h10, e4, e7]; simp
    clear e4 e7 hc4 hc7
    have n4 : c4 = 45 ∨ (c4.toNat : Int) ≠ 45 := by
      by_cases h : c4 = 45
      · exact .inl h
      · refine .inr fun q => h (UInt8.toNat_inj.1 ?_)
        have : c4.toNat = 45 := by omega
        rw [this]; rfl
    have n7 : c7 = 45 ∨ (c7.toNat : Int) ≠ 45 := by
      by_cases h : c7 = 45
      · exact .inl h
      · refine .inr fun q => h (UInt8.toNat_inj.1 ?_)
        have : c7.toNat = 45 := by omega
        rw [this]; rfl
    rcases n4 with rfl | n4
    · rcases n7 with rfl | n7
      · have f4 : ((45 : UInt8).toNat : Int) = 45 := rfl
        have hP : Lay.prs s = (Lay.numB (Lay.pY s) && (Lay.numB (Lay.pM s) && (Lay.numB (Lay.pD s) && Cal.vld (Lay.numN (Lay.pY s)) (Lay.numN (Lay.pM s)) (Lay.numN (Lay.pD s))))) := by
          unfold Lay.prs; rw [hF]; rfl
        have l1 : (Lay.pY s).length ≤ 4 := by unfold Lay.pY; rw [List.length_take]; omega
        have l2 : (Lay.pM s).length ≤ 4 := by unfold Lay.pM; rw [List.length_drop, List.length_take]; omega
        have l3 : (Lay.pD s).length ≤ 4 := by unfold Lay.pD; rw [List.length_drop]; omega
        have x1 : (ByteArray.mk s.toArray).extract 0 4 = ⟨(Lay.pY s).toArray⟩ := dext_take s 4
        have x2 : (ByteArray.mk s.toArray).extract 5 7 = ⟨(Lay.pM s).toArray⟩ := dext_mid s 5 7
        have x3 : (ByteArray.mk s.toArray).extract 8 s.length = ⟨(Lay.pD s).toArray⟩ := dext_drop s 8
        rw [h10] at x3
        have b1 := Lay.numN_bd l1
        have H1 := Lib.hid (fun w' => number_any (Lay.pY s) l1 w')
        have H2 := Lib.hid (fun w' => number_any (Lay.pM s) l2 w')
        have H3 := Lib.hid (fun w' => number_any (Lay.pD s) l3 w')
        have HN0 := fun w' => refNumber_no (Lay.numN (Lay.pY s)) (Lay.numN (Lay.pM s)) (Lay.numN (Lay.pD s)) w' (by omega)
        have HN1 := fun w' => refNumber_yes (Lay.numN (Lay.pY s)) (Lay.numN (Lay.pM s)) (Lay.numN (Lay.pD s)) w'
        have hN : (if Lay.prs s then Lay.prsN s else 0) = if Lay.prs s then Cal.num (Lay.numN (Lay.pY s)) (Lay.numN (Lay.pM s)) (Lay.numN (Lay.pD s)) else 0 := rfl
        rw [hN, hP]
        clear hN hP hF b1 l1 l2 l3
        obtain ⟨a, ha⟩ : ∃ a, Lay.pY s = a := ⟨_, rfl⟩
        obtain ⟨b, hb⟩ : ∃ b, Lay.pM s = b := ⟨_, rfl⟩
        obtain ⟨c, hc⟩ : ∃ c, Lay.pD s = c := ⟨_, rfl⟩
        rw [ha] at x1 H1 HN0 HN1 ⊢
        rw [hb] at x2 H2 HN0 HN1 ⊢
        rw [hc] at x3 H3 HN0 HN1 ⊢
        clear ha hb hc
        obtain ⟨y, hy⟩ : ∃ y, Lay.numN a = y := ⟨_, rfl⟩
        obtain ⟨m, hm⟩ : ∃ m, Lay.numN b = m := ⟨_, rfl⟩
        obtain ⟨d, hd⟩ : ∃ d, Lay.numN c = d := ⟨_, rfl⟩
        rw [hy] at H1 HN0 HN1 ⊢
        rw [hm] at H2 HN0 HN1 ⊢
        rw [hd] at H3 HN0 HN1 ⊢
        clear hy hm hd
        obtain ⟨v, hv⟩ : ∃ v, Cal.vld y m d = v := ⟨_, rfl⟩
        obtain ⟨n, hn⟩ : ∃ n, (if v then Cal.num y m d else 0) = n := ⟨_, rfl⟩
        have H4 := Lib.hid (show ∀ w', Calls Tryd.prog 25 #[iz y, iz m, iz d] w' fun e w'' => e = .returned (.tuple #[iz n, .bool v]) ∧ w' = w'' from fun w' => by
          cases v
          · rw [← hn]; exact HN0 w' hv
          · rw [← hn]; exact HN1 w' hv)
        rw [hv]
        obtain ⟨r, hr⟩ : ∃ r, (if (Lay.numB a && (Lay.numB b && (Lay.numB c && v))) = true then Cal.num y m d else 0) = r := ⟨_, rfl⟩
        rw [hr]
        have HE := Lib.hid (show r = if (Lay.numB a && (Lay.numB b && (Lay.numB c && v))) then n else 0 by
          rw [← hr, ← hn]
          cases v <;> simp)
        clear hv hn HN0 HN1 hr
        obtain ⟨o1, h1⟩ : ∃ o, Lay.numB a = o := ⟨_, rfl⟩
        obtain ⟨o2, h2⟩ : ∃ o, Lay.numB b = o := ⟨_, rfl⟩
        obtain ⟨o3, h3⟩ : ∃ o, Lay.numB c = o := ⟨_, rfl⟩
        rw [h1] at H1 HE ⊢
        rw [h2] at H2 HE ⊢
        rw [h3] at H3 HE ⊢
        clear h1 h2 h3
        go_enter Tryd.func11, Tryd.ntmps11
        go_wp2_with fail
        with_reducible refine (H1.out _).mono ?_
        rintro e w1 ⟨rfl, rfl⟩
        go_wp2_with fail
        with_reducible refine (H2.out _).mono ?_
        rintro e w2 ⟨rfl, rfl⟩
        go_wp2_with fail
        with_reducible refine (H3.out _).mono ?_
        rintro e w3 ⟨rfl, rfl⟩
        go_wp2_with fail
        with_reducible refine (H4.out _).mono ?_
        rintro e w4 ⟨rfl, rfl⟩
        cases o1 <;> cases o2 <;> cases o3 <;> cases v <;>
          (go_wp2_with fail
           go_ret2
           exact ⟨by rw [HE.out]; rfl, Ch.refl _ _ _⟩)
      · have hP : Lay.prs s = false := by
          have : (c7 == 45) = false := beq_eq_false_iff_ne.2 (fun q => n7 (by rw [q]; rfl))
          unfold Lay.prs; rw [hF, this]; rfl
        have f4 : ((45 : UInt8).toNat : Int) = 45 := rfl
        rw [hP]
        clear hP hF
        go_enter Tryd.func11, Tryd.ntmps11
        go_wp2_with fail
        go_ret2
        exact ⟨rfl, Ch.refl _ _ _⟩
    · have hP : Lay.prs s = false := by
        have : (c4 == 45) = false := beq_eq_false_iff_ne.2 (fun q => n4 (by rw [q]; rfl))
        unfold Lay.prs; rw [hF, this]; rfl
      rw [hP]
      clear hP hF n7
      go_enter Tryd.func11, Tryd.ntmps11
      go_wp2_with fail
      go_ret2
      exact ⟨rfl, Ch.refl _ _ _⟩
  · have hP : Lay.prs s = false := by unfold Lay.prs Lay.form; rw [decide_eq_false h10]; rfl
    rw [hP]
    clear hP
    have h10' : ((s.length : Int) == 10) = false := by rw [beq_eq_false_iff_ne]; omega
    go_enter Tryd.func11, Tryd.ntmps11
    go_wp2_with fail
    go_ret2
    exact ⟨rfl, Ch.refl _ _ _⟩
/-- The reference's Parse with a named result, as the code's. -/
theorem R_Parse3 {s : List UInt8} {b : Bool} {n : Int} (hs : s.length ≤ 9223372036854775807) (hb : Lay.rd Lay.iso s = b) (hn : (if b then Lay.rdN Lay.iso s else 0) = n) : AnsW 11 #[S s] (.tuple #[iz n, .bool b]) := fun w _ => by
  obtain ⟨h1, h2⟩ := Lay.prs_rd s
  have := refParse_any s hs w
  rw [← hn, ← hb, ← h1]
  cases h : Lay.prs s
  · rw [h] at this; exact this
  · rw [h] at this
    rw [if_pos rfl, ← h2 h]
    exact this
end Go.Proofs.YtehgkpbjbkeoeaaDoor
