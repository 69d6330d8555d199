/- Package span: Year, Period, of both packages. -/
import Derived.Test.YtnbcfolmadkliaaDoorSb
import Derived.Laws.Rows
namespace Go.Proofs.YtnbcfolmadkliaaDoor
open Go.RowKit
theorem results_row2 {P : Program} {fn : Func} {p t' : Tmp} {ty : TypeId} (h : fn.results = #[.cell p ty, .tmp t']) (tmps : Array Value) (w : World) (g : Nat) (t : TypeId) (cs : Array Value) (fr : Nat × Nat) (d : TypeDesc)
    (hp : tmps.getD p undef = .pointer (some ⟨g, 0, none⟩)) (hg : w.heap[g]? = some (.cells cs t fr))
    (hu : P.underlying ty = some d) (hd : (match d with | .struct _ | .array _ _ => true | _ => false) = true) (hi : (P.info? ty).map (·.size) = some cs.size) :
    (results fn tmps).run P w = .ok (.tuple #[.agg cs, tmps.getD t' undef]) w := by
  have hp' : tmps[p]?.getD undef = .pointer (some ⟨g, 0, none⟩) := by simpa using hp
  simp [results, h, hp', asAddr, run_loadVar_row w g t ty cs fr d hg hu hd hi]
def inYears (p : Int) : Bool := decide (0 ≤ p) && decide (p < 20)
def yV (p : Int) : Value := if inYears p then .tuple #[SpV (Cal.dby (2000 + p)) (Cal.dby (2000 + p + 1)), .bool true] else .tuple #[SpV 0 0, .bool false]
theorem yV_no {p : Int} (h : ¬ (0 ≤ p ∧ p < 20)) : yV p = .tuple #[SpV 0 0, .bool false] := by
  unfold yV inYears
  rw [if_neg (by simp; omega)]
theorem yV_yes {p : Int} (h0 : 0 ≤ p) (h1 : p < 20) : yV p = .tuple #[SpV (Cal.dby (2000 + p)) (Cal.dby (2000 + p + 1)), .bool true] := by
  unfold yV inYears
  rw [if_pos (by simp; omega)]
theorem jan_vld {y : Int} (h0 : 2000 ≤ y) (h1 : y ≤ 2020) : Cal.vld y 1 1 = true := Cal.vld_iff.2 ⟨by omega, by omega, by omega, by omega, by omega, Cal.dim_pos⟩
theorem jan_num (y : Int) : Cal.num y 1 1 = Cal.dby y := by unfold Cal.num; rw [Cal.cum_one]; omega
theorem jan_any {y : Int} (w : World) (ht : LenIs w) (h0 : 2000 ≤ y) (h1 : y ≤ 2020) :
    Calls Tryd.prog 32 #[iz y, iz 1, iz 1] w fun e w' => e = .returned (.tuple #[iz (Cal.dby y), .bool true]) ∧ w = w' := by
  have := Number_yes y 1 1 w ht (jan_vld h0 h1)
  rwa [jan_num] at this
theorem refJan_any {y : Int} (w : World) (h0 : 2000 ≤ y) (h1 : y ≤ 2020) :
    Calls Tryd.prog 33 #[iz y, iz 1, iz 1] w fun e w' => e = .returned (.tuple #[iz (Cal.dby y), .bool true]) ∧ w = w' := by
  have := refNumber_yes y 1 1 w (jan_vld h0 h1)
  rwa [jan_num] at this
theorem len_ch {w w' : World} (h : LenIs w) (hC : Ch w.heap.size none1 w w') : LenIs w' := by
  unfold LenIs Lib.TabIs World.var? at *
  rcases hg : Tryd.prog.globalNamed "tithing/date.lengths" with _ | g
  · rw [hg] at h; simp at h
  · rw [hg] at h
    simp only [Option.bind_some] at h ⊢
    have hlt : g < w.heap.size := by
      rcases Nat.lt_or_ge g w.heap.size with q | q
      · exact q
      · rw [Array.getElem?_eq_none q] at h; simp at h
    rw [hC.block g hlt (fun q => q)]
    exact h
set_option maxRecDepth 100000 in
set_option maxHeartbeats 1600000 in
theorem Year_any (p : Int) (w : World) (ht : LenIs w) (hp : -9223372036854775808 ≤ p ∧ p ≤ 9223372036854775807) :
    Calls Tryd.prog 18 #[iz p] w (Ya w (yV p)) := by
  obtain ⟨p0, p1⟩ := hp
  have hb := Blk.new w #[iz 0, iz 0] 35
  have c0 := hb.cell 0
  have c1 := hb.cell 1
  have f0 := hb.frozen 0
  have f1 := hb.frozen 1
  simp only [List.getElem?_cons_zero, List.getElem?_cons_succ] at c0 c1
  have hC := (Ch.refl w.heap.size none1 w).alloc (Nat.le_refl _) (.cells #[iz 0, iz 0] 35)
  have HT := Lib.hid (len_ch ht hC)
  have HB := Lib.hid hb
  have HC := Lib.hid hC
  clear ht hb hC
  obtain ⟨V, hV⟩ : ∃ V, yV p = V := ⟨_, rfl⟩
  rw [hV]
  have HV := Lib.hid hV
  clear hV
  by_cases h0 : 0 ≤ p
  · by_cases h1 : p < 20
    · have HE := Lib.hid (HV.out.symm.trans (yV_yes h0 h1))
      have H1 := Lib.hid (jan_any (y := 2000 + p) _ HT.out (by omega) (by omega))
      have H2 := Lib.hid (jan_any (y := 2000 + p + 1) _ HT.out (by omega) (by omega))
      obtain ⟨x, hx⟩ : ∃ x, Cal.dby (2000 + p) = x := ⟨_, rfl⟩
      obtain ⟨y, hy⟩ : ∃ y, Cal.dby (2000 + p + 1) = y := ⟨_, rfl⟩
      rw [hx] at H1 HE
      rw [hy] at H2 HE
      clear hx hy
      go_enter Tryd.func18, Tryd.ntmps18
      go_wp2_with fail
      refine H1.out.mono ?_
      rintro e w' ⟨rfl, rfl⟩
      go_wp2_with fail
      refine H2.out.mono ?_
      rintro e w' ⟨rfl, rfl⟩
      go_wp2_with fail
      have h9 := Blk.new w #[iz x, iz y] 35
      refine bodyPost_ret (results_row2 rfl _ _ w.heap.size _ _ _ _ rfl h9 Tryd.underlying35 rfl (by kernel_rfl)) rfl ?_
      exact ⟨by rw [HE.out]; rfl, (Ch.refl _ _ w).alloc (Nat.le_refl _) _⟩
    · have HE := Lib.hid (HV.out.symm.trans (yV_no (p := p) (by omega)))
      go_enter Tryd.func18, Tryd.ntmps18
      go_wp2_with fail
      refine bodyPost_ret (results_row2 rfl _ _ w.heap.size _ _ _ _ rfl HB.out Tryd.underlying35 rfl (by kernel_rfl)) rfl ?_
      exact ⟨by rw [HE.out]; rfl, HC.out⟩
  · have HE := Lib.hid (HV.out.symm.trans (yV_no (p := p) (by omega)))
    go_enter Tryd.func18, Tryd.ntmps18
    go_wp2_with fail
    refine bodyPost_ret (results_row2 rfl _ _ w.heap.size _ _ _ _ rfl HB.out Tryd.underlying35 rfl (by kernel_rfl)) rfl ?_
    exact ⟨by rw [HE.out]; rfl, HC.out⟩
set_option maxRecDepth 100000 in
set_option maxHeartbeats 1600000 in
theorem refYear_any (p : Int) (w : World) (hp : -9223372036854775808 ≤ p ∧ p ≤ 9223372036854775807) :
    Calls Tryd.prog 19 #[iz p] w (Ya w (yV p)) := by
  obtain ⟨p0, p1⟩ := hp
  have hb := Blk.new w #[iz 0, iz 0] 35
  have c0 := hb.cell 0
  have c1 := hb.cell 1
  have f0 := hb.frozen 0
  have f1 := hb.frozen 1
  simp only [List.getElem?_cons_zero, List.getElem?_cons_succ] at c0 c1
  have hC := (Ch.refl w.heap.size none1 w).alloc (Nat.le_refl _) (.cells #[iz 0, iz 0] 35)
  have HB := Lib.hid hb
  have HC := Lib.hid hC
  clear hb hC
  obtain ⟨V, hV⟩ : ∃ V, yV p = V := ⟨_, rfl⟩
  rw [hV]
  have HV := Lib.hid hV
  clear hV
  by_cases h0 : 0 ≤ p
  · by_cases h1 : p < 20
    · have HE := Lib.hid (HV.out.symm.trans (yV_yes h0 h1))
      have H1 := Lib.hid (refJan_any (y := 2000 + p) (w.alloc (.cells #[iz 0, iz 0] 35)) (by omega) (by omega))
      have H2 := Lib.hid (refJan_any (y := 2000 + p + 1) (w.alloc (.cells #[iz 0, iz 0] 35)) (by omega) (by omega))
      obtain ⟨x, hx⟩ : ∃ x, Cal.dby (2000 + p) = x := ⟨_, rfl⟩
      obtain ⟨y, hy⟩ : ∃ y, Cal.dby (2000 + p + 1) = y := ⟨_, rfl⟩
      rw [hx] at H1 HE
      rw [hy] at H2 HE
      clear hx hy
      go_enter Tryd.func19, Tryd.ntmps19
      go_wp2_with fail
      refine H1.out.mono ?_
      rintro e w' ⟨rfl, rfl⟩
      go_wp2_with fail
      refine H2.out.mono ?_
      rintro e w' ⟨rfl, rfl⟩
      go_wp2_with fail
      have h9 := Blk.new w #[iz x, iz y] 35
      refine bodyPost_ret (results_row2 rfl _ _ w.heap.size _ _ _ _ rfl h9 Tryd.underlying35 rfl (by kernel_rfl)) rfl ?_
      exact ⟨by rw [HE.out]; rfl, (Ch.refl _ _ w).alloc (Nat.le_refl _) _⟩
    · have HE := Lib.hid (HV.out.symm.trans (yV_no (p := p) (by omega)))
      go_enter Tryd.func19, Tryd.ntmps19
      go_wp2_with fail
      refine bodyPost_ret (results_row2 rfl _ _ w.heap.size _ _ _ _ rfl HB.out Tryd.underlying35 rfl (by kernel_rfl)) rfl ?_
      exact ⟨by rw [HE.out]; rfl, HC.out⟩
  · have HE := Lib.hid (HV.out.symm.trans (yV_no (p := p) (by omega)))
    go_enter Tryd.func19, Tryd.ntmps19
    go_wp2_with fail
    refine bodyPost_ret (results_row2 rfl _ _ w.heap.size _ _ _ _ rfl HB.out Tryd.underlying35 rfl (by kernel_rfl)) rfl ?_
    exact ⟨by rw [HE.out]; rfl, HC.out⟩
/-- What Period answers. -/
def pV (d : Int) : Value := if decide (730119 ≤ d) && decide (d < 737424) then .tuple #[iz (Cal.yof d - 2000), .bool true] else .tuple #[iz 0, .bool false]
theorem pV_no {d : Int} (h : ¬ (730119 ≤ d ∧ d < 737424)) : pV d = .tuple #[iz 0, .bool false] := by
  unfold pV
  rw [if_neg (by simp; omega)]
theorem pV_yes {d : Int} (h0 : 730119 ≤ d) (h1 : d < 737424) : pV d = .tuple #[iz (Cal.yof d - 2000), .bool true] := by
  unfold pV
  rw [if_pos (by simp; omega)]
theorem dby_2000 : Cal.dby 2000 = 730119 := by decide
theorem dby_2020 : Cal.dby 2020 = 737424 := by decide
theorem yof_range {d : Int} (h : Cal.right d = true) : (2000 ≤ Cal.yof d ∧ Cal.yof d < 2020) ↔ (730119 ≤ d ∧ d < 737424) := by
  obtain ⟨_, _, h1, h2⟩ := Cal.yof_spec h
  constructor
  · rintro ⟨a, b⟩
    have := Cal.dby_le a
    have h3 := Cal.dby_le (show Cal.yof d + 1 ≤ 2020 by omega)
    rw [dby_2000] at this
    rw [dby_2020] at h3
    omega
  · rintro ⟨a, b⟩
    rcases Int.lt_or_le (Cal.yof d) 2000 with q | q
    · have := Cal.dby_le (show Cal.yof d + 1 ≤ 2000 by omega)
      rw [dby_2000] at this
      omega
    · refine ⟨q, ?_⟩
      rcases Int.lt_or_le (Cal.yof d) 2020 with q2 | q2
      · exact q2
      · have := Cal.dby_le q2
        rw [dby_2020] at this
        omega
set_option maxRecDepth 100000 in
set_option maxHeartbeats 1600000 in
theorem Period_any (d : Int) (w : World) (ht : LenIs w) :
    Calls Tryd.prog 21 #[iz d] w fun e w' => e = .returned (pV d) ∧ w = w' := by
  obtain ⟨V, hV⟩ : ∃ V, pV d = V := ⟨_, rfl⟩
  rw [hV]
  have HV := Lib.hid hV
  clear hV
  rcases hr : Cal.right d
  · have H1 := Lib.hid (Civil_no d w hr)
    have HE := Lib.hid (HV.out.symm.trans (pV_no (by have := Cal.right_not.1 hr; omega)))
    clear hr ht
    go_enter Tryd.func21, Tryd.ntmps21
    go_wp2_with fail
    refine H1.out.mono ?_
    rintro e w' ⟨rfl, rfl⟩
    go_wp2_with fail
    go_ret2
    exact ⟨by rw [HE.out]; rfl, rfl⟩
  · have H1 := Lib.hid (Civil_yes d w ht hr)
    have hy := Cal.yof_spec hr
    have hyr := yof_range hr
    have e1 : Cal.cy d = Cal.yof d := rfl
    rw [e1] at H1
    have HY := Lib.hid hyr
    obtain ⟨y1, y2, _, _⟩ := hy
    have hpy := fun a b => pV_yes (d := d) a b
    obtain ⟨y, hyy⟩ : ∃ y, Cal.yof d = y := ⟨_, rfl⟩
    rw [hyy] at H1 y1 y2 HY hpy
    have HPY := Lib.hid hpy
    clear hr ht hyr hyy e1 hpy
    by_cases h0 : 2000 ≤ y
    · by_cases h1 : y < 2020
      · have HE := Lib.hid (HV.out.symm.trans (HPY.out (HY.out.1 ⟨h0, h1⟩).1 (HY.out.1 ⟨h0, h1⟩).2))
        go_enter Tryd.func21, Tryd.ntmps21
        go_wp2_with fail
        refine H1.out.mono ?_
        rintro e w' ⟨rfl, rfl⟩
        go_wp2_with fail
        go_ret2
        exact ⟨by rw [HE.out]; rfl, rfl⟩
      · have HE := Lib.hid (HV.out.symm.trans (pV_no fun q => by have := HY.out.2 q; omega))
        go_enter Tryd.func21, Tryd.ntmps21
        go_wp2_with fail
        refine H1.out.mono ?_
        rintro e w' ⟨rfl, rfl⟩
        go_wp2_with fail
        go_ret2
        exact ⟨by rw [HE.out]; rfl, rfl⟩
    · have HE := Lib.hid (HV.out.symm.trans (pV_no fun q => by have := HY.out.2 q; omega))
      go_enter Tryd.func21, Tryd.ntmps21
      go_wp2_with fail
      refine H1.out.mono ?_
      rintro e w' ⟨rfl, rfl⟩
      go_wp2_with fail
      go_ret2
      exact ⟨by rw [HE.out]; rfl, rfl⟩
/-- In the reference's loop: the year that has the day. -/
theorem year_hit {d : Int} {k : Nat} (hk : k < 20) (h1 : Cal.dby (2000 + (k : Int)) ≤ d) (h2 : d < Cal.dby (2000 + (k : Int) + 1)) : pV d = .tuple #[iz (k : Int), .bool true] := by
  have a := Cal.dby_le (show (2000 : Int) ≤ 2000 + (k : Int) by omega)
  have b := Cal.dby_le (show 2000 + (k : Int) + 1 ≤ 2020 by omega)
  rw [dby_2000] at a
  rw [dby_2020] at b
  rw [pV_yes (by omega) (by omega), Cal.yof_uniq (Cal.right_iff.2 ⟨by omega, by omega⟩) h1 h2, show 2000 + (k : Int) - 2000 = k by omega]
theorem year_miss {d : Int} (h : ¬ (730119 ≤ d ∧ d < Cal.dby (2000 + 20))) : pV d = .tuple #[iz 0, .bool false] := pV_no (by rw [show (2000 : Int) + 20 = 2020 from rfl, dby_2020] at h; exact h)
set_option maxRecDepth 100000 in
set_option maxHeartbeats 3200000 in
theorem refPeriod_any (d : Int) (w : World) :
    Calls Tryd.prog 22 #[iz d] w (Ya w (pV d)) := by
  obtain ⟨V, hV⟩ : ∃ V, pV d = V := ⟨_, rfl⟩
  rw [hV]
  have HV := Lib.hid hV
  clear hV
  go_enter Tryd.func22, Tryd.ntmps22
  go_wp2_with fail
  go_loopw [4] (fun i wr => ∃ k : Nat, k ≤ 20 ∧ i = .int .i64 k ∧ Ch w.heap.size none1 w wr ∧ ¬ (730119 ≤ d ∧ d < Cal.dby (2000 + (k : Int)))) (fun i _ => 20 - (intOf i).toNat)
  case atStart => exact ⟨0, Nat.zero_le _, rfl, Ch.refl _ _ _, by rw [show (2000 : Int) + ((0 : Nat) : Int) = 2000 from rfl, dby_2000]; omega⟩
  case round =>
    obtain ⟨k, hk, rfl, hC, hno⟩ := hrel
    have HC := Lib.hid hC
    have HNO := Lib.hid hno
    clear hC hno
    by_cases hlt : k < 20
    · have hy := refYear_any (k : Int) wr ⟨by omega, by omega⟩
      rw [yV_yes (by omega) (by omega)] at hy
      have hhit := fun a b => year_hit (d := d) hlt a b
      have hlo := Cal.dby_le (show (2000 : Int) ≤ 2000 + (k : Int) by omega)
      rw [dby_2000] at hlo
      have hcast : (2000 : Int) + ((k + 1 : Nat) : Int) = 2000 + (k : Int) + 1 := by omega
      have HCA := Lib.hid (show ∀ z, ¬ (730119 ≤ d ∧ d < Cal.dby (2000 + (k : Int) + 1)) → z = k + 1 → ¬ (730119 ≤ d ∧ d < Cal.dby (2000 + ((z : Nat) : Int))) from fun z q e => by subst e; rw [hcast]; exact q)
      obtain ⟨x, hx⟩ : ∃ x, Cal.dby (2000 + (k : Int)) = x := ⟨_, rfl⟩
      obtain ⟨y, hyy⟩ : ∃ y, Cal.dby (2000 + (k : Int) + 1) = y := ⟨_, rfl⟩
      rw [hx] at hy hhit hlo HNO
      rw [hyy] at hy hhit HCA
      have H1 := Lib.hid hy
      have HH := Lib.hid hhit
      clear hx hyy hy hhit hcast
      go_wp2_with fail
      refine H1.out.mono ?_
      rintro e w1 ⟨rfl, hC1⟩
      have hbb := Blk.new w1 #[iz x, iz y] 35
      have e0 := hbb.cell 0
      have e1 := hbb.cell 1
      simp only [List.getElem?_cons_zero, List.getElem?_cons_succ] at e0 e1
      have HC1 := Lib.hid ((HC.out.step0 hC1 (Nat.le_refl _)).alloc (by have := HC.out.size; have := hC1.size; omega) (.cells #[iz x, iz y] 35))
      clear hC1 hbb
      by_cases h1 : x ≤ d
      · by_cases h2 : d < y
        · have HE := Lib.hid (HV.out.symm.trans (HH.out h1 h2))
          go_wp2_with fail
          go_ret2
          exact ⟨by rw [HE.out]; rfl, HC1.out⟩
        · go_wp2_with fail
          go_roundw
          case rel => exact ⟨k + 1, by omega, by go_num, HC1.out, HCA.out _ (by omega) rfl⟩
          case measure => simp [intOf]; omega
      · go_wp2_with fail
        go_roundw
        case rel => exact ⟨k + 1, by omega, by go_num, HC1.out, HCA.out _ (by have := HNO.out; omega) rfl⟩
        case measure => simp [intOf]; omega
    · obtain rfl : k = 20 := by omega
      have HE := Lib.hid (HV.out.symm.trans (year_miss HNO.out))
      clear hk
      go_wp2_with fail
      go_ret2
      exact ⟨by rw [HE.out]; rfl, HC.out⟩
end Go.Proofs.YtnbcfolmadkliaaDoor
