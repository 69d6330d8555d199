/- Package date's Format, Read, Text, Parse. -/
import Derived.Test.YtehgkpbjbkeoeaaDoorDl
namespace Go.Proofs.YtehgkpbjbkeoeaaDoor
open Go.RowKit Go.Shelf
namespace Lay
/-- What Read answers. -/
def rd (l s : Part) : Bool := right l && (Cal.vld (fnd (parts l) s).y (fnd (parts l) s).m (fnd (parts l) s).d && fmt l (fnd (parts l) s).y (fnd (parts l) s).m (fnd (parts l) s).d == s)
def rdN (l s : Part) : Int := Cal.num (fnd (parts l) s).y (fnd (parts l) s).m (fnd (parts l) s).d
def iso : Part := [89, 89, 89, 89, 45, 77, 77, 45, 68, 68]
end Lay
theorem right_len {L : List UInt8} (h : Lay.right L = true) : L.length ≤ 40 := by
  unfold Lay.right at h
  rw [Bool.and_eq_true] at h
  exact of_decide_eq_true h.1
theorem C_isRight {L : List UInt8} {b : Bool} (hL : L.length ≤ 9223372036854775807) (hb : Lay.right L = b) (w : World) : Calls Tryd.prog 26 #[S L] w (Yd w (.bool b)) := by
  subst hb
  by_cases h : L.length ≤ 40
  · exact isRight_short L h w
  · have hf : Lay.right L = false := by
      rcases hr : Lay.right L
      · rfl
      · exact absurd (right_len hr) h
    rw [hf]
    exact isRight_long L (by omega) hL w
theorem dat_of {y m d : Int} (h : Cal.vld y m d = true) : Dat y m d := by
  obtain ⟨h1, h2, h3, h4, h5, h6⟩ := Cal.vld_iff.1 h
  have := Cal.dim_bd y m
  exact ⟨by omega, by omega, by omega, by omega, by omega, by omega⟩
set_option maxRecDepth 100000 in
set_option maxHeartbeats 1600000 in
theorem Format_no (L : List UInt8) (n : Int) (hL : L.length ≤ 9223372036854775807) (h : (Cal.right n && Lay.right L) = false) : AnsW 13 #[S L, iz n] (.tuple #[S [], .bool false]) := fun w hw => by
  rcases hr : Cal.right n
  · have HV := Lib.hid (Civil_no n w hr)
    clear h hr hw
    go_enter Tryd.func13, Tryd.ntmps13
    go_wp2_with (go_at_call 19; with_reducible refine HV.out.mono ?_; rintro e w' ⟨rfl, rfl⟩)
    go_ret2
    exact ⟨rfl, Ch.refl _ _ _⟩
  · have HV := Lib.hid (Civil_yes n w hw.len hr)
    rw [hr, Bool.true_and] at h
    have HR := Lib.hid (C_isRight hL h w)
    clear h hr hw
    go_enter Tryd.func13, Tryd.ntmps13
    go_wp2_with (go_at_call 19; with_reducible refine HV.out.mono ?_; rintro e w' ⟨rfl, rfl⟩)
    with_reducible refine HR.out.mono ?_
    rintro e w' ⟨rfl, hC⟩
    go_wp2_with fail
    go_ret2
    exact ⟨rfl, hC⟩
set_option maxRecDepth 100000 in
set_option maxHeartbeats 1600000 in
theorem Format_yes (L : List UInt8) (n : Int) (hr : Cal.right n = true) (hl : Lay.right L = true) : AnsW 13 #[S L, iz n] (.tuple #[S (Lay.fmt L (Cal.cy n) (Cal.cm n) (Cal.cd n)), .bool true]) := fun w hw => by
  have HV := Lib.hid (Civil_yes n w hw.len hr)
  have hL := right_len hl
  have HR := Lib.hid (C_isRight (by omega) hl w)
  have HD := Lib.hid (dat_of (Cal.civ_spec hr).1)
  have HW := Lib.hid hw
  obtain ⟨y, hy⟩ : ∃ y, Cal.cy n = y := ⟨_, rfl⟩
  obtain ⟨m, hm⟩ : ∃ m, Cal.cm n = m := ⟨_, rfl⟩
  obtain ⟨d, hd⟩ : ∃ d, Cal.cd n = d := ⟨_, rfl⟩
  rw [hy, hm, hd] at HV HD ⊢
  clear hy hm hd hr hl hw
  go_enter Tryd.func13, Tryd.ntmps13
  go_wp2_with (go_at_call 19; with_reducible refine HV.out.mono ?_; rintro e w' ⟨rfl, rfl⟩)
  with_reducible refine HR.out.mono ?_
  rintro e w' ⟨rfl, hC⟩
  have HC := Lib.hid hC
  clear hC
  obtain ⟨f, hf⟩ : ∃ f, Lay.fmt L y m d = f := ⟨_, rfl⟩
  have HP := Lib.hid (replaced_any HD.out L (by omega) _ (HW.out.ch HC.out))
  rw [hf] at HP
  have HFF := Lib.hid hf
  clear hf
  go_wp2_with fail
  with_reducible refine HP.out.mono ?_
  rintro e w2 ⟨rfl, hC2⟩
  have HC2 := Lib.hid (HC.out.trans (hC2.mono HC.out.size (fun _ _ q => q)))
  clear hC2
  go_wp2_with fail
  go_ret2
  exact ⟨by rw [HFF.out]; rfl, HC2.out⟩
set_option maxRecDepth 100000 in
set_option maxHeartbeats 1600000 in
theorem Read_wrong (L s : List UInt8) (hL : L.length ≤ 9223372036854775807) (h : Lay.right L = false) : AnsW 16 #[S L, S s] (.tuple #[iz 0, .bool false]) := fun w hw => by
  have HR := Lib.hid (C_isRight hL h w)
  clear h hw
  go_enter Tryd.func16, Tryd.ntmps16
  go_wp2_with fail
  with_reducible refine HR.out.mono ?_
  rintro e w' ⟨rfl, hC⟩
  have HC := Lib.hid hC
  clear hC
  go_wp2_with fail
  go_ret2
  exact ⟨rfl, HC.out⟩
set_option maxRecDepth 100000 in
set_option maxHeartbeats 1600000 in
theorem Read_right (L s : List UInt8) (hs : s.length ≤ 9223372036854775807) (h : Lay.right L = true) : AnsW 16 #[S L, S s] (.tuple #[iz (if Lay.rd L s then Lay.rdN L s else 0), .bool (Lay.rd L s)]) := fun w hw => by
  have hL := right_len h
  have HR := Lib.hid (C_isRight (by omega) h w)
  have HF := Lib.hid (fun W => found_any L s (by omega) hs W)
  have HW := Lib.hid hw
  have hrd : Lay.rd L s = (Cal.vld (Lay.fnd (Lay.parts L) s).y (Lay.fnd (Lay.parts L) s).m (Lay.fnd (Lay.parts L) s).d && Lay.fmt L (Lay.fnd (Lay.parts L) s).y (Lay.fnd (Lay.parts L) s).m (Lay.fnd (Lay.parts L) s).d == s) := by
    unfold Lay.rd; rw [h, Bool.true_and]
  have ok := Lay.fnd_ok (Lay.parts L) s
  have y1 := ok.y1
  have hrn : Lay.rdN L s = Cal.num (Lay.fnd (Lay.parts L) s).y (Lay.fnd (Lay.parts L) s).m (Lay.fnd (Lay.parts L) s).d := rfl
  generalize Lay.fnd (Lay.parts L) s = a at HF hrd hrn y1
  obtain ⟨y, m, d, t⟩ := a
  simp only at hrd hrn y1 HF
  have HN := Lib.hid hrn
  clear h hw ok hrn
  rcases hv : Cal.vld y m d
  · rw [hv, Bool.false_and] at hrd
    have HV := Lib.hid (fun W (hW : Tw W) => Number_no y m d W hW.len (by omega) hv)
    rw [hrd]
    clear hrd hv
    go_enter Tryd.func16, Tryd.ntmps16
    go_wp2_with fail
    with_reducible refine HR.out.mono ?_
    rintro e w1 ⟨rfl, hC1⟩
    have HC1 := Lib.hid hC1
    clear hC1
    go_wp2_with fail
    with_reducible refine (HF.out _).mono ?_
    rintro e w2 ⟨rfl, hC2⟩
    have HC2 := Lib.hid (HC1.out.trans (hC2.mono HC1.out.size (fun _ _ q => q)))
    clear hC2
    go_wp2_with fail
    have HC3 := Lib.hid (HC2.out.alloc HC2.out.size (.cells #[iz y, iz m, iz d] 53))
    with_reducible refine (HV.out _ (HW.out.ch HC3.out)).mono ?_
    rintro e w' ⟨rfl, rfl⟩
    go_wp2_with fail
    go_ret2
    exact ⟨rfl, HC3.out⟩
  · rw [hv, Bool.true_and] at hrd
    have HD := Lib.hid (dat_of hv)
    have HV := Lib.hid (fun W (hW : Tw W) => Number_yes y m d W hW.len hv)
    obtain ⟨f, hf⟩ : ∃ f, Lay.fmt L y m d = f := ⟨_, rfl⟩
    have HP := Lib.hid (fun W hW => replaced_any HD.out L (by omega) W hW)
    rw [hf] at HP hrd
    rcases hfs : f == s
    · have hfn : (f != s) = true := by rw [bne, hfs]; rfl
      rw [hrd, hfs]
      clear hrd hv hf
      go_enter Tryd.func16, Tryd.ntmps16
      go_wp2_with fail
      with_reducible refine HR.out.mono ?_
      rintro e w1 ⟨rfl, hC1⟩
      have HC1 := Lib.hid hC1
      clear hC1
      go_wp2_with fail
      with_reducible refine (HF.out _).mono ?_
      rintro e w2 ⟨rfl, hC2⟩
      have HC2 := Lib.hid (HC1.out.trans (hC2.mono HC1.out.size (fun _ _ q => q)))
      clear hC2
      go_wp2_with fail
      have HC3 := Lib.hid (HC2.out.alloc HC2.out.size (.cells #[iz y, iz m, iz d] 53))
      with_reducible refine (HV.out _ (HW.out.ch HC3.out)).mono ?_
      rintro e w' ⟨rfl, rfl⟩
      go_wp2_with fail
      with_reducible refine (HP.out _ (HW.out.ch HC3.out)).mono ?_
      rintro e w4 ⟨rfl, hC4⟩
      have HC4 := Lib.hid (HC3.out.trans (hC4.mono HC3.out.size (fun _ _ q => q)))
      clear hC4
      go_wp2_with fail
      go_ret2
      exact ⟨rfl, HC4.out⟩
    · have hfn : (f != s) = false := by rw [bne, hfs]; rfl
      rw [hrd, hfs, if_pos rfl, HN.out]
      clear hrd hv hf
      go_enter Tryd.func16, Tryd.ntmps16
      go_wp2_with fail
      with_reducible refine HR.out.mono ?_
      rintro e w1 ⟨rfl, hC1⟩
      have HC1 := Lib.hid hC1
      clear hC1
      go_wp2_with fail
      with_reducible refine (HF.out _).mono ?_
      rintro e w2 ⟨rfl, hC2⟩
      have HC2 := Lib.hid (HC1.out.trans (hC2.mono HC1.out.size (fun _ _ q => q)))
      clear hC2
      go_wp2_with fail
      have HC3 := Lib.hid (HC2.out.alloc HC2.out.size (.cells #[iz y, iz m, iz d] 53))
      with_reducible refine (HV.out _ (HW.out.ch HC3.out)).mono ?_
      rintro e w' ⟨rfl, rfl⟩
      go_wp2_with fail
      with_reducible refine (HP.out _ (HW.out.ch HC3.out)).mono ?_
      rintro e w4 ⟨rfl, hC4⟩
      have HC4 := Lib.hid (HC3.out.trans (hC4.mono HC3.out.size (fun _ _ q => q)))
      clear hC4
      go_wp2_with fail
      go_ret2
      exact ⟨rfl, HC4.out⟩
theorem rd_wrong {L : List UInt8} (s : List UInt8) (h : Lay.right L = false) : Lay.rd L s = false := by unfold Lay.rd; rw [h, Bool.false_and]
/-- Read, whatever it is given. -/
theorem C_Read {L s : List UInt8} {b : Bool} {n : Int} (hL : L.length ≤ 9223372036854775807) (hs : s.length ≤ 9223372036854775807) (hb : Lay.rd L s = b) (hn : (if b then Lay.rdN L s else 0) = n) : AnsW 16 #[S L, S s] (.tuple #[iz n, .bool b]) := by
  subst hn
  subst hb
  rcases h : Lay.right L
  · have := Read_wrong L s hL h
    rw [rd_wrong s h]
    exact this
  · exact Read_right L s hs h
/-- Format, whatever it is given. -/
theorem C_Format {L f : List UInt8} {n : Int} {b : Bool} (hL : L.length ≤ 9223372036854775807) (hb : (Cal.right n && Lay.right L) = b) (hf : (if b then Lay.fmt L (Cal.cy n) (Cal.cm n) (Cal.cd n) else []) = f) : AnsW 13 #[S L, iz n] (.tuple #[S f, .bool b]) := by
  subst hf
  subst hb
  rcases h : (Cal.right n && Lay.right L)
  · exact Format_no L n hL h
  · rw [Bool.and_eq_true] at h
    exact Format_yes L n h.1 h.2
theorem iso_right : Lay.right Lay.iso = true := by decide +kernel
set_option maxRecDepth 100000 in
set_option maxHeartbeats 1600000 in
theorem C_Text {n : Int} {f : List UInt8} (hf : (if Cal.right n then Lay.fmt Lay.iso (Cal.cy n) (Cal.cm n) (Cal.cd n) else []) = f) : AnsW 8 #[iz n] (S f) := fun w hw => by
  have HF := Lib.hid (C_Format (L := Lay.iso) (n := n) (f := f) (b := Cal.right n) (by decide) (by rw [iso_right, Bool.and_true]) hf w hw)
  clear hf hw
  go_enter Tryd.func8, Tryd.ntmps8
  go_wp2_with fail
  refine HF.out.mono ?_
  rintro e w1 ⟨rfl, hC⟩
  go_wp2_with fail
  go_ret
  exact ⟨rfl, hC⟩
set_option maxRecDepth 100000 in
set_option maxHeartbeats 1600000 in
theorem C_Parse3 {s : List UInt8} {b : Bool} {n : Int} (hs : s.length ≤ 9223372036854775807) (hb : Lay.rd Lay.iso s = b) (hn : (if b then Lay.rdN Lay.iso s else 0) = n) : AnsW 10 #[S s] (.tuple #[iz n, .bool b]) := fun w hw => by
  have HF := Lib.hid (C_Read (L := Lay.iso) (by decide) hs hb hn w hw)
  clear hb hn hw
  go_enter Tryd.func10, Tryd.ntmps10
  go_wp2_with fail
  refine HF.out.mono ?_
  rintro e w1 ⟨rfl, hC⟩
  go_wp2_with fail
  go_ret2
  exact ⟨rfl, hC⟩
end Go.Proofs.YtehgkpbjbkeoeaaDoor
