/- Contracts of package date and of the reference with named results; the examples of the chapter. -/
import Derived.Test.YtehgkpbjbkeoeaaDoorDm
namespace Go.Proofs.YtehgkpbjbkeoeaaDoor
open Go.RowKit Go.Shelf
theorem W_of {f : Nat} {args : Array Value} {v : Value} (h : ∀ w, Tw w → Calls Tryd.prog f args w fun e w' => e = .returned v ∧ w = w') : AnsW f args v := fun w hw =>
  (h w hw).mono fun _ _ ⟨he, hq⟩ => ⟨he, hq ▸ Ch.refl _ _ _⟩
theorem C_Num {y m d n : Int} {b : Bool} (hy : y ≤ 9223372036854775807) (hb : Cal.vld y m d = b) (hn : (if b then Cal.num y m d else 0) = n) : AnsW 18 #[iz y, iz m, iz d] (.tuple #[iz n, .bool b]) := by
  subst hn
  cases b
  · exact W_of fun w hw => Number_no y m d w hw.len hy hb
  · exact W_of fun w hw => Number_yes y m d w hw.len hb
theorem C_Vld {y m d : Int} {b : Bool} (hy : y ≤ 9223372036854775807) (hb : Cal.vld y m d = b) : AnsW 32 #[iz y, iz m, iz d] (.bool b) := by
  subst hb
  exact W_of fun w hw => Valid_any y m d w hw.len hy
theorem C_Civ {n y m d : Int} {b : Bool} (hb : Cal.right n = b) (hy : (if b then Cal.cy n else 0) = y) (hm : (if b then Cal.cm n else 0) = m) (hd : (if b then Cal.cd n else 0) = d) : AnsW 19 #[iz n] (.tuple #[iz y, iz m, iz d, .bool b]) := by
  subst hy hm hd
  cases b
  · exact W_of fun w _ => Civil_no n w hb
  · exact W_of fun w hw => Civil_yes n w hw.len hb
theorem C_Wd {n k : Int} {b : Bool} (hb : Cal.right n = b) (hk : (if b then n % 7 + 1 else 0) = k) : AnsW 20 #[iz n] (.tuple #[iz k, .bool b]) := by
  subst hk
  cases b
  · exact W_of fun w _ => Weekday_no n w hb
  · exact W_of fun w _ => Weekday_yes n w hb
theorem C_Mon {n k r : Int} {b : Bool} (h1 : -9223372036854775808 ≤ k) (h2 : k ≤ 9223372036854775807) (hb : Cal.mok n k = b) (hr : (if b then Cal.mth n k else 0) = r) : AnsW 21 #[iz n, iz k] (.tuple #[iz r, .bool b]) := by
  subst hr
  cases b
  · exact W_of fun w hw => Months_no n k w hw.len h1 h2 hb
  · exact W_of fun w hw => Months_yes n k w hw.len h1 h2 hb
theorem R_Num {y m d n : Int} {b : Bool} (hy : y ≤ 9223372036854775807) (hb : Cal.vld y m d = b) (hn : (if b then Cal.num y m d else 0) = n) : AnsW 25 #[iz y, iz m, iz d] (.tuple #[iz n, .bool b]) := by
  subst hn
  cases b
  · exact W_of fun w _ => refNumber_no y m d w hy hb
  · exact W_of fun w _ => refNumber_yes y m d w hb
theorem R_Vld {y m d : Int} {b : Bool} (hy : y ≤ 9223372036854775807) (hb : Cal.vld y m d = b) : AnsW 40 #[iz y, iz m, iz d] (.bool b) := by
  subst hb
  exact W_of fun w _ => refValid_any y m d w hy
theorem R_Civ {n y m d : Int} {b : Bool} (hb : Cal.right n = b) (hy : (if b then Cal.cy n else 0) = y) (hm : (if b then Cal.cm n else 0) = m) (hd : (if b then Cal.cd n else 0) = d) : AnsW 22 #[iz n] (.tuple #[iz y, iz m, iz d, .bool b]) := by
  subst hy hm hd
  cases b
  · exact W_of fun w _ => refCivil_no n w hb
  · exact W_of fun w _ => refCivil_yes n w hb
set_option maxRecDepth 100000 in
set_option maxHeartbeats 3200000 in
theorem sanity3 : AnsW 7 #[] (.bool true) := fun w hw => by
  have HW := Lib.hid hw
  clear hw
  have H0 := Lib.hid (C_Num (y := 1) (m := 1) (d := 1) (n := 0) (b := true) (by decide) (by decide +kernel) (by decide +kernel))
  have H1 := Lib.hid (C_Num (y := 1) (m := 12) (d := 31) (n := 364) (b := true) (by decide) (by decide +kernel) (by decide +kernel))
  have H2 := Lib.hid (C_Num (y := 2) (m := 1) (d := 1) (n := 365) (b := true) (by decide) (by decide +kernel) (by decide +kernel))
  have H3 := Lib.hid (C_Num (y := 2000) (m := 2) (d := 29) (n := 730178) (b := true) (by decide) (by decide +kernel) (by decide +kernel))
  have H4 := Lib.hid (C_Num (y := 1900) (m := 2) (d := 29) (n := 0) (b := false) (by decide) (by decide +kernel) (by decide +kernel))
  have H5 := Lib.hid (C_Civ (n := 3652058) (y := 9999) (m := 12) (d := 31) (b := true) (by decide +kernel) (by decide +kernel) (by decide +kernel) (by decide +kernel))
  have H6 := Lib.hid (C_Wd (n := 3652058) (k := 5) (b := true) (by decide +kernel) (by decide +kernel))
  have H7 := Lib.hid (C_Num (y := 2024) (m := 1) (d := 31) (n := 738915) (b := true) (by decide) (by decide +kernel) (by decide +kernel))
  have H8 := Lib.hid (C_Mon (n := 738915) (k := 1) (r := 738944) (b := true) (by decide) (by decide) (by decide +kernel) (by decide +kernel))
  have H9 := Lib.hid (C_Mon (n := 738915) (k := 13) (r := 739309) (b := true) (by decide) (by decide) (by decide +kernel) (by decide +kernel))
  have H10 := Lib.hid (C_Mon (n := 738915) (k := -1) (r := 738884) (b := true) (by decide) (by decide) (by decide +kernel) (by decide +kernel))
  have H11 := Lib.hid (C_Format (L := [68, 46, 77, 46, 89, 89, 89, 89]) (n := 730178) (f := [50, 57, 46, 50, 46, 50, 48, 48, 48]) (b := true) (by decide) (by decide +kernel) (by decide +kernel))
  have H12 := Lib.hid (C_Read (L := [68, 46, 77, 46, 89, 89, 89, 89]) (s := [50, 57, 46, 50, 46, 50, 48, 48, 48]) (n := 730178) (b := true) (by decide) (by decide) (by decide +kernel) (by decide +kernel))
  have H13 := Lib.hid (C_Read (L := [68, 46, 77, 46, 89, 89, 89, 89]) (s := [50, 57, 46, 48, 50, 46, 50, 48, 48, 48]) (n := 0) (b := false) (by decide) (by decide) (by decide +kernel) (by decide +kernel))
  have H14 := Lib.hid (C_Format (L := [68, 77, 89, 89, 89, 89]) (n := 0) (f := []) (b := false) (by decide) (by decide +kernel) (by decide +kernel))
  have H15 := Lib.hid (C_Text (n := 738944) (f := [50, 48, 50, 52, 45, 48, 50, 45, 50, 57]) (by decide +kernel))
  have H16 := Lib.hid (C_Text (n := 739309) (f := [50, 48, 50, 53, 45, 48, 50, 45, 50, 56]) (by decide +kernel))
  have H17 := Lib.hid (C_Text (n := 738884) (f := [50, 48, 50, 51, 45, 49, 50, 45, 51, 49]) (by decide +kernel))
  have HC := Lib.hid (Ch.refl w.heap.size none1 w)
  go_enter Tryd.func7, Tryd.ntmps7
  go_wp2_with fail
  refine (H0.out _ (HW.out.ch HC.out)).mono ?_
  rintro e w0 ⟨rfl, hC⟩
  have HC2 := Lib.hid (HC.out.trans (hC.mono HC.out.size (fun _ _ q => q)))
  clear hC HC
  have HC := HC2
  clear HC2
  go_wp2_with fail
  refine (H1.out _ (HW.out.ch HC.out)).mono ?_
  rintro e w1 ⟨rfl, hC⟩
  have HC2 := Lib.hid (HC.out.trans (hC.mono HC.out.size (fun _ _ q => q)))
  clear hC HC
  have HC := HC2
  clear HC2
  go_wp2_with fail
  refine (H2.out _ (HW.out.ch HC.out)).mono ?_
  rintro e w2 ⟨rfl, hC⟩
  have HC2 := Lib.hid (HC.out.trans (hC.mono HC.out.size (fun _ _ q => q)))
  clear hC HC
  have HC := HC2
  clear HC2
  go_wp2_with fail
  refine (H3.out _ (HW.out.ch HC.out)).mono ?_
  rintro e w3 ⟨rfl, hC⟩
  have HC2 := Lib.hid (HC.out.trans (hC.mono HC.out.size (fun _ _ q => q)))
  clear hC HC
  have HC := HC2
  clear HC2
  go_wp2_with fail
  refine (H4.out _ (HW.out.ch HC.out)).mono ?_
  rintro e w4 ⟨rfl, hC⟩
  have HC2 := Lib.hid (HC.out.trans (hC.mono HC.out.size (fun _ _ q => q)))
  clear hC HC
  have HC := HC2
  clear HC2
  go_wp2_with fail
  refine (H5.out _ (HW.out.ch HC.out)).mono ?_
  rintro e w5 ⟨rfl, hC⟩
  have HC2 := Lib.hid (HC.out.trans (hC.mono HC.out.size (fun _ _ q => q)))
  clear hC HC
  have HC := HC2
  clear HC2
  go_wp2_with fail
  refine (H6.out _ (HW.out.ch HC.out)).mono ?_
  rintro e w6 ⟨rfl, hC⟩
  have HC2 := Lib.hid (HC.out.trans (hC.mono HC.out.size (fun _ _ q => q)))
  clear hC HC
  have HC := HC2
  clear HC2
  go_wp2_with fail
  refine (H7.out _ (HW.out.ch HC.out)).mono ?_
  rintro e w7 ⟨rfl, hC⟩
  have HC2 := Lib.hid (HC.out.trans (hC.mono HC.out.size (fun _ _ q => q)))
  clear hC HC
  have HC := HC2
  clear HC2
  go_wp2_with fail
  refine (H8.out _ (HW.out.ch HC.out)).mono ?_
  rintro e w8 ⟨rfl, hC⟩
  have HC2 := Lib.hid (HC.out.trans (hC.mono HC.out.size (fun _ _ q => q)))
  clear hC HC
  have HC := HC2
  clear HC2
  go_wp2_with fail
  refine (H9.out _ (HW.out.ch HC.out)).mono ?_
  rintro e w9 ⟨rfl, hC⟩
  have HC2 := Lib.hid (HC.out.trans (hC.mono HC.out.size (fun _ _ q => q)))
  clear hC HC
  have HC := HC2
  clear HC2
  go_wp2_with fail
  refine (H10.out _ (HW.out.ch HC.out)).mono ?_
  rintro e w10 ⟨rfl, hC⟩
  have HC2 := Lib.hid (HC.out.trans (hC.mono HC.out.size (fun _ _ q => q)))
  clear hC HC
  have HC := HC2
  clear HC2
  go_wp2_with fail
  refine (H11.out _ (HW.out.ch HC.out)).mono ?_
  rintro e w11 ⟨rfl, hC⟩
  have HC2 := Lib.hid (HC.out.trans (hC.mono HC.out.size (fun _ _ q => q)))
  clear hC HC
  have HC := HC2
  clear HC2
  go_wp2_with fail
  refine (H12.out _ (HW.out.ch HC.out)).mono ?_
  rintro e w12 ⟨rfl, hC⟩
  have HC2 := Lib.hid (HC.out.trans (hC.mono HC.out.size (fun _ _ q => q)))
  clear hC HC
  have HC := HC2
  clear HC2
  go_wp2_with fail
  refine (H13.out _ (HW.out.ch HC.out)).mono ?_
  rintro e w13 ⟨rfl, hC⟩
  have HC2 := Lib.hid (HC.out.trans (hC.mono HC.out.size (fun _ _ q => q)))
  clear hC HC
  have HC := HC2
  clear HC2
  go_wp2_with fail
  refine (H14.out _ (HW.out.ch HC.out)).mono ?_
  rintro e w14 ⟨rfl, hC⟩
  have HC2 := Lib.hid (HC.out.trans (hC.mono HC.out.size (fun _ _ q => q)))
  clear hC HC
  have HC := HC2
  clear HC2
  go_wp2_with fail
  refine (H15.out _ (HW.out.ch HC.out)).mono ?_
  rintro e w15 ⟨rfl, hC⟩
  have HC2 := Lib.hid (HC.out.trans (hC.mono HC.out.size (fun _ _ q => q)))
  clear hC HC
  have HC := HC2
  clear HC2
  go_wp2_with fail
  refine (H16.out _ (HW.out.ch HC.out)).mono ?_
  rintro e w16 ⟨rfl, hC⟩
  have HC2 := Lib.hid (HC.out.trans (hC.mono HC.out.size (fun _ _ q => q)))
  clear hC HC
  have HC := HC2
  clear HC2
  go_wp2_with fail
  refine (H17.out _ (HW.out.ch HC.out)).mono ?_
  rintro e w17 ⟨rfl, hC⟩
  have HC2 := Lib.hid (HC.out.trans (hC.mono HC.out.size (fun _ _ q => q)))
  clear hC HC
  have HC := HC2
  clear HC2
  go_wp2_with fail
  go_ret
  exact ⟨rfl, HC.out⟩
end Go.Proofs.YtehgkpbjbkeoeaaDoor
