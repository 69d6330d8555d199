/- The check of the document's examples, which every law of layer 1 runs first: it returns true. -/
import Derived.Test.YtcghnkdfhiancaaDoorOi
import Derived.Test.YtcghnkdfhiancaaDoorNu
namespace Go.Proofs.YtcghnkdfhiancaaDoor
open Go.RowKit
theorem nb_is (l : List UInt8) (n : Nat) (h : bv l = n) (ht : trimL l = l) : nb n = l := by rw [← trimL_of_nb h, ht]
theorem pow_ch {w w' : World} (h : pow10Is w) (hC : Ch w.heap.size none1 w w') : pow10Is w' := tab_ch h hC
theorem ch_same {w w' : World} (h : w' = w) : Ch w.heap.size none1 w w' := by subst h; exact Ch.refl _ _ _
abbrev Yld (w : World) (v : Value) (e : Ending) (w' : World) : Prop := e = .returned v ∧ Ch w.heap.size none1 w w'
theorem kof (n : Int) (l : List UInt8) (w : World) (h0 : 0 ≤ n) (h1 : n ≤ 9223372036854775807) (h : bv l = n.toNat) (ht : trimL l = l) :
    Calls Tryd.prog 27 #[.int .i64 n] w (Yld w (S l)) :=
  (of_any n w h0 h1).mono fun _ _ ⟨he, hC⟩ => ⟨by rw [he, nb_is l _ h ht], hC⟩
theorem kof_256 (w : World) : Calls Tryd.prog 27 #[.int .i64 256] w (Yld w (.string ⟨#[1, 0]⟩)) := kof 256 [1, 0] w (by decide) (by decide) (by decide) (by decide)
theorem kof_3 (w : World) : Calls Tryd.prog 27 #[.int .i64 3] w (Yld w (.string ⟨#[3]⟩)) := kof 3 [3] w (by decide) (by decide) (by decide) (by decide)
theorem kof_5 (w : World) : Calls Tryd.prog 27 #[.int .i64 5] w (Yld w (.string ⟨#[5]⟩)) := kof 5 [5] w (by decide) (by decide) (by decide) (by decide)
theorem kof_1000 (w : World) : Calls Tryd.prog 27 #[.int .i64 1000] w (Yld w (.string ⟨#[3, 232]⟩)) := kof 1000 [3, 232] w (by decide) (by decide) (by decide) (by decide)
theorem kof_7 (w : World) : Calls Tryd.prog 27 #[.int .i64 7] w (Yld w (.string ⟨#[7]⟩)) := kof 7 [7] w (by decide) (by decide) (by decide) (by decide)
theorem kof_2 (w : World) : Calls Tryd.prog 27 #[.int .i64 2] w (Yld w (.string ⟨#[2]⟩)) := kof 2 [2] w (by decide) (by decide) (by decide) (by decide)
theorem kof_142 (w : World) : Calls Tryd.prog 27 #[.int .i64 142] w (Yld w (.string ⟨#[142]⟩)) := kof 142 [142] w (by decide) (by decide) (by decide) (by decide)
theorem kof_6 (w : World) : Calls Tryd.prog 27 #[.int .i64 6] w (Yld w (.string ⟨#[6]⟩)) := kof 6 [6] w (by decide) (by decide) (by decide) (by decide)
theorem kof_12 (w : World) : Calls Tryd.prog 27 #[.int .i64 12] w (Yld w (.string ⟨#[12]⟩)) := kof 12 [12] w (by decide) (by decide) (by decide) (by decide)
theorem kof_18 (w : World) : Calls Tryd.prog 27 #[.int .i64 18] w (Yld w (.string ⟨#[18]⟩)) := kof 18 [18] w (by decide) (by decide) (by decide) (by decide)
theorem kof_200 (w : World) : Calls Tryd.prog 27 #[.int .i64 200] w (Yld w (.string ⟨#[200]⟩)) := kof 200 [200] w (by decide) (by decide) (by decide) (by decide)
theorem kof_1 (w : World) : Calls Tryd.prog 27 #[.int .i64 1] w (Yld w (.string ⟨#[1]⟩)) := kof 1 [1] w (by decide) (by decide) (by decide) (by decide)
theorem kof_255 (w : World) : Calls Tryd.prog 27 #[.int .i64 255] w (Yld w (.string ⟨#[255]⟩)) := kof 255 [255] w (by decide) (by decide) (by decide) (by decide)
theorem kof_neg (w : World) : Calls Tryd.prog 27 #[.int .i64 (-1)] w (Yld w (.string ⟨#[]⟩)) :=
  (of_neg (-1) w (by decide) (by decide)).mono fun _ _ ⟨he, hw⟩ => ⟨he, ch_same hw⟩
theorem kint (w : World) : Calls Tryd.prog 28 #[.string ⟨#[0, 1, 0]⟩] w (Yld w (.tuple #[.int .i64 256, .bool true])) :=
  (int_yes [0, 1, 0] w (by decide) (by decide)).mono fun _ _ ⟨he, hw⟩ => ⟨he, ch_same hw⟩
theorem ksub_no (w : World) : Calls Tryd.prog 13 #[.string ⟨#[3]⟩, .string ⟨#[5]⟩] w (Yld w (.tuple #[.string ⟨#[]⟩, .bool false])) :=
  (Sub_no [3] [5] w (by decide) (by decide) (by decide)).mono fun _ _ h => ⟨h.1, ch_same h.2⟩
theorem ksub_yes (w : World) : Calls Tryd.prog 13 #[.string ⟨#[5]⟩, .string ⟨#[3]⟩] w (Yld w (.tuple #[.string ⟨#[2]⟩, .bool true])) :=
  (Sub_yes [5] [3] w (by decide) (by decide) (by decide)).mono fun _ _ ⟨he, hC⟩ => ⟨by rw [he, nb_is [2] _ (by decide) (by decide)], hC⟩
theorem kquo (w : World) : Calls Tryd.prog 34 #[.string ⟨#[3, 232]⟩, .string ⟨#[7]⟩] w (Yld w (.tuple #[.string ⟨#[142]⟩, .string ⟨#[6]⟩, .bool true])) :=
  (Quo_yes [3, 232] [7] w (by decide) (by decide) (by decide)).mono fun _ _ ⟨he, hC⟩ => ⟨by rw [he, nb_is [142] _ (by decide) (by decide), nb_is [6] _ (by decide) (by decide)], hC⟩
theorem kgcd (w : World) : Calls Tryd.prog 23 #[.string ⟨#[12]⟩, .string ⟨#[18]⟩] w (Yld w (.string ⟨#[6]⟩)) :=
  (Gcd_words [12] [18] w (by decide) (by decide) (by decide) (by decide)).mono fun _ _ ⟨he, hC⟩ => ⟨by rw [he, nb_is [6] _ (by decide) (by decide)], hC⟩
theorem kgcd0 (w : World) : Calls Tryd.prog 23 #[.string ⟨#[]⟩, .string ⟨#[5]⟩] w (Yld w (.string ⟨#[5]⟩)) :=
  (Gcd_words [] [5] w (by decide) (by decide) (by decide) (by decide)).mono fun _ _ ⟨he, hC⟩ => ⟨by rw [he, nb_is [5] _ (by decide) (by decide)], hC⟩
theorem pow_big : bv [1] = bv [3] ^ bv [200] % bv [3, 232] := by decide +kernel
theorem kpow (w : World) : Calls Tryd.prog 25 #[.string ⟨#[3]⟩, .string ⟨#[200]⟩, .string ⟨#[3, 232]⟩] w (Yld w (.tuple #[.string ⟨#[1]⟩, .bool true])) :=
  (Pow_yes [3] [200] [3, 232] w (by decide) (by decide) (by decide) (by decide)).mono fun _ _ ⟨he, hC⟩ => ⟨by rw [he, nb_is [1] _ pow_big (by decide)], hC⟩
theorem kpow1 (w : World) : Calls Tryd.prog 25 #[.string ⟨#[5]⟩, .string ⟨#[]⟩, .string ⟨#[1]⟩] w (Yld w (.tuple #[.string ⟨#[]⟩, .bool true])) :=
  (Pow_yes [5] [] [1] w (by decide) (by decide) (by decide) (by decide)).mono fun _ _ ⟨he, hC⟩ => ⟨by rw [he, nb_is [] _ (by decide) (by decide)], hC⟩
theorem kparse (w : World) : Calls Tryd.prog 35 #[.string ⟨#[48, 48, 55]⟩] w (Yld w (.tuple #[.string ⟨#[]⟩, .bool false])) :=
  (Parse_zero 48 [55] w (by decide)).mono fun _ _ ⟨he, hw⟩ => ⟨he, ch_same hw⟩
theorem kbits8 (w : World) : Calls Tryd.prog 31 #[.string ⟨#[255]⟩] w (Yld w (.int .i64 8)) :=
  (bits_any [255] w (by decide)).mono fun _ _ ⟨he, hw⟩ => ⟨by rw [he, nbits_eq (bv [255]) 8 (by decide) (.inr (by decide))]; rfl, ch_same hw⟩
theorem kbits9 (w : World) : Calls Tryd.prog 31 #[.string ⟨#[1, 0]⟩] w (Yld w (.int .i64 9)) :=
  (bits_any [1, 0] w (by decide)).mono fun _ _ ⟨he, hw⟩ => ⟨by rw [he, nbits_eq (bv [1, 0]) 9 (by decide) (.inr (by decide))]; rfl, ch_same hw⟩
theorem dec_big : Lib.decDigits (bv [1, 0, 0]) = [54, 53, 53, 51, 54] := by decide +kernel
theorem ktext (w : World) (ht : pow10Is w) : Calls Tryd.prog 36 #[.string ⟨#[1, 0, 0]⟩] w (Yld w (.string ⟨#[54, 53, 53, 51, 54]⟩)) :=
  (Text_one [1, 0, 0] w (by decide) (by decide) (by decide) ht).mono fun _ _ ⟨he, hC⟩ => ⟨by rw [he, dec_big], hC⟩
set_option maxRecDepth 100000 in
set_option maxHeartbeats 3200000 in
theorem sanity_true (w : World) (ht : pow10Is w) : Calls Tryd.prog 11 #[] w (Yld w (.bool true)) := by
  have HT := Lib.hid ht; clear ht
  have HC := Lib.hid (Ch.refl w.heap.size none1 w)
  go_enter Tryd.func11, Tryd.ntmps11
  go_wp2_with (first
    | (go_at_call 27; with_reducible refine (kof_256 _).mono ?_; rintro e w' ⟨rfl, hC⟩; have HC2 := Lib.hid (HC.out.trans (hC.mono HC.out.size (fun _ _ q => q))); clear hC HC; have HC := HC2; clear HC2)
    | (go_at_call 27; with_reducible refine (kof_3 _).mono ?_; rintro e w' ⟨rfl, hC⟩; have HC2 := Lib.hid (HC.out.trans (hC.mono HC.out.size (fun _ _ q => q))); clear hC HC; have HC := HC2; clear HC2)
    | (go_at_call 27; with_reducible refine (kof_5 _).mono ?_; rintro e w' ⟨rfl, hC⟩; have HC2 := Lib.hid (HC.out.trans (hC.mono HC.out.size (fun _ _ q => q))); clear hC HC; have HC := HC2; clear HC2)
    | (go_at_call 27; with_reducible refine (kof_1000 _).mono ?_; rintro e w' ⟨rfl, hC⟩; have HC2 := Lib.hid (HC.out.trans (hC.mono HC.out.size (fun _ _ q => q))); clear hC HC; have HC := HC2; clear HC2)
    | (go_at_call 27; with_reducible refine (kof_7 _).mono ?_; rintro e w' ⟨rfl, hC⟩; have HC2 := Lib.hid (HC.out.trans (hC.mono HC.out.size (fun _ _ q => q))); clear hC HC; have HC := HC2; clear HC2)
    | (go_at_call 27; with_reducible refine (kof_2 _).mono ?_; rintro e w' ⟨rfl, hC⟩; have HC2 := Lib.hid (HC.out.trans (hC.mono HC.out.size (fun _ _ q => q))); clear hC HC; have HC := HC2; clear HC2)
    | (go_at_call 27; with_reducible refine (kof_142 _).mono ?_; rintro e w' ⟨rfl, hC⟩; have HC2 := Lib.hid (HC.out.trans (hC.mono HC.out.size (fun _ _ q => q))); clear hC HC; have HC := HC2; clear HC2)
    | (go_at_call 27; with_reducible refine (kof_6 _).mono ?_; rintro e w' ⟨rfl, hC⟩; have HC2 := Lib.hid (HC.out.trans (hC.mono HC.out.size (fun _ _ q => q))); clear hC HC; have HC := HC2; clear HC2)
    | (go_at_call 27; with_reducible refine (kof_12 _).mono ?_; rintro e w' ⟨rfl, hC⟩; have HC2 := Lib.hid (HC.out.trans (hC.mono HC.out.size (fun _ _ q => q))); clear hC HC; have HC := HC2; clear HC2)
    | (go_at_call 27; with_reducible refine (kof_18 _).mono ?_; rintro e w' ⟨rfl, hC⟩; have HC2 := Lib.hid (HC.out.trans (hC.mono HC.out.size (fun _ _ q => q))); clear hC HC; have HC := HC2; clear HC2)
    | (go_at_call 27; with_reducible refine (kof_200 _).mono ?_; rintro e w' ⟨rfl, hC⟩; have HC2 := Lib.hid (HC.out.trans (hC.mono HC.out.size (fun _ _ q => q))); clear hC HC; have HC := HC2; clear HC2)
    | (go_at_call 27; with_reducible refine (kof_1 _).mono ?_; rintro e w' ⟨rfl, hC⟩; have HC2 := Lib.hid (HC.out.trans (hC.mono HC.out.size (fun _ _ q => q))); clear hC HC; have HC := HC2; clear HC2)
    | (go_at_call 27; with_reducible refine (kof_255 _).mono ?_; rintro e w' ⟨rfl, hC⟩; have HC2 := Lib.hid (HC.out.trans (hC.mono HC.out.size (fun _ _ q => q))); clear hC HC; have HC := HC2; clear HC2)
    | (go_at_call 27; with_reducible refine (kof_neg _).mono ?_; rintro e w' ⟨rfl, hC⟩; have HC2 := Lib.hid (HC.out.trans (hC.mono HC.out.size (fun _ _ q => q))); clear hC HC; have HC := HC2; clear HC2)
    | (go_at_call 28; with_reducible refine (kint _).mono ?_; rintro e w' ⟨rfl, hC⟩; have HC2 := Lib.hid (HC.out.trans (hC.mono HC.out.size (fun _ _ q => q))); clear hC HC; have HC := HC2; clear HC2)
    | (go_at_call 13; with_reducible refine (ksub_no _).mono ?_; rintro e w' ⟨rfl, hC⟩; have HC2 := Lib.hid (HC.out.trans (hC.mono HC.out.size (fun _ _ q => q))); clear hC HC; have HC := HC2; clear HC2)
    | (go_at_call 13; with_reducible refine (ksub_yes _).mono ?_; rintro e w' ⟨rfl, hC⟩; have HC2 := Lib.hid (HC.out.trans (hC.mono HC.out.size (fun _ _ q => q))); clear hC HC; have HC := HC2; clear HC2)
    | (go_at_call 34; with_reducible refine (kquo _).mono ?_; rintro e w' ⟨rfl, hC⟩; have HC2 := Lib.hid (HC.out.trans (hC.mono HC.out.size (fun _ _ q => q))); clear hC HC; have HC := HC2; clear HC2)
    | (go_at_call 23; with_reducible refine (kgcd _).mono ?_; rintro e w' ⟨rfl, hC⟩; have HC2 := Lib.hid (HC.out.trans (hC.mono HC.out.size (fun _ _ q => q))); clear hC HC; have HC := HC2; clear HC2)
    | (go_at_call 23; with_reducible refine (kgcd0 _).mono ?_; rintro e w' ⟨rfl, hC⟩; have HC2 := Lib.hid (HC.out.trans (hC.mono HC.out.size (fun _ _ q => q))); clear hC HC; have HC := HC2; clear HC2)
    | (go_at_call 25; with_reducible refine (kpow _).mono ?_; rintro e w' ⟨rfl, hC⟩; have HC2 := Lib.hid (HC.out.trans (hC.mono HC.out.size (fun _ _ q => q))); clear hC HC; have HC := HC2; clear HC2)
    | (go_at_call 25; with_reducible refine (kpow1 _).mono ?_; rintro e w' ⟨rfl, hC⟩; have HC2 := Lib.hid (HC.out.trans (hC.mono HC.out.size (fun _ _ q => q))); clear hC HC; have HC := HC2; clear HC2)
    | (go_at_call 35; with_reducible refine (kparse _).mono ?_; rintro e w' ⟨rfl, hC⟩; have HC2 := Lib.hid (HC.out.trans (hC.mono HC.out.size (fun _ _ q => q))); clear hC HC; have HC := HC2; clear HC2)
    | (go_at_call 31; with_reducible refine (kbits8 _).mono ?_; rintro e w' ⟨rfl, hC⟩; have HC2 := Lib.hid (HC.out.trans (hC.mono HC.out.size (fun _ _ q => q))); clear hC HC; have HC := HC2; clear HC2)
    | (go_at_call 31; with_reducible refine (kbits9 _).mono ?_; rintro e w' ⟨rfl, hC⟩; have HC2 := Lib.hid (HC.out.trans (hC.mono HC.out.size (fun _ _ q => q))); clear hC HC; have HC := HC2; clear HC2)
    | (go_at_call 36; with_reducible refine (ktext _ (pow_ch HT.out HC.out)).mono ?_; rintro e w' ⟨rfl, hC⟩; have HC2 := Lib.hid (HC.out.trans (hC.mono HC.out.size (fun _ _ q => q))); clear hC HC; have HC := HC2; clear HC2))
  go_ret
  exact ⟨rfl, HC.out⟩
end Go.Proofs.YtcghnkdfhiancaaDoor
