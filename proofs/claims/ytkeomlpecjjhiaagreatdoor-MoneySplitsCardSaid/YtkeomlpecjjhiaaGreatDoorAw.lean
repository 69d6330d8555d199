/- Package money: Parse. -/
import Derived.Test.YtkeomlpecjjhiaaGreatDoorAe
import Derived.Test.YtkeomlpecjjhiaaGreatDoorAb
import Derived.Lib.AtoiErrMem
import Derived.Lib.AtoiAllCases
import Derived.Lib.Replace
namespace Go.Proofs.YtkeomlpecjjhiaaGreatDoor
open Go.RowKit
set_option maxRecDepth 100000
theorem bytes_eqL {a b : ByteArray} (h : a.data.toList = b.data.toList) : a = b := by
 cases a; cases b
 simp only at h
 rw [Array.toList_inj.1 h]
set_option maxHeartbeats 3200000 in
theorem C_rep0 : Ans 115 #[S [48], .int .i64 0] (S []) := fun w => by
 go_enter Tryz.func115, Tryz.ntmps115
 go_wp2_with fail
 go_ret
 exact ⟨rfl, Ch.refl _ _ _⟩
set_option maxHeartbeats 3200000 in
theorem C_rep1 : Ans 115 #[S [48], .int .i64 1] (S [48]) := fun w => by
 go_enter Tryz.func115, Tryz.ntmps115
 go_wp2_with fail
 go_ret
 exact ⟨rfl, Ch.refl _ _ _⟩
set_option maxHeartbeats 3200000 in
theorem C_rep2 : Ans 115 #[S [48], .int .i64 2] (S [48, 48]) := fun w => by
 have H1 := Lib.hid (Tryz.bits_Mul 1 2 (by decide) (by decide) w)
 have H2 := Lib.hid (fun s => Tryz.strings_HasPrefix s ⟨#[48]⟩ w)
 go_enter Tryz.func115, Tryz.ntmps115
 go_wp2_with fail
 refine H1.out.mono ?_
 rintro e w1 ⟨rfl, rfl⟩
 go_wp2_with fail
 refine (H2.out _).mono ?_
 rintro e w1 ⟨rfl, rfl⟩
 go_wp2_with fail
 refine (H2.out _).mono ?_
 rintro e w1 ⟨rfl, rfl⟩
 go_wp2_with fail
 refine (H2.out _).mono ?_
 rintro e w1 ⟨rfl, rfl⟩
 go_wp2_with fail
 go_ret
 exact ⟨rfl, Ch.refl _ _ _⟩
theorem centsR_rng {s : Bool} {n d : List UInt8} {c : Int} (ho : centsR s n d = some c) : -9223372036854775808 ≤ c ∧ c ≤ 9223372036854775807 := by
 unfold centsR centsQ at ho
 split at ho
 ·split at ho
  ·rename_i h1 h2
   have := Option.some.inj ho
   omega
  ·simp at ho
 ·simp at ho
def pd (c : Int) : List UInt8 := List.replicate (3 - (Lib.decDigits c.natAbs).length) 48 ++ Lib.decDigits c.natAbs
def wtx (c : Int) : List UInt8 := 36 :: ((if c < 0 then [45] else []) ++ ((pd c).take ((pd c).length - 2) ++ 46 :: (pd c).drop ((pd c).length - 2)))
theorem str_eq' {a b : ByteArray} (h : a.data.toList = b.data.toList) : Ending.returned (.string a) = .returned (.string b) := by rw [bytes_eqL h]
set_option maxHeartbeats 3200000 in
theorem C_written {c : Int} (h1 : -9223372036854775808 ≤ c) (h2 : c ≤ 9223372036854775807) : AnsM 70 #[.int .i64 c] (S (wtx c)) := fun w ht => by
 obtain ⟨x, hx⟩ : ∃ x, nb c.natAbs = x := ⟨_, rfl⟩
 have hxv : bv x = c.natAbs := by rw [← hx, bv_nb]
 have hxl : x.length ≤ 8 := by
  rw [← hx]
  refine (nb_len _ _).2 ?_
  have : (256 : Nat) ^ 8 = 18446744073709551616 := rfl
  omega
 have hd1 := decDigits_pos c.natAbs
 have hd2 := dec_bytes x
 rw [hxv] at hd2
 have H1 := Lib.hid (C_unsigned h1 h2 hx)
 have H2 := Lib.hid (fun W (hT : Tb W) => Text_any x W (by omega) hT.pow)
 rw [hxv] at H2
 have hp : pd c = List.replicate (3 - (Lib.decDigits c.natAbs).length) 48 ++ Lib.decDigits c.natAbs := rfl
 unfold wtx
 obtain ⟨p, hpp⟩ : ∃ p, pd c = p := ⟨_, rfl⟩
 rw [hpp] at hp ⊢
 obtain ⟨dd, hdd⟩ : ∃ dd, Lib.decDigits c.natAbs = dd := ⟨_, rfl⟩
 rw [hdd] at H2 hp hd1 hd2
 clear hx hxv hpp hdd
 have HT := Lib.hid ht
 have HC0 := Lib.hid (Ch.refl w.heap.size none1 w)
 clear ht
 by_cases hlen : 3 ≤ dd.length
 ·obtain rfl : dd = p := by rw [hp, show 3 - dd.length = 0 by omega]; rfl
  obtain ⟨n, hn⟩ : ∃ n : Nat, dd.length = n := ⟨_, rfl⟩
  have hn2 : n ≤ 25 := by omega
  obtain ⟨m, hm⟩ : ∃ m : Nat, n = m + 2 := ⟨n - 2, by omega⟩
  have hpt : (n : Int) - 2 = (m : Int) := by omega
  have hmn : (m : Int) ≤ (n : Int) := by omega
  have hm2 : n - 2 = m := by omega
  have hnn : 0 ≤ (n : Int) := by omega
  have hmm : 0 ≤ (m : Int) := by omega
  have hmx : max (0 : Int) (3 - (n : Int)) = 0 := by omega
  clear hm hp hd1 hd2 hxl hlen
  by_cases hc : c < 0
  ·rw [if_pos hc]
   have HR := Lib.hid C_rep0
   go_enter Tryz.func70, Tryz.ntmps70
   go_wp2_with fail
   refine (H1.out _).mono ?_
   rintro e w1 ⟨rfl, hC⟩
   have HC1 := Lib.hid (HC0.out.step0 hC (Nat.le_refl _))
   clear hC
   go_wp2_with fail
   refine (H2.out _ (HT.out.ch HC1.out).tb).mono ?_
   rintro e w2 ⟨rfl, hC⟩
   have HC2 := Lib.hid (HC1.out.step0 hC (Nat.le_refl _))
   clear hC
   go_wp2_with fail
   refine (HR.out _).mono ?_
   rintro e w3 ⟨rfl, hC⟩
   have HC3 := Lib.hid (HC2.out.step0 hC (Nat.le_refl _))
   clear hC
   go_wp2_with fail
   go_quiet (fail)
   go_wp2_with fail
   go_ret
   refine ⟨str_eq' ?_, HC3.out.drewN _⟩
   have hdm : (dd.drop m).take (n - m) = dd.drop m := List.take_of_length_le (by rw [List.length_drop, hn]; exact Nat.le_refl _)
   rw [hn, hm2]
   simp [ByteArray.data_append, ByteArray.data_extract, List.extract_eq_take_drop, hdm]
  ·rw [if_neg hc]
   have HR := Lib.hid C_rep0
   go_enter Tryz.func70, Tryz.ntmps70
   go_wp2_with fail
   refine (H1.out _).mono ?_
   rintro e w1 ⟨rfl, hC⟩
   have HC1 := Lib.hid (HC0.out.step0 hC (Nat.le_refl _))
   clear hC
   go_wp2_with fail
   refine (H2.out _ (HT.out.ch HC1.out).tb).mono ?_
   rintro e w2 ⟨rfl, hC⟩
   have HC2 := Lib.hid (HC1.out.step0 hC (Nat.le_refl _))
   clear hC
   go_wp2_with fail
   refine (HR.out _).mono ?_
   rintro e w3 ⟨rfl, hC⟩
   have HC3 := Lib.hid (HC2.out.step0 hC (Nat.le_refl _))
   clear hC
   go_wp2_with fail
   go_quiet (fail)
   go_wp2_with fail
   go_ret
   refine ⟨str_eq' ?_, HC3.out.drewN _⟩
   have hdm : (dd.drop m).take (n - m) = dd.drop m := List.take_of_length_le (by rw [List.length_drop, hn]; exact Nat.le_refl _)
   rw [hn, hm2]
   simp [ByteArray.data_append, ByteArray.data_extract, List.extract_eq_take_drop, hdm]
 rcases dd with _ | ⟨a, _ | ⟨b, _ | ⟨e, t⟩⟩⟩
 ·exact absurd hd1 (by simp)
 ·obtain rfl : [48, 48, a] = p := by rw [hp]; simp
  clear hp hd1 hd2 hxl
  by_cases hc : c < 0
  ·rw [if_pos hc]
   have HR := Lib.hid C_rep2
   go_enter Tryz.func70, Tryz.ntmps70
   go_wp2_with fail
   refine (H1.out _).mono ?_
   rintro e w1 ⟨rfl, hC⟩
   have HC1 := Lib.hid (HC0.out.step0 hC (Nat.le_refl _))
   clear hC
   go_wp2_with fail
   refine (H2.out _ (HT.out.ch HC1.out).tb).mono ?_
   rintro e w2 ⟨rfl, hC⟩
   have HC2 := Lib.hid (HC1.out.step0 hC (Nat.le_refl _))
   clear hC
   go_wp2_with fail
   refine (HR.out _).mono ?_
   rintro e w3 ⟨rfl, hC⟩
   have HC3 := Lib.hid (HC2.out.step0 hC (Nat.le_refl _))
   clear hC
   go_wp2_with fail
   go_quiet (fail)
   go_wp2_with fail
   go_ret
   exact ⟨str_eq' (by simp), HC3.out.drewN _⟩
  ·rw [if_neg hc]
   have HR := Lib.hid C_rep2
   go_enter Tryz.func70, Tryz.ntmps70
   go_wp2_with fail
   refine (H1.out _).mono ?_
   rintro e w1 ⟨rfl, hC⟩
   have HC1 := Lib.hid (HC0.out.step0 hC (Nat.le_refl _))
   clear hC
   go_wp2_with fail
   refine (H2.out _ (HT.out.ch HC1.out).tb).mono ?_
   rintro e w2 ⟨rfl, hC⟩
   have HC2 := Lib.hid (HC1.out.step0 hC (Nat.le_refl _))
   clear hC
   go_wp2_with fail
   refine (HR.out _).mono ?_
   rintro e w3 ⟨rfl, hC⟩
   have HC3 := Lib.hid (HC2.out.step0 hC (Nat.le_refl _))
   clear hC
   go_wp2_with fail
   go_quiet (fail)
   go_wp2_with fail
   go_ret
   exact ⟨str_eq' (by simp), HC3.out.drewN _⟩
 ·obtain rfl : [48, a, b] = p := by rw [hp]; simp
  clear hp hd1 hd2 hxl
  by_cases hc : c < 0
  ·rw [if_pos hc]
   have HR := Lib.hid C_rep1
   go_enter Tryz.func70, Tryz.ntmps70
   go_wp2_with fail
   refine (H1.out _).mono ?_
   rintro e w1 ⟨rfl, hC⟩
   have HC1 := Lib.hid (HC0.out.step0 hC (Nat.le_refl _))
   clear hC
   go_wp2_with fail
   refine (H2.out _ (HT.out.ch HC1.out).tb).mono ?_
   rintro e w2 ⟨rfl, hC⟩
   have HC2 := Lib.hid (HC1.out.step0 hC (Nat.le_refl _))
   clear hC
   go_wp2_with fail
   refine (HR.out _).mono ?_
   rintro e w3 ⟨rfl, hC⟩
   have HC3 := Lib.hid (HC2.out.step0 hC (Nat.le_refl _))
   clear hC
   go_wp2_with fail
   go_quiet (fail)
   go_wp2_with fail
   go_ret
   exact ⟨str_eq' (by simp), HC3.out.drewN _⟩
  ·rw [if_neg hc]
   have HR := Lib.hid C_rep1
   go_enter Tryz.func70, Tryz.ntmps70
   go_wp2_with fail
   refine (H1.out _).mono ?_
   rintro e w1 ⟨rfl, hC⟩
   have HC1 := Lib.hid (HC0.out.step0 hC (Nat.le_refl _))
   clear hC
   go_wp2_with fail
   refine (H2.out _ (HT.out.ch HC1.out).tb).mono ?_
   rintro e w2 ⟨rfl, hC⟩
   have HC2 := Lib.hid (HC1.out.step0 hC (Nat.le_refl _))
   clear hC
   go_wp2_with fail
   refine (HR.out _).mono ?_
   rintro e w3 ⟨rfl, hC⟩
   have HC3 := Lib.hid (HC2.out.step0 hC (Nat.le_refl _))
   clear hC
   go_wp2_with fail
   go_quiet (fail)
   go_wp2_with fail
   go_ret
   exact ⟨str_eq' (by simp), HC3.out.drewN _⟩
 ·exact absurd (by simp) hlen
set_option maxHeartbeats 3200000 in
theorem C_mText_no {s : Bool} {n d : List UInt8} (hn : n.length ≤ 900) (hd : d.length ≤ 900) (ho : centsR s n d = none) : AnsM 30 #[Rv s n d] (.tuple #[S [], .bool false]) := fun w ht => by
 have H1 := Lib.hid (C_Cents hn hd ho)
 rw [show centsV none = .tuple #[.int .i64 0, .bool false] from rfl] at H1
 clear hn hd ho
 have HT := Lib.hid ht
 have HB := Lib.hid (Box.one w #[.bool s, S n, S d])
 obtain ⟨B, hB⟩ : ∃ B, w.heap.size = B := ⟨_, rfl⟩
 rw [hB] at HB
 obtain ⟨a0, a1, a2⟩ := HB.out.cells1
 clear ht
 go_enter Tryz.func30, Tryz.ntmps30
 go_wp2_with fail
 refine (H1.out _ (HT.out.ch HB.out.ch)).mono ?_
 rintro e w1 ⟨rfl, hC⟩
 have HB2 := Lib.hid (HB.out.on hC)
 clear hC HB a0 a1 a2
 go_wp2_with fail
 go_ret2
 exact ⟨rfl, HB2.out.ch⟩
set_option maxHeartbeats 3200000 in
theorem C_mText_yes {s : Bool} {n d x : List UInt8} {c : Int} (hn : n.length ≤ 900) (hd : d.length ≤ 900) (ho : centsR s n d = some c) (hx : wtx c = x) : AnsM 30 #[Rv s n d] (.tuple #[S x, .bool true]) := fun w ht => by
 have H1 := Lib.hid (C_Cents hn hd ho)
 rw [show centsV (some c) = .tuple #[.int .i64 c, .bool true] from rfl] at H1
 obtain ⟨hc1, hc2⟩ := centsR_rng ho
 have H2 := Lib.hid (C_written hc1 hc2)
 rw [hx] at H2
 clear hn hd ho hx hc1 hc2
 have HT := Lib.hid ht
 have HB := Lib.hid (Box.one w #[.bool s, S n, S d])
 obtain ⟨B, hB⟩ : ∃ B, w.heap.size = B := ⟨_, rfl⟩
 rw [hB] at HB
 obtain ⟨a0, a1, a2⟩ := HB.out.cells1
 clear ht
 go_enter Tryz.func30, Tryz.ntmps30
 go_wp2_with fail
 refine (H1.out _ (HT.out.ch HB.out.ch)).mono ?_
 rintro e w1 ⟨rfl, hC⟩
 have HB2 := Lib.hid (HB.out.on hC)
 clear hC HB a0 a1 a2
 go_wp2_with fail
 refine (H2.out _ (HT.out.ch HB2.out.ch)).mono ?_
 rintro e w2 ⟨rfl, hC⟩
 have HB3 := Lib.hid (HB2.out.on hC)
 clear hC HB2
 go_wp2_with fail
 go_ret2
 exact ⟨rfl, HB3.out.ch⟩
open Go.RowKit Go.Shelf
theorem C_trim (s : List UInt8) : Ans 72 #[S s, S [36]] (S (Lib.trimPrefix s [36])) := fun w =>
 (Tryz.strings_TrimPrefix ⟨s.toArray⟩ ⟨#[36]⟩ w).mono fun _ _ ⟨he, hw⟩ => ⟨he, by rw [hw]; exact Ch.refl _ _ _⟩
theorem C_repl (s : List UInt8) (hs : s.length ≤ 1000) : AnsM 71 #[S s, S [46], S [], .int .i64 1] (S (Lib.replace s [46] [] 1)) := fun w ht => by
 obtain ⟨m, hm, -⟩ := ht.tb.ml
 refine (Tryz.strings_Replace ⟨s.toArray⟩ ⟨#[46]⟩ ⟨#[]⟩ 1 m w ?_ hm ?_ ?_).mono fun _ _ ⟨he, hw⟩ => ⟨he, Ch.of_below hw⟩
 ·show s.toArray.size < _; simp; omega
 ·decide
 ·show s.toArray.size + _ * 0 ≤ _; simp; omega
theorem C_atoi_ok {s : List UInt8} {v : Int} (hs : s.length ≤ 1000) (h : Lib.atoiAll s = .ok v) : Ans 73 #[S s] (.tuple #[.int .i64 v, .nilIface]) := fun w =>
 (Tryz.strconv_Atoi_ok ⟨s.toArray⟩ (by show s.toArray.size ≤ _; simp; omega) v h w).mono fun _ _ ⟨he, hw⟩ => ⟨he, by
  rcases hw with hw | ⟨t, hw⟩
  ·rw [hw]; exact Ch.refl _ _ _
  ·rw [hw]; exact Ch.of_below (Lib.bytesWorld_below w _ t)⟩
def unDot (s : List UInt8) : List UInt8 := Lib.replace (Lib.trimPrefix s [36]) [46] [] 1
theorem trimD_len (s : List UInt8) : (Lib.trimPrefix s [36]).length ≤ s.length := by
 unfold Lib.trimPrefix
 split
 ·rw [List.length_drop]; omega
 ·exact Nat.le_refl _
theorem replK_len : ∀ (k : Nat) (s : List UInt8), (Lib.replaceK [46] [] k s).length ≤ s.length
 | 0, s => Nat.le_refl _
 | k + 1, s => by
  unfold Lib.replaceK
  split
  ·exact Nat.le_refl _
  ·have ih := replK_len k (s.drop ((Lib.index s [46]).toNat + ([46] : List UInt8).length))
   rw [List.length_drop] at ih
   simp only [List.append_nil, List.length_append, List.length_take, List.length_cons, List.length_nil] at ih ⊢
   omega
theorem unDot_len (s : List UInt8) : (unDot s).length ≤ s.length := by
 unfold unDot Lib.replace
 have h := trimD_len s
 split
 ·exact h
 ·exact Nat.le_trans (replK_len _ _) h
set_option maxHeartbeats 3200000 in
theorem C_mParse_ne {s : List UInt8} {c : Int} (hs : s.length ≤ 999) (h : Lib.atoiAll (unDot s) = .ok c) (hw : wtx c ≠ s) : AnsM 31 #[S s] (.tuple #[Rv false [] [], .bool false]) := fun w ht => by
 obtain ⟨hc1, hc2⟩ := Lib.atoiAll_bounds h
 have hl := trimD_len s
 have hu := unDot_len s
 have H1 := Lib.hid (C_trim s)
 have H2 := Lib.hid (C_repl (Lib.trimPrefix s [36]) (by omega))
 rw [show Lib.replace (Lib.trimPrefix s [36]) [46] [] 1 = unDot s from rfl] at H2
 obtain ⟨a, ha⟩ : ∃ a, Lib.trimPrefix s [36] = a := ⟨_, rfl⟩
 obtain ⟨b, hb⟩ : ∃ b, unDot s = b := ⟨_, rfl⟩
 rw [ha] at H1 H2
 rw [hb] at H2 h hu
 have H3 := Lib.hid (C_atoi_ok (by omega) h)
 have H4 := Lib.hid (C_written hc1 hc2)
 obtain ⟨x, hx⟩ : ∃ x, wtx c = x := ⟨_, rfl⟩
 rw [hx] at H4 hw
 have hne : (x == s) = false := beq_no hw
 have hne2 : ¬ x.toArray = s.toArray := fun q => hw (by simpa using q)
 clear hc1 hc2 hl hu ha hb h hw hx hs
 have HT := Lib.hid ht
 have HK := Lib.hid ((Kq.nil w).new #[.bool false, S [], S []] 26)
 obtain ⟨B, hB⟩ : ∃ B, w.heap.size = B := ⟨_, rfl⟩
 rw [hB] at HK
 have HBB := Lib.hid hB
 clear ht
 have HF1 := Lib.hid (show ∀ W, Kq w W [(B, 26, [.bool false, S [], S []])] → W.cell? ⟨B, 0, none⟩ = some (.bool false) ∧ W.cell? ⟨B, 1, none⟩ = some (S []) ∧ W.cell? ⟨B, 2, none⟩ = some (S []) from fun W h => ⟨(h.row _ mm0).cell 0, (h.row _ mm0).cell 1, (h.row _ mm0).cell 2⟩)
 obtain ⟨cc0, cc1, cc2⟩ := HF1.out _ HK.out
 go_enter Tryz.func31, Tryz.ntmps31
 go_wp2_with fail
 clear hB
 refine (H1.out _).mono ?_
 rintro e w1 ⟨rfl, hC⟩
 replace HK := Lib.hid (HK.out.on hC)
 clear hC cc0 cc1 cc2
 obtain ⟨cc0, cc1, cc2⟩ := HF1.out _ HK.out
 go_wp2_with fail
 refine (H2.out _ (HT.out.ch HK.out.ch)).mono ?_
 rintro e w2 ⟨rfl, hC⟩
 replace HK := Lib.hid (HK.out.on hC)
 clear hC cc0 cc1 cc2
 obtain ⟨cc0, cc1, cc2⟩ := HF1.out _ HK.out
 go_wp2_with fail
 refine (H3.out _).mono ?_
 rintro e w3 ⟨rfl, hC⟩
 replace HK := Lib.hid (HK.out.on hC)
 clear hC cc0 cc1 cc2
 obtain ⟨cc0, cc1, cc2⟩ := HF1.out _ HK.out
 go_wp2_with fail
 refine (H4.out _ (HT.out.ch HK.out.ch)).mono ?_
 rintro e w4 ⟨rfl, hC⟩
 replace HK := Lib.hid (HK.out.on hC)
 clear hC cc0 cc1 cc2
 obtain ⟨cc0, cc1, cc2⟩ := HF1.out _ HK.out
 have f0 := (HK.out.row _ mm0).frozen 0
 have f1 := (HK.out.row _ mm0).frozen 1
 have f2 := (HK.out.row _ mm0).frozen 2
 go_wp2_with fail
 have hp := HK.out.put (g := B) mm0 (by have := HBB.out; omega) (.bool false) (S []) (S [])
 refine bodyPost_ret (results_cell_row_tmp (P := Tryz.prog) rfl _ _ (B) 26 _ (0, 0) _ rfl hp.1 Tryz.underlying26 rfl (by kernel_rfl)) rfl ?_
 exact ⟨rfl, hp.2⟩
end Go.Proofs.YtkeomlpecjjhiaaGreatDoor
