/- Contracts of package nat's functions of words. -/
import Derived.Test.YtcghnkdfhiancaaDoorNa
namespace Go.Proofs.YtcghnkdfhiancaaDoor
open Go.RowKit
def wv (l : List UInt8) : Nat := if bv l < 18446744073709551616 then bv l else 0
set_option maxHeartbeats 400000 in
theorem words_yes (a b : List UInt8) (w : World) (ha : a.length ≤ maxLen) (hb : b.length ≤ maxLen) (h1 : bv a < 18446744073709551616) (h2 : bv b < 18446744073709551616) :
    Calls Tryd.prog 37 #[S a, S b] w fun e w' => e = .returned (.tuple #[U (bv a), U (bv b), .bool true]) ∧ w' = w := by
  go_enter Tryd.func37, Tryd.ntmps37
  go_wp2_with fail
  refine (word_yes a _ ha h1).mono ?_
  rintro e w' ⟨rfl, rfl⟩
  go_wp2_with fail
  refine (word_yes b _ hb h2).mono ?_
  rintro e w' ⟨rfl, rfl⟩
  go_wp2_with fail
  go_ret3
  exact ⟨rfl, rfl⟩
set_option maxHeartbeats 400000 in
theorem words_no (a b : List UInt8) (w : World) (ha : a.length ≤ maxLen) (hb : b.length ≤ maxLen) (h : ¬ (bv a < 18446744073709551616 ∧ bv b < 18446744073709551616)) :
    Calls Tryd.prog 37 #[S a, S b] w fun e w' => e = .returned (.tuple #[U (wv a), U (wv b), .bool false]) ∧ w' = w := by
  by_cases h1 : bv a < 18446744073709551616
  · have h2 : ¬ bv b < 18446744073709551616 := fun q => h ⟨h1, q⟩
    have e1 : wv a = bv a := if_pos h1
    have e2 : wv b = 0 := if_neg h2
    rw [e1, e2]
    clear e1 e2 h
    go_enter Tryd.func37, Tryd.ntmps37
    go_wp2_with fail
    refine (word_yes a _ ha h1).mono ?_
    rintro e w' ⟨rfl, rfl⟩
    go_wp2_with fail
    refine (word_no b _ hb h2).mono ?_
    rintro e w' ⟨rfl, rfl⟩
    go_wp2_with fail
    go_ret3
    exact ⟨rfl, rfl⟩
  · have e1 : wv a = 0 := if_neg h1
    by_cases h2 : bv b < 18446744073709551616
    · have e2 : wv b = bv b := if_pos h2
      rw [e1, e2]
      clear e1 e2 h
      go_enter Tryd.func37, Tryd.ntmps37
      go_wp2_with fail
      refine (word_no a _ ha h1).mono ?_
      rintro e w' ⟨rfl, rfl⟩
      go_wp2_with fail
      refine (word_yes b _ hb h2).mono ?_
      rintro e w' ⟨rfl, rfl⟩
      go_wp2_with fail
      go_ret3
      exact ⟨rfl, rfl⟩
    · have e2 : wv b = 0 := if_neg h2
      rw [e1, e2]
      clear e1 e2 h
      go_enter Tryd.func37, Tryd.ntmps37
      go_wp2_with fail
      refine (word_no a _ ha h1).mono ?_
      rintro e w' ⟨rfl, rfl⟩
      go_wp2_with fail
      refine (word_no b _ hb h2).mono ?_
      rintro e w' ⟨rfl, rfl⟩
      go_wp2_with fail
      go_ret3
      exact ⟨rfl, rfl⟩
set_option maxHeartbeats 400000 in
theorem int_yes (a : List UInt8) (w : World) (ha : a.length ≤ maxLen) (h1 : bv a ≤ 9223372036854775807) :
    Calls Tryd.prog 28 #[S a] w fun e w' => e = .returned (.tuple #[.int .i64 (bv a : Nat), .bool true]) ∧ w' = w := by
  go_enter Tryd.func28, Tryd.ntmps28
  go_wp2_with fail
  refine (word_yes a _ ha (by omega)).mono ?_
  rintro e w' ⟨rfl, rfl⟩
  go_wp2_with fail
  go_ret2
  exact ⟨rfl, rfl⟩
set_option maxHeartbeats 400000 in
theorem int_no (a : List UInt8) (w : World) (ha : a.length ≤ maxLen) (h1 : ¬ bv a ≤ 9223372036854775807) :
    Calls Tryd.prog 28 #[S a] w fun e w' => e = .returned (.tuple #[.int .i64 0, .bool false]) ∧ w' = w := by
  by_cases h2 : bv a < 18446744073709551616
  · go_enter Tryd.func28, Tryd.ntmps28
    go_wp2_with fail
    refine (word_yes a _ ha (by omega)).mono ?_
    rintro e w' ⟨rfl, rfl⟩
    go_wp2_with fail
    go_ret2
    exact ⟨rfl, rfl⟩
  · go_enter Tryd.func28, Tryd.ntmps28
    go_wp2_with fail
    refine (word_no a _ ha (by omega)).mono ?_
    rintro e w' ⟨rfl, rfl⟩
    go_wp2_with fail
    go_ret2
    exact ⟨rfl, rfl⟩
theorem u8_ne (b : UInt8) : ((b.toNat : Int) != 0) = (b != 0) := by
  rw [Bool.eq_iff_iff, bne_iff_ne, bne_iff_ne]
  constructor
  · intro h e; subst e; exact h rfl
  · intro h e; exact h (UInt8.toNat_inj.1 (show b.toNat = (0 : UInt8).toNat from by simpa using e))
def rightB (l : List UInt8) : Bool := match l with | [] => true | b :: _ => b != 0
set_option maxHeartbeats 400000 in
theorem right_any (a : List UInt8) (w : World) (ha : a.length ≤ maxLen) :
    Calls Tryd.prog 19 #[S a] w fun e w' => e = .returned (.bool (rightB a)) ∧ w' = w := by
  unfold maxLen at ha
  rcases a with _ | ⟨b, l⟩
  · go_enter Tryd.func19, Tryd.ntmps19
    go_wp2_with fail
    go_ret
    exact ⟨rfl, rfl⟩
  · go_enter Tryd.func19, Tryd.ntmps19
    go_wp2_with fail
    go_ret
    exact ⟨ret_bool (u8_ne b), rfl⟩
theorem Tryd.info5 : (Tryd.prog.info? 5).map (fun i => (i.zero, i.size, i.bytes)) = some (some (.int .u8 0), 1, 1) := by kernel_rfl
/-- The eight bytes of a word. -/
def be8 (x : Nat) : List UInt8 := [UInt8.ofNat (x / 72057594037927936), UInt8.ofNat (x / 281474976710656), UInt8.ofNat (x / 1099511627776), UInt8.ofNat (x / 4294967296), UInt8.ofNat (x / 16777216), UInt8.ofNat (x / 65536), UInt8.ofNat (x / 256), UInt8.ofNat x]
theorem Y_of (x : Nat) (z : Int) (h : z = (x : Int) % 256) : Value.int .u8 z = Y (UInt8.ofNat x) := by
  subst h
  unfold Y
  congr 1
theorem be8_vals (x : Nat) (hx : x < 18446744073709551616) : [Value.int .u8 ((x : Int) / 72057594037927936), .int .u8 ((x : Int) / 281474976710656 % 256), .int .u8 ((x : Int) / 1099511627776 % 256), .int .u8 ((x : Int) / 4294967296 % 256), .int .u8 ((x : Int) / 16777216 % 256), .int .u8 ((x : Int) / 65536 % 256), .int .u8 ((x : Int) / 256 % 256), .int .u8 ((x : Int) % 256)] = (be8 x).map Y := by
  simp only [be8, List.map_cons, List.map_nil]
  rw [Y_of (x / 72057594037927936) _ (by omega), Y_of (x / 281474976710656) _ (by omega), Y_of (x / 1099511627776) _ (by omega), Y_of (x / 4294967296) _ (by omega), Y_of (x / 16777216) _ (by omega), Y_of (x / 65536) _ (by omega), Y_of (x / 256) _ (by omega), Y_of x _ (by omega)]
set_option maxRecDepth 100000 in
set_option maxHeartbeats 400000 in
theorem appendWord_any (x g n cap : Nat) (t : TypeId) (cs : List Value) (w : World) (hx : x < 18446744073709551616) (hB : Blk w g t cs) (hc : n + 8 ≤ cs.length) (hr : n + 8 ≤ cap) (_hm : cap ≤ maxLen) :
    Calls Tryd.prog 64 #[.slice (some ⟨g, 0, none⟩) n cap, U x] w fun e w' =>
      e = .returned (.slice (some ⟨g, 0, none⟩) ((n + 8 : Nat)) cap) ∧ Blk w' g t (cs.take n ++ (be8 x).map Y ++ cs.drop (n + 8)) ∧ Ch w.heap.size (· = g) w w' := by
  have hlt := hB.lt
  obtain ⟨i0, hi, hz0, hz1, hz2⟩ := info_parts Tryd.info5
  have HB := Lib.hid hB; clear hB
  go_enter Tryd.func64, Tryd.ntmps64
  go_wp2_with (at_builtin; go_loud (refine wpList_append_blk _ rfl _ _ 22 rfl 5 i0 Tryd.underlying22 hi hz1 g n cap t cs rfl (HB.out.alloc _) ⟨w.heap.size, 0, none⟩ 8 8 _ rfl (by rfl) (Blk.new _ _ _).adds (by simp [one_int]) hr hc ?_; intro w' hB' hC'))
  go_ret
  exact ⟨rfl, by rw [← be8_vals x hx]; exact hB'.cast (by simp), ((Ch.refl _ _ w).alloc (Nat.le_refl _) _).step hC' (Nat.le_refl _) (fun _ _ q => q)⟩
theorem bitLen_iff (x k : Nat) (hx : x < 18446744073709551616) (hk : k ≤ 64) : Lib.bitLen x ≤ k ↔ x < 2 ^ k := by
  constructor
  · intro h
    rcases Nat.lt_or_ge x (2 ^ k) with q | q
    · exact q
    · have h1 := Lib.bitLen_shift k x q hx
      have h2 : 1 ≤ x / 2 ^ k := (Nat.one_le_div_iff (Nat.two_pow_pos k)).2 q
      have h3 := Lib.bitLen_half (x / 2 ^ k) (by omega) (Nat.lt_of_le_of_lt (Nat.div_le_self _ _) hx)
      omega
  · exact Lib.bitLen_le x k hk
/-- The zeros in front of a word's digits to the base 2. -/
def lz (x : Nat) : Nat := 64 - Lib.bitLen x
theorem bitLen_64 (x : Nat) (hx : x < 18446744073709551616) : Lib.bitLen x ≤ 64 := (bitLen_iff x 64 hx (Nat.le_refl _)).2 hx
theorem lz_any (x : Nat) (w : World) (hx : x < 18446744073709551616) :
    Calls Tryd.prog 65 #[U x] w fun e w' => e = .returned (.int .i64 (lz x : Nat)) ∧ w' = w :=
  (Tryd.bits_LeadingZeros64 (x : Int) w (by omega) (by omega)).mono fun e w' h => ⟨by
    have := bitLen_64 x hx
    rw [h.1, Int.toNat_natCast, lz]
    exact ret_int (by omega), h.2⟩
theorem pow256 (k : Nat) : 256 ^ k = 2 ^ (8 * k) := by rw [Nat.pow_mul]
theorem nb_len_bits (x : Nat) (hx : x < 18446744073709551616) : (nb x).length = (Lib.bitLen x + 7) / 8 := by
  have h64 := bitLen_64 x hx
  have key : ∀ k, k ≤ 8 → ((nb x).length ≤ k ↔ Lib.bitLen x ≤ 8 * k) := fun k hk => by
    rw [nb_len, bitLen_iff x (8 * k) hx (by omega), pow256]
  have h8 := (key 8 (Nat.le_refl _)).2 (by omega)
  have h1 := (key (nb x).length h8).1 (Nat.le_refl _)
  rcases Nat.eq_zero_or_pos (nb x).length with h0 | h0
  · omega
  · have h2 := key ((nb x).length - 1) (by omega)
    omega
theorem bv_be8 (x : Nat) (hx : x < 18446744073709551616) : bv (be8 x) = x := by
  simp only [be8, bv, List.foldl_cons, List.foldl_nil, UInt8.toNat_ofNat']
  omega
theorem be8_len (x : Nat) : (be8 x).length = 8 := rfl
theorem trim_be8 (x : Nat) (hx : x < 18446744073709551616) : trimL (be8 x) = nb x := by rw [← nb_bv, bv_be8 x hx]
theorem trim_drop (l : List UInt8) : trimL l = l.drop (l.length - (trimL l).length) :=
  List.suffix_iff_eq_drop.1 (List.dropWhile_suffix _)
theorem be8_drop (x : Nat) (hx : x < 18446744073709551616) : (be8 x).drop (lz x / 8) = nb x := by
  have h := trim_drop (be8 x)
  rw [trim_be8 x hx, be8_len, nb_len_bits x hx] at h
  have h64 := bitLen_64 x hx
  rw [show lz x / 8 = 8 - (Lib.bitLen x + 7) / 8 from by unfold lz; omega]
  exact h.symm
set_option maxRecDepth 100000 in
set_option maxHeartbeats 400000 in
theorem wordNat_any (x : Nat) (w : World) (hx : x < 18446744073709551616) :
    Calls Tryd.prog 38 #[U x] w fun e w' => e = .returned (S (nb x)) ∧ Ch w.heap.size none1 w w' := by
  have hl : lz x ≤ 64 := Nat.sub_le _ _
  by_cases h8 : lz x = 64
  · have hd := be8_drop x hx
    rw [h8] at hd
    have hd0 : nb x = [] := by rw [← hd]; simp [be8]
    have hL := lz_any x
    rw [h8] at hL
    have HL := Lib.hid hL; clear hL
    have HD := Lib.hid hd0; clear hd0 hd h8
    go_enter Tryd.func38, Tryd.ntmps38
    go_wp2_with fail
    refine (appendWord_any x _ 0 8 _ _ _ hx (Blk.new _ _ _) (by decide) (by decide) (by decide)).mono ?_
    rintro e w1 ⟨rfl, hB, hC⟩
    have hB2 : Blk w1 w.heap.size 81 ((be8 x).map Y) := hB.cast (by simp)
    have hcv := run_convert_blk (P := Tryd.prog) w1 22 24 5 Tryd.underlying22 Tryd.underlying5 Tryd.underlying24 w.heap.size 0 0 0 [] 81 _ hB2 rfl (fun i hi => absurd hi (by simp))
    clear hB
    go_wp2_with fail
    refine (HL.out _ hx).mono ?_
    rintro e w' ⟨rfl, rfl⟩
    go_wp2_with fail
    go_ret
    exact ⟨ret_S HD.out.symm, ((Ch.refl _ _ w).alloc (Nat.le_refl _) _).step hC (Nat.le_refl _) (fun k hk q => absurd q (by omega))⟩
  · have hq : lz x / 8 < 8 := by omega
    have hd := be8_drop x hx
    have hL := lz_any x
    generalize lz x = m at *
    have HL := Lib.hid hL; clear hL
    have HD := Lib.hid hd; clear hd
    go_enter Tryd.func38, Tryd.ntmps38
    go_wp2_with fail
    refine (appendWord_any x _ 0 8 _ _ _ hx (Blk.new _ _ _) (by decide) (by decide) (by decide)).mono ?_
    rintro e w1 ⟨rfl, hB, hC⟩
    have hB2 : Blk w1 w.heap.size 81 ((be8 x).map Y) := hB.cast (by simp)
    have hcv := run_convert_blk (P := Tryd.prog) w1 22 24 5 Tryd.underlying22 Tryd.underlying5 Tryd.underlying24 w.heap.size (m / 8) (8 - m / 8) (8 - m / 8) (nb x) 81 _ hB2
      (by rw [← HD.out, List.length_drop, be8_len]) (fun i hi => by
        have e := HD.out
        simp only [← e, List.getElem?_map, List.getElem_drop]
        rw [List.getElem?_eq_getElem (by rw [← e, List.length_drop] at hi; omega)]
        rfl)
    clear hB
    go_wp2_with fail
    refine (HL.out _ hx).mono ?_
    rintro e w' ⟨rfl, rfl⟩
    go_wp2_with fail
    go_ret
    exact ⟨rfl, ((Ch.refl _ _ w).alloc (Nat.le_refl _) _).step hC (Nat.le_refl _) (fun k hk q => absurd q (by omega))⟩
set_option maxHeartbeats 400000 in
theorem of_any (n : Int) (w : World) (h0 : 0 ≤ n) (h1 : n ≤ 9223372036854775807) :
    Calls Tryd.prog 27 #[.int .i64 n] w fun e w' => e = .returned (S (nb n.toNat)) ∧ Ch w.heap.size none1 w w' := by
  obtain ⟨m, rfl⟩ := Int.eq_ofNat_of_zero_le h0
  go_enter Tryd.func27, Tryd.ntmps27
  go_wp2_with fail
  refine (wordNat_any m _ (by omega)).mono ?_
  rintro e w1 ⟨rfl, hC⟩
  go_wp2_with fail
  go_ret
  exact ⟨by simp, hC⟩
set_option maxHeartbeats 400000 in
theorem of_neg (n : Int) (w : World) (h0 : n < 0) (_h1 : -9223372036854775808 ≤ n) :
    Calls Tryd.prog 27 #[.int .i64 n] w fun e w' => e = .returned (S []) ∧ w' = w := by
  go_enter Tryd.func27, Tryd.ntmps27
  go_wp2_with fail
  go_ret
  exact ⟨rfl, rfl⟩
/-- -1, 0 or 1. -/
def cmpN (a b : Nat) : Int := if a < b then -1 else if b < a then 1 else 0
set_option maxHeartbeats 400000 in
theorem isNaN_nat (a : List UInt8) (w : World) : Calls Tryd.prog 71 #[S a] w fun e w' => e = .returned (.bool false) ∧ w' = w := by
  go_enter Tryd.func71, Tryd.ntmps71
  go_wp2_with fail
  go_ret
  exact ⟨rfl, rfl⟩
theorem bytesLess_bv : ∀ (a b : List UInt8), a.length = b.length → (Op.bytesLess a b = true ↔ bv a < bv b)
  | [], [], _ => by simp [Op.bytesLess]
  | [], _ :: _, h => by simp at h
  | _ :: _, [], h => by simp at h
  | x :: a, y :: b, h => by
    have hl : a.length = b.length := by simpa using h
    have ih := bytesLess_bv a b hl
    have h1 := bv_lt a
    have h2 := bv_lt b
    rw [bv_cons, bv_cons, hl]
    rw [hl] at h1
    have mul : ∀ p q : Nat, p < q → p * 256 ^ b.length + 256 ^ b.length ≤ q * 256 ^ b.length := fun p q hpq => by
      have := Nat.mul_le_mul_right (256 ^ b.length) (show p + 1 ≤ q from hpq)
      rw [Nat.add_mul] at this; omega
    rcases Nat.lt_trichotomy x.toNat y.toNat with q | q | q
    · have := mul _ _ q
      simp [Op.bytesLess, UInt8.lt_iff_toNat_lt, q]
      omega
    · have e : x = y := UInt8.toNat_inj.1 q
      subst e
      simp [Op.bytesLess, ih]
    · have := mul _ _ q
      have hn : ¬ x = y := fun e => by subst e; omega
      simp [Op.bytesLess, UInt8.lt_iff_toNat_lt, hn]
      omega
theorem cmpN_lt {a b : Nat} (h : a < b) : cmpN a b = -1 := if_pos h
theorem cmpN_gt {a b : Nat} (h : b < a) : cmpN a b = 1 := by unfold cmpN; rw [if_neg (by omega), if_pos h]
theorem cmpN_eq {a b : Nat} (h : a = b) : cmpN a b = 0 := by unfold cmpN; rw [if_neg (by omega), if_neg (by omega)]
set_option maxHeartbeats 400000 in
theorem cmpNat_same (a b : List UInt8) (w : World) (h : a.length = b.length) :
    Calls Tryd.prog 50 #[S a, S b] w fun e w' => e = .returned (.int .i64 (cmpN (bv a) (bv b))) ∧ w' = w := by
  have key := bytesLess_bv a b h
  have inj := bv_inj a b h
  have H := Lib.hid h; clear h
  have K := Lib.hid key; clear key
  have J := Lib.hid inj; clear inj
  go_enter Tryd.func50, Tryd.ntmps50
  go_wp2_with (first | (go_at_call 71; refine (isNaN_nat _ _).mono ?_; rintro e w' ⟨rfl, rfl⟩))
  · have h1 : Op.bytesLess a b = true := by assumption
    go_ret
    exact ⟨ret_int (cmpN_lt (K.out.1 h1)).symm, rfl⟩
  · have h1 : ¬ bv a < bv b := fun q => by have := K.out.2 q; simp_all
    have h2 : ¬ a = b := by intro e; subst e; simp_all
    have h3 : ¬ bv a = bv b := fun q => h2 (J.out q)
    go_ret
    exact ⟨ret_int (cmpN_gt (by omega)).symm, rfl⟩
  · have h2 : a = b := by
      have : (!a == b) = false := by assumption
      simpa using this
    go_ret
    exact ⟨ret_int (cmpN_eq (by rw [h2])).symm, rfl⟩
theorem trim_lt_of_len (a b : List UInt8) (h : (trimL a).length < (trimL b).length) : bv a < bv b := by
  have h1 := trim_len b (trimL a).length
  have h2 := (trim_len a (trimL a).length).1 (Nat.le_refl _)
  omega
set_option maxHeartbeats 400000 in
theorem cmp_any (a b : List UInt8) (w : World) (ha : a.length ≤ maxLen) (hb : b.length ≤ maxLen) :
    Calls Tryd.prog 17 #[S a, S b] w fun e w' => e = .returned (.int .i64 (cmpN (bv a) (bv b))) ∧ w' = w := by
  have ha1 := Nat.le_trans (trimL_len a) ha
  have hb1 := Nat.le_trans (trimL_len b) hb
  unfold maxLen at ha1 hb1
  have hlt := trim_lt_of_len a b
  have hgt := trim_lt_of_len b a
  have HL := Lib.hid hlt; clear hlt
  have HG := Lib.hid hgt; clear hgt
  by_cases he : (trimL a).length = (trimL b).length
  · have HE := Lib.hid he
    have he' : ((((trimL a).length : Nat) : Int) != ((trimL b).length : Nat)) = false := by simp [he]
    clear he
    go_enter Tryd.func17, Tryd.ntmps17
    go_wp2_with fail
    refine (trimmed_any a _ ha).mono ?_
    rintro e w' ⟨rfl, rfl⟩
    go_wp2_with fail
    refine (trimmed_any b _ hb).mono ?_
    rintro e w' ⟨rfl, rfl⟩
    go_wp2_with fail
    refine (cmpNat_same _ _ _ HE.out).mono ?_
    rintro e w' ⟨rfl, rfl⟩
    go_wp2_with fail
    go_ret
    exact ⟨ret_int (by simp only [bv_trim]), rfl⟩
  · have he' : ((((trimL a).length : Nat) : Int) != ((trimL b).length : Nat)) = true := by simp; omega
    have HE := Lib.hid he; clear he
    go_enter Tryd.func17, Tryd.ntmps17
    go_wp2_with fail
    refine (trimmed_any a _ ha).mono ?_
    rintro e w' ⟨rfl, rfl⟩
    go_wp2_with fail
    refine (trimmed_any b _ hb).mono ?_
    rintro e w' ⟨rfl, rfl⟩
    go_wp2_with fail
    refine (Tryd.cmp_Compare_int _ _ _).mono ?_
    rintro e w' ⟨rfl, rfl⟩
    go_wp2_with fail
    go_ret
    refine ⟨ret_int ?_, rfl⟩
    have hL := HL.out
    have hG := HG.out
    have hE := HE.out
    unfold Lib.compareInt
    by_cases q : (trimL a).length < (trimL b).length
    · rw [if_pos (by omega), cmpN_lt (hL q)]
    · rw [if_neg (by omega), if_pos (by omega), cmpN_gt (hG (by omega))]
end Go.Proofs.YtcghnkdfhiancaaDoor
