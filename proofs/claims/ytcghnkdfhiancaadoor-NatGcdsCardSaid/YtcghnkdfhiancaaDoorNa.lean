/- Contracts of the functions of package nat that handle words and bytes: exploring. -/
import Derived.Test.YtcghnkdfhiancaaDoorRows
import Derived.Test.YtcghnkdfhiancaaDoorNw
import Derived.Test.YtcghnkdfhiancaaDoorShelf
namespace Go.Proofs.YtcghnkdfhiancaaDoor
open Go.RowKit
theorem ext1 (b : UInt8) (l : List UInt8) (n : Nat) (h : n = l.length + 1) : (ByteArray.mk (b :: l).toArray).extract 1 n = ⟨l.toArray⟩ := by
  subst h
  apply ByteArray.ext
  simp [ByteArray.data_extract]
set_option maxHeartbeats 400000 in
theorem trimmed_any (l0 : List UInt8) (w : World) (_hs : l0.length ≤ maxLen) :
    Calls Tryd.prog 48 #[S l0] w fun e w' => e = .returned (S (trimL l0)) ∧ w' = w := by
  unfold maxLen at _hs
  go_enter Tryd.func48, Tryd.ntmps48
  go_wp2
  go_loop [0] (fun v => ∃ l : List UInt8, v = S l ∧ l.length ≤ l0.length ∧ trimL l = trimL l0) (fun v => strLen v)
  case atStart => exact ⟨l0, rfl, Nat.le_refl _, rfl⟩
  case round =>
    obtain ⟨l, rfl, hl, ht⟩ := hrel
    have HT := Lib.hid ht; clear ht
    rcases l with _ | ⟨b, l⟩
    · go_wp2
      go_ret
      exact ⟨ret_S (by simpa [trimL] using HT.out), rfl⟩
    · by_cases hb : b = 0
      · subst hb
        go_wp2
        go_round
        case rel => exact ⟨l, by rw [ext1 _ _ _ rfl], by simp at hl; omega, by rw [← trimL_zero]; exact HT.out⟩
        case measure => rw [ext1 _ _ _ rfl]; simp [strLen, ByteArray.size]
      · go_wp2
        · exact absurd (u8_zero b (by assumption)) hb
        · go_ret
          exact ⟨ret_S (by rw [← HT.out, trimL_ne _ _ hb]), rfl⟩
theorem get_mk (l : List UInt8) (k : Nat) (_h : k < l.length) (h' : k < (ByteArray.mk l.toArray).size) : (ByteArray.mk l.toArray)[k]'h' = l[k] := rfl
theorem u64_wrap (n : Nat) (h : n < 18446744073709551616) : IntKind.u64.wrap (n : Int) = n := IntWalk.u64_in _ (by omega)
theorem u64_or (a b : Nat) (ha : a < 18446744073709551616) (hb : b < 18446744073709551616) : bits .or .u64 (a : Int) (b : Int) = ((a ||| b : Nat) : Int) :=
  (bits_nat .u64 64 (by decide) (fun n h0 h1 => IntWalk.u64_in n (by omega)) a b ha hb).2
theorem u64_and (a b : Nat) (ha : a < 18446744073709551616) (hb : b < 18446744073709551616) : bits .and .u64 (a : Int) (b : Int) = ((a &&& b : Nat) : Int) :=
  (bits_nat .u64 64 (by decide) (fun n h0 h1 => IntWalk.u64_in n (by omega)) a b ha hb).1
theorem or_mul (a b k : Nat) (hb : b < 2 ^ k) : (a * 2 ^ k) ||| b = a * 2 ^ k + b := by
  rw [Nat.mul_comm]; exact (Nat.two_pow_add_eq_or_of_lt hb a).symm
theorem word_step (l : List UInt8) (k : Nat) (h : k < l.length) (hl : l.length ≤ 8) (h' : k < (ByteArray.mk l.toArray).size) :
    bits .or .u64 (IntKind.u64.wrap (((bv (l.take k) : Nat) : Int) * 256)) (IntKind.u64.wrap (((ByteArray.mk l.toArray)[k]'h').toNat : Int)) = ((bv (l.take (k + 1)) : Nat) : Int) := by
  have hb := u8_lt l[k]
  have h1 := bv_lt (l.take k)
  have h2 : 256 ^ (l.take k).length ≤ 256 ^ 7 := Nat.pow_le_pow_right (by omega) (by simp; omega)
  have h3 : (256 : Nat) ^ 7 = 72057594037927936 := by decide
  rw [get_mk l k h, u64_wrap _ (by omega), show ((bv (l.take k) : Nat) : Int) * 256 = ((bv (l.take k) * 256 : Nat) : Int) from by omega, u64_wrap _ (by omega), u64_or _ _ (by omega) (by omega)]
  rw [List.take_succ_eq_append_getElem h, bv_snoc]
  have := or_mul (bv (l.take k)) l[k].toNat 8 hb
  rw [show (2 : Nat) ^ 8 = 256 from rfl] at this
  rw [this]
set_option maxHeartbeats 400000 in
theorem wordOf_any (l0 : List UInt8) (w : World) (hs : l0.length ≤ 8) :
    Calls Tryd.prog 66 #[S l0] w fun e w' => e = .returned (.int .u64 (bv l0 : Nat)) ∧ w' = w := by
  go_enter Tryd.func66, Tryd.ntmps66
  go_wp2
  go_loop [3, 7] (fun v i => ∃ k : Nat, k ≤ l0.length ∧ i = .int .i64 k ∧ v = .int .u64 (bv (l0.take k) : Nat)) (fun _ i => l0.length - (intOf i).toNat)
  case atStart => exact ⟨0, Nat.zero_le _, rfl, rfl⟩
  case round =>
    obtain ⟨k, hk, rfl, rfl⟩ := hrel
    by_cases hlt : k < l0.length
    · go_wp2
      go_round
      case rel => exact ⟨k + 1, by omega, by go_num, congrArg _ (word_step l0 k hlt hs _)⟩
      case measure => simp [intOf]; omega
    · go_wp2
      go_ret
      exact ⟨ret_nat (by rw [List.take_of_length_le (by omega)]), rfl⟩
theorem wordOf_str (s : ByteArray) (w : World) (hs : s.size ≤ 8) :
    Calls Tryd.prog 66 #[.string s] w fun e w' => e = .returned (.int .u64 (bv s.data.toList : Nat)) ∧ w' = w :=
  wordOf_any s.data.toList w (by have h : s.data.toList.length = s.size := Array.length_toList; omega)
theorem wordOf_is (s : ByteArray) (v : Nat) (w : World) (hs : s.size ≤ 8) (hv : bv s.data.toList = v) :
    Calls Tryd.prog 66 #[.string s] w fun e w' => e = .returned (U v) ∧ w' = w := hv ▸ wordOf_str s w hs
theorem ext_list (l : List UInt8) (i j : Nat) : ((ByteArray.mk l.toArray).extract i j).data.toList = (l.take j).drop i := by
  simp [ByteArray.data_extract, List.extract_eq_take_drop, List.drop_take]
theorem ext_size (l : List UInt8) (i j : Nat) : ((ByteArray.mk l.toArray).extract i j).size = ((l.take j).drop i).length := by
  rw [← ext_list]; exact Array.length_toList.symm
theorem bv_lt8 (l : List UInt8) (h : l.length ≤ 8) : bv l < 18446744073709551616 := by
  have h1 := bv_lt l
  have h2 : 256 ^ l.length ≤ 256 ^ 8 := Nat.pow_le_pow_right (by omega) h
  have h3 : (256 : Nat) ^ 8 = 18446744073709551616 := by decide
  omega
theorem trim_len8 (l : List UInt8) : (trimL l).length ≤ 8 ↔ bv l < 18446744073709551616 := by
  have := trim_len l 8
  rwa [show (256 : Nat) ^ 8 = 18446744073709551616 from by decide] at this

set_option maxHeartbeats 400000 in
theorem word_yes (l0 : List UInt8) (w : World) (hs : l0.length ≤ maxLen) (h8 : bv l0 < 18446744073709551616) :
    Calls Tryd.prog 59 #[S l0] w fun e w' => e = .returned (.tuple #[.int .u64 (bv l0 : Nat), .bool true]) ∧ w' = w := by
  have h1 := (trim_len8 l0).2 h8
  have h2 := trimL_len l0
  go_enter Tryd.func59, Tryd.ntmps59
  go_wp2_with fail
  refine (trimmed_any l0 _ hs).mono ?_
  rintro e w' ⟨rfl, rfl⟩
  go_wp2_with fail
  refine (wordOf_any _ _ h1).mono ?_
  rintro e w' ⟨rfl, rfl⟩
  go_wp2_with fail
  go_ret2
  exact ⟨by rw [bv_trim]; rfl, rfl⟩
set_option maxHeartbeats 400000 in
theorem word_no (l0 : List UInt8) (w : World) (hs : l0.length ≤ maxLen) (h8 : ¬ bv l0 < 18446744073709551616) :
    Calls Tryd.prog 59 #[S l0] w fun e w' => e = .returned (.tuple #[.int .u64 0, .bool false]) ∧ w' = w := by
  have h1 : 8 < (trimL l0).length := by have := trim_len8 l0; omega
  have h2 := trimL_len l0
  go_enter Tryd.func59, Tryd.ntmps59
  go_wp2_with fail
  refine (trimmed_any l0 _ hs).mono ?_
  rintro e w' ⟨rfl, rfl⟩
  go_wp2_with fail
  go_ret2
  exact ⟨rfl, rfl⟩
end Go.Proofs.YtcghnkdfhiancaaDoor
