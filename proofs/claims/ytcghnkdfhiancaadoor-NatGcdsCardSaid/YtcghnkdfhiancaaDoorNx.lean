/- The iterator of package nat's powers: the digits of an exponent to the base 2. -/
import Derived.RangeFuncNested
import Derived.RangeFuncBound
import Derived.RangeFuncCalls
import Derived.RangeFuncLeaves
import Derived.RangeFuncFrom
import Derived.Shelf.Abstract
import Derived.Shelf.RegionOpen
import Derived.OwnWalkIn
import Derived.TacticsInMore
import Derived.LoopNIn
import Derived.LoopIn
import Derived.Test.YtcghnkdfhiancaaDoorNv
namespace Go.Proofs.YtcghnkdfhiancaaDoor
open Go.RowKit Go.Shelf
attribute [local go_sem] Oper.semAt_some
/-- The j-th digit of N to the base 2, from the top. -/
def bitTop (N j : Nat) : Bool := N.testBit (nbits N - 1 - j)
theorem bit_of_byte (l : List UInt8) (i : Nat) (hi : i < 8 * l.length) (h : l.length - 1 - i / 8 < l.length) : ((l[l.length - 1 - i / 8]'h).toNat / 2 ^ (i % 8)) % 2 = (bv l / 2 ^ i) % 2 := by
  have h1 := bv_take_div l (i / 8) (by omega)
  have hk : l.length - i / 8 = (l.length - 1 - i / 8) + 1 := by omega
  rw [hk, List.take_succ_eq_append_getElem h, bv_snoc, pow256] at h1
  have h2 : 2 ^ i = 2 ^ (8 * (i / 8)) * 2 ^ (i % 8) := by rw [← Nat.pow_add]; congr 1; omega
  rw [h2, ← Nat.div_div_eq_div_mul, ← h1]
  have hb := u8_lt (l[l.length - 1 - i / 8]'h)
  generalize bv (l.take (l.length - 1 - i / 8)) = a at *
  generalize (l[l.length - 1 - i / 8]'h).toNat = b at *
  have h8 : i % 8 < 8 := Nat.mod_lt _ (by omega)
  generalize i % 8 = r at *
  have hr : r = 0 ∨ r = 1 ∨ r = 2 ∨ r = 3 ∨ r = 4 ∨ r = 5 ∨ r = 6 ∨ r = 7 := by omega
  rcases hr with rfl | rfl | rfl | rfl | rfl | rfl | rfl | rfl <;> simp <;> omega
theorem u8_and1 (x : Nat) (h : x < 256) : bits .and .u8 (x : Int) 1 = ((x % 2 : Nat) : Int) := by
  have := (bits_nat .u8 8 (by decide) (fun n h0 h1 => IntWalk.u8_in n (by omega)) x 1 h (by omega)).1
  rw [show ((1 : Nat) : Int) = 1 from rfl] at this
  rw [this, show (1 : Nat) = 2 ^ 1 - 1 from rfl, Nat.and_two_pow_sub_one_eq_mod]
theorem bit_test (l : List UInt8) (i : Nat) (hi : i < 8 * l.length) (h : l.length - 1 - i / 8 < l.length) :
    (bits .and .u8 (((l[l.length - 1 - i / 8]'h).toNat : Int) / 2 ^ (i % 8)) 1 == 1) = (bv l).testBit i := by
  have hb := u8_lt (l[l.length - 1 - i / 8]'h)
  rw [shr_cast, u8_and1 _ (Nat.lt_of_le_of_lt (Nat.div_le_self _ _) hb), bit_of_byte l i hi h, Nat.testBit_eq_decide_div_mod_eq, Bool.eq_iff_iff]
  simp only [beq_iff_eq, decide_eq_true_eq]
  omega
def KpCell (b : Nat) (W W' : World) : Prop := W'.cell? ⟨b, 0, none⟩ = W.cell? ⟨b, 0, none⟩
set_option maxRecDepth 100000 in
set_option maxHeartbeats 2000000 in
theorem bits_in (F : Fence) (n : Nat) (h6 : F.fn 106) (h7 : F.fn 31) (hro : F.round = none) (hn : 2 ≤ n) (l Bn : Nat) (es : List UInt8) (J Jx : List Bool → World → Prop) (he : es.length ≤ 1152921504606846975)
    (hbits : ∀ W, CallsIn F (n - 1) Tryd.prog 31 #[S es] W fun e w' => e = .returned (.int .i64 (nbits (bv es) : Nat)) ∧ w' = W)
    (hY : ∀ pre x W, J pre W → pre.length < nbits (bv es) → YieldAt F (n - 1) Tryd.prog l #[.bool x] W fun e W' =>
      (e = .returned (.bool true) ∧ J (pre ++ [x]) W' ∧ KpCell Bn W W') ∨ (e = .returned (.bool false) ∧ Jx (pre ++ [x]) W'))
    (W : World) (hBn : W.cell? ⟨Bn, 0, none⟩ = some (S es)) (h0 : J [] W) :
    CallsIn F n Tryd.prog 106 #[.func (.yield l) #[] #[], .pointer (some ⟨Bn, 0, none⟩)] W fun e W' => (∃ v, e = .returned v) ∧
      ((∃ ys, ys = (List.range (nbits (bv es))).map (bitTop (bv es)) ∧ J ys W') ∨ (∃ pre, True ∧ Jx pre W')) := by
  have hnb : nbits (bv es) ≤ 8 * es.length := (nbits_iff _ _).2 (by rw [← pow256]; exact bv_lt es)
  obtain ⟨N, hN⟩ : ∃ N, nbits (bv es) = N := ⟨_, rfl⟩
  have HB := Lib.hid hbits; clear hbits
  have h1 : 1 ≤ n := by omega
  rw [hN] at HB hY hnb ⊢
  have HNN := Lib.hid hN; clear hN
  refine callsIn_of_wp Tryd.func106 rfl h6 ?_ hro
  simp only [Tryd.ntmps106, List.size_toArray, List.length_cons, List.length_nil, Nat.reduceAdd, Nat.reduceSub, Array.replicate_succ, Array.replicate_zero, List.push_toArray, List.append_toArray, List.nil_append, List.cons_append]
  gi_wp2_with (gi_at_call 31; refine (HB.out _).mono ?_; rintro e w' ⟨rfl, rfl⟩)
  rename_i W
  have HY := Lib.hid hY; clear hY
  gi_loopw [3] (fun i wr => ∃ (k : Nat) (pre : List Bool), k ≤ N ∧ i = .int .i64 ((N : Int) - 1 - k) ∧ pre = (List.range k).map (bitTop (bv es)) ∧ wr.cell? ⟨Bn, 0, none⟩ = some (S es) ∧ J pre wr)
    (fun i _ => (intOf i + 1).toNat)
  case atStart => exact ⟨0, [], Nat.zero_le _, by go_num, rfl, hBn, h0⟩
  case round =>
    clear hBn h0
    obtain ⟨k, pre, hk, rfl, hpre, hcell, hJ⟩ := hrel
    have hpl : pre.length = k := by rw [hpre, List.length_map, List.length_range]
    have HPRE := Lib.hid hpre; clear hpre
    by_cases hlt : k < N
    · obtain ⟨i, hi⟩ : ∃ i, N - 1 - k = i := ⟨_, rfl⟩
      have hround := HY.out pre (bitTop (bv es) k) wr hJ (by omega)
      have hbk : bitTop (bv es) k = (bv es).testBit i := by unfold bitTop; rw [HNN.out, hi]
      have e1 : ((N : Int) - 1 - k) = (i : Int) := by omega
      have hi8 : i < 8 * es.length := by omega
      have hlt2 : es.length - 1 - i / 8 < es.length := by omega
      obtain ⟨bt, hbt⟩ : ∃ bt, bitTop (bv es) k = bt := ⟨_, rfl⟩
      have hx : (bits BinOp.and IntKind.u8 ((((ByteArray.mk es.toArray)[es.length - 1 - i / 8]'(by simpa [ByteArray.size] using hlt2)).toNat : Int) / 2 ^ (i % 8)) 1 == 1) = bt := by
        rw [← hbt, hbk]; exact bit_test es i hi8 hlt2
      rw [hbt] at hround
      have HBT2 := Lib.hid hbt
      have HI := Lib.hid hi
      clear hbt hi hbk
      obtain ⟨fn, tmps, assign, body, hy, hR⟩ := hround
      gi_wp2
      refine hR.mono ?_
      rintro e W3 (⟨rfl, hJ3, hk3⟩ | ⟨rfl, hJx3⟩)
      · have hc3 : W3.cell? ⟨Bn, 0, none⟩ = some (S es) := by unfold KpCell at hk3; rw [hk3]; exact hcell
        clear hx hy
        gi_wp2
        go_roundw
        case rel =>
          refine ⟨k + 1, pre ++ [bt], by omega, by have := HI.out; go_num, ?_, hc3, hJ3⟩
          rw [HPRE.out, List.range_succ, List.map_append, ← HBT2.out]
          rfl
        case measure => have := HI.out; simp [intOf]; omega
      · clear hx hy
        gi_wp2
        refine bodyPost_ret (results_none rfl _ _ _) rfl ?_
        exact ⟨⟨_, rfl⟩, .inr ⟨_, trivial, hJx3⟩⟩
    · obtain rfl : k = N := by omega
      have e1 : ((k : Int) - 1 - k) = -1 := by omega
      gi_wp2
      go_end0
      exact ⟨⟨_, rfl⟩, .inl ⟨pre, HPRE.out, hJ⟩⟩
end Go.Proofs.YtcghnkdfhiancaaDoor
