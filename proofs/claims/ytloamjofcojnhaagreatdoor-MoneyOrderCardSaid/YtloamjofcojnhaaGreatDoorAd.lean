/- Package money: unsigned, sumOf. -/
import Derived.Test.YtloamjofcojnhaaGreatDoorAa
namespace Go.Proofs.YtloamjofcojnhaaGreatDoor
open Go.RowKit
set_option maxRecDepth 100000 in
set_option maxHeartbeats 3200000 in
theorem C_unsigned {c : Int} {x : List UInt8} (h1 : -9223372036854775808 ≤ c) (h2 : c ≤ 9223372036854775807) (hx : nb c.natAbs = x) : Ans 58 #[.int .i64 c] (S x) := fun w => by
  have H1 := Lib.hid (C_Of c h1 h2 hx)
  clear hx
  have hfl : ∀ W : World, (Instr.field 26 (Rv (decide (c < 0)) x [1]) 1).run Tryz.prog W = .ok (S x) W := fun W => by
    have h1 := run_underlying Tryz.underlying26 W
    have h2 := run_underlying Tryz.underlying24 W
    simp [Instr.field, h1, asAgg, part, isAgg, h2]
  go_enter Tryz.func58, Tryz.ntmps58
  go_wp2_with fail
  refine (H1.out _).mono ?_
  rintro e w1 ⟨rfl, hC⟩
  have HC := Lib.hid hC
  clear hC
  go_wp2_with fail
  go_ret
  exact ⟨rfl, HC.out⟩
/-- The sum of numbers that bytes mean. -/
def bsum (l : List (List UInt8)) : Nat := (l.map bv).sum
theorem bsum_take {l : List (List UInt8)} {k : Nat} {x : List UInt8} (h : l[k]? = some x) : bsum (l.take (k + 1)) = bsum (l.take k) + bv x := by
  unfold bsum
  rw [List.take_add_one, h]
  simp
theorem bsum_le (K : Nat) (l : List (List UInt8)) (h : ∀ x ∈ l, x.length ≤ K) : bsum l ≤ l.length * 256 ^ K := by
  unfold bsum
  induction l with
  | nil => simp
  | cons x l ih =>
    have h1 := bv_b (h x (by simp))
    have h2 := ih fun y hy => h y (by simp [hy])
    rw [List.map_cons, List.sum_cons, List.length_cons, Nat.succ_mul]
    omega
set_option maxRecDepth 100000 in
set_option maxHeartbeats 3200000 in
theorem sumOf_any (L : List (List UInt8)) (p : Option Addr) (n c : Nat) (w : World) (hv : Vs w p n (L.map S)) (hn : n ≤ 200) (hsz : ∀ x ∈ L, x.length ≤ 500) :
    Calls Tryz.prog 55 #[.slice p n c] w (Yld w (S (nb (bsum L)))) := by
  have HV := Lib.hid hv
  have HS := Lib.hid hsz
  have hlen : L.length = n := by rw [← hv.len, List.length_map]
  have HL := Lib.hid hlen
  clear hv hsz hlen
  go_enter Tryz.func55, Tryz.ntmps55
  go_wp2_with fail
  go_loopw [3, 8] (fun d b wr => ∃ (k : Nat) (D : List UInt8), k ≤ n ∧ b = .int .i64 k ∧ d = S D ∧ nb (bsum (L.take k)) = D ∧ Ch w.heap.size none1 w wr) (fun _ b _ => n - (intOf b).toNat)
  case atStart => exact ⟨0, [], Nat.zero_le _, rfl, rfl, nb_zero, Ch.refl _ _ _⟩
  case round =>
    obtain ⟨k, D, hk, rfl, rfl, hD, hC⟩ := hrel
    have HC := Lib.hid hC
    have HD := Lib.hid hD
    clear hC
    by_cases hlt : k < n
    · have HVR := Lib.hid (HV.out.ch HC.out)
      obtain ⟨g, o, rfl⟩ := HVR.out.addr (by omega)
      obtain ⟨x, hx⟩ : ∃ x, L[k]? = some x := ⟨L[k]'(by rw [HL.out]; exact hlt), List.getElem?_eq_getElem _⟩
      have c0 := HVR.out.get (i := k) (t := S x) (by rw [List.getElem?_map, hx]; rfl)
      have hb := bsum_take hx
      obtain ⟨K, hK⟩ : ∃ K, K = 500 := ⟨_, rfl⟩
      have h500 : 200 * 256 ^ K < 256 ^ (K + 1) := by
        rw [Nat.pow_succ, Nat.mul_comm]
        exact Nat.mul_lt_mul_of_pos_left (by decide) (Nat.pow_pos (by decide))
      have hle := bsum_le K (L.take k) (fun y hy => by rw [hK]; exact HS.out y (List.mem_of_mem_take hy))
      have hle2 : (L.take k).length * 256 ^ K ≤ 200 * 256 ^ K := Nat.mul_le_mul_right _ (by rw [List.length_take]; omega)
      have lD := nbl' (K + 1) hD (Nat.lt_of_le_of_lt (Nat.le_trans hle hle2) h500)
      have lx := HS.out x (List.mem_of_getElem? hx)
      obtain ⟨D2, hD2⟩ : ∃ D2, nb (bsum (L.take (k + 1))) = D2 := ⟨_, rfl⟩
      have H1 := Lib.hid (C_add (a := D) (b := x) hD2 (by omega) (by omega) (by rw [hb, ← hD, bv_nb]))
      have HD2 := Lib.hid hD2
      clear hb hK h500 hle hle2 lD lx hD2 hD hx
      go_wp2_with fail
      refine (H1.out _).mono ?_
      rintro e wa ⟨rfl, hCa⟩
      have HCa := Lib.hid (HC.out.step0 hCa (Nat.le_refl _))
      clear hCa c0
      go_wp2_with fail
      go_roundw
      case rel => exact ⟨k + 1, D2, by omega, by go_num, rfl, HD2.out, HCa.out⟩
      case measure => simp [intOf]; omega
    · obtain rfl : k = n := by omega
      have HF := Lib.hid (show D = nb (bsum L) by rw [← hD, List.take_of_length_le (by rw [HL.out]; exact Nat.le_refl _)])
      clear hD
      go_wp2_with fail
      go_ret
      exact ⟨by rw [HF.out]; rfl, HC.out⟩
end Go.Proofs.YtloamjofcojnhaaGreatDoor
