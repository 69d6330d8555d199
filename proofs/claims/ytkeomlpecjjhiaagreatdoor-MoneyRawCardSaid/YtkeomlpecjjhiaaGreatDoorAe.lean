/- Package money: amounts. -/
import Derived.Test.YtkeomlpecjjhiaaGreatDoorAa
namespace Go.Proofs.YtkeomlpecjjhiaaGreatDoor
open Go.RowKit
set_option maxRecDepth 100000
set_option maxHeartbeats 3200000 in
theorem C_unsigned {c : Int} {x : List UInt8} (h1 : -9223372036854775808 ≤ c) (h2 : c ≤ 9223372036854775807) (hx : nb c.natAbs = x) : Ans 58 #[.int .i64 c] (S x) := fun w => by
 have H1 := Lib.hid (C_Of c h1 h2 hx)
 clear hx
 have hfl : ∀ W : World, (Instr.field 26 (Rv (decide (c < 0)) x [1]) 1).run Tryz.prog W = .ok (S x) W := fun W => by
  have h1 := run_underlying Tryz.underlying26 W
  have h2 := run_underlying Tryz.underlying24 W
  simp [Instr.field, h1, asAgg, part, isAgg, h2]
 go_enter Tryz.func58, Tryz.ntmps58
 go_wp2_with fail
 refine (H1.out _).mono ?_
 rintro e w1 ⟨rfl, hC⟩
 have HC := Lib.hid hC
 clear hC
 go_wp2_with fail
 go_ret
 exact ⟨rfl, HC.out⟩
def bsum (l : List (List UInt8)) : Nat := (l.map bv).sum
theorem bsum_take {l : List (List UInt8)} {k : Nat} {x : List UInt8} (h : l[k]? = some x) : bsum (l.take (k + 1)) = bsum (l.take k) + bv x := by
 unfold bsum
 rw [List.take_add_one, h]
 simp
theorem bsum_le (K : Nat) (l : List (List UInt8)) (h : ∀ x ∈ l, x.length ≤ K) : bsum l ≤ l.length * 256 ^ K := by
 unfold bsum
 induction l with
 | nil => simp
 | cons x l ih =>
  have h1 := bv_b (h x (by simp))
  have h2 := ih fun y hy => h y (by simp [hy])
  rw [List.map_cons, List.sum_cons, List.length_cons, Nat.succ_mul]
  omega
set_option maxHeartbeats 3200000 in
theorem sumOf_any (L : List (List UInt8)) (p : Option Addr) (n c : Nat) (w : World) (hv : Vs w p n (L.map S)) (hn : n ≤ 200) (hsz : ∀ x ∈ L, x.length ≤ 500) :
  Calls Tryz.prog 55 #[.slice p n c] w (Yld w (S (nb (bsum L)))) := by
 have HV := Lib.hid hv
 have HS := Lib.hid hsz
 have hlen : L.length = n := by rw [← hv.len, List.length_map]
 have HL := Lib.hid hlen
 clear hv hsz hlen
 go_enter Tryz.func55, Tryz.ntmps55
 go_wp2_with fail
 go_loopw [3, 8] (fun d b wr => ∃ (k : Nat) (D : List UInt8), k ≤ n ∧ b = .int .i64 k ∧ d = S D ∧ nb (bsum (L.take k)) = D ∧ Ch w.heap.size none1 w wr) (fun _ b _ => n - (intOf b).toNat)
 case atStart => exact ⟨0, [], Nat.zero_le _, rfl, rfl, nb_zero, Ch.refl _ _ _⟩
 case round =>
  obtain ⟨k, D, hk, rfl, rfl, hD, hC⟩ := hrel
  have HC := Lib.hid hC
  have HD := Lib.hid hD
  clear hC
  by_cases hlt : k < n
  ·have HVR := Lib.hid (HV.out.ch HC.out)
   obtain ⟨g, o, rfl⟩ := HVR.out.addr (by omega)
   obtain ⟨x, hx⟩ : ∃ x, L[k]? = some x := ⟨L[k]'(by rw [HL.out]; exact hlt), List.getElem?_eq_getElem _⟩
   have c0 := HVR.out.get (i := k) (t := S x) (by rw [List.getElem?_map, hx]; rfl)
   have hb := bsum_take hx
   obtain ⟨K, hK⟩ : ∃ K, K = 500 := ⟨_, rfl⟩
   have h500 : 200 * 256 ^ K < 256 ^ (K + 1) := by
    rw [Nat.pow_succ, Nat.mul_comm]
    exact Nat.mul_lt_mul_of_pos_left (by decide) (Nat.pow_pos (by decide))
   have hle := bsum_le K (L.take k) (fun y hy => by rw [hK]; exact HS.out y (List.mem_of_mem_take hy))
   have hle2 : (L.take k).length * 256 ^ K ≤ 200 * 256 ^ K := Nat.mul_le_mul_right _ (by rw [List.length_take]; omega)
   have lD := nbl' (K + 1) hD (Nat.lt_of_le_of_lt (Nat.le_trans hle hle2) h500)
   have lx := HS.out x (List.mem_of_getElem? hx)
   obtain ⟨D2, hD2⟩ : ∃ D2, nb (bsum (L.take (k + 1))) = D2 := ⟨_, rfl⟩
   have H1 := Lib.hid (C_add (a := D) (b := x) hD2 (by omega) (by omega) (by rw [hb, ← hD, bv_nb]))
   have HD2 := Lib.hid hD2
   clear hb hK h500 hle hle2 lD lx hD2 hD hx
   go_wp2_with fail
   refine (H1.out _).mono ?_
   rintro e wa ⟨rfl, hCa⟩
   have HCa := Lib.hid (HC.out.step0 hCa (Nat.le_refl _))
   clear hCa c0
   go_wp2_with fail
   go_roundw
   case rel => exact ⟨k + 1, D2, by omega, by go_num, rfl, HD2.out, HCa.out⟩
   case measure => simp [intOf]; omega
  ·obtain rfl : k = n := by omega
   have HF := Lib.hid (show D = nb (bsum L) by rw [← hD, List.take_of_length_le (by rw [HL.out]; exact Nat.le_refl _)])
   clear hD
   go_wp2_with fail
   go_ret
   exact ⟨by rw [HF.out]; rfl, HC.out⟩
def amts (neg : Bool) (l : List (List UInt8)) : List T3 := l.map fun x => pt (mq neg (bv x) 100)
set_option maxHeartbeats 3200000 in
theorem amounts_any (neg : Bool) (L : List (List UInt8)) (p : Option Addr) (n cap : Nat) (w : World) (hv : Vs w p n (L.map S)) (hn : n ≤ 200) (hsz : ∀ x ∈ L, x.length ≤ 900 ∧ Rt x) :
  Calls Tryz.prog 56 #[.bool neg, .slice p n cap] w fun e w' => e = .returned (.slice (some ⟨w.heap.size, 0, none⟩) n n) ∧ Blk w' w.heap.size 26 (rcs (amts neg L)) ∧ Ch w.heap.size none1 w w' := by
 have hmk : ∀ W : World, (Instr.makeSlice 32 (.int .i64 (n : Int)) (.int .i64 (n : Int))).run Tryz.prog W = .ok (.slice (some ⟨W.heap.size, 0, none⟩) n n) (W.alloc (.cells (madeCells #[.bool false, S [], S []] (n * 3)) 26)) := fun W => by
  have hinf : (Tryz.prog.info? 26).map (fun i => (i.zero, i.size, i.bytes)) = some (some (.agg #[.bool false, S [], S []]), 3, 40) := by kernel_rfl
  obtain ⟨i0, hi, hz0, hz1, hz2⟩ := info_parts hinf
  have h := run_make (P := Tryz.prog) W 32 26 i0 (.agg #[.bool false, S [], S []]) Tryz.underlying32 hi hz0 .i64 .i64 n n (by omega) (Int.le_refl _) (by rw [hz2]; omega) (by omega)
  rw [hz1] at h
  simp only [Int.toNat_natCast] at h
  exact h
 have hlen : L.length = n := by rw [← hv.len, List.length_map]
 have HV := Lib.hid hv
 have HS := Lib.hid hsz
 have HLN := Lib.hid hlen
 clear hv hsz hlen
 obtain ⟨G, hG⟩ : ∃ G, w.heap.size = G := ⟨_, rfl⟩
 rw [hG]
 go_enter Tryz.func56, Tryz.ntmps56
 go_wp2_with fail
 go_loopw [13] (fun i wr => ∃ k : Nat, k ≤ n ∧ i = .int .i64 k ∧ Fl w wr none1 G n (amts neg L) k) (fun i _ => n - (intOf i).toNat)
 case atStart => exact ⟨0, Nat.zero_le _, rfl, Fl.start hG n _⟩
 case round =>
  obtain ⟨k, hk, rfl, hrel⟩ := hrel
  have HR := Lib.hid hrel
  clear hrel
  by_cases hlt : k < n
  ·have HVR := Lib.hid (HV.out.ch HR.out.ch)
   obtain ⟨g, o, rfl⟩ := HVR.out.addr (by omega)
   obtain ⟨x, hx⟩ : ∃ x, L[k]? = some x := ⟨L[k]'(by rw [HLN.out]; exact hlt), List.getElem?_eq_getElem _⟩
   obtain ⟨lx, rx⟩ := HS.out x (List.mem_of_getElem? hx)
   have c0 := HVR.out.get (i := k) (t := S x) (by rw [List.getElem?_map, hx]; rfl)
   have h100 : Rt [100] := .inr ⟨100, [], rfl, by decide⟩
   have H1 := Lib.hid (C_Make (s := neg) (n := x) (d := [100]) (by omega) (by decide) rx h100 (by simp) (by rw [show bv [100] = 100 from rfl]; exact pt_is (mq neg (bv x) 100)))
   have HFL := Lib.hid (show (amts neg L)[k]? = some (pt (mq neg (bv x) 100)) by unfold amts; rw [List.getElem?_map, hx]; rfl)
   obtain ⟨⟨s1, n1, d1⟩, hq⟩ : ∃ q, pt (mq neg (bv x) 100) = q := ⟨_, rfl⟩
   rw [hq] at H1 HFL
   clear hq hx lx rx h100
   go_wp2_with fail
   refine (H1.out _).mono ?_
   rintro e wq ⟨rfl, hC⟩
   have HF2 := Lib.hid (HR.out.on hC (fun q => q) (fun _ _ q => q.elim))
   clear hC HR c0
   obtain ⟨x0, y0, z0, e0, e1, e2, f0, f1, f2⟩ := HF2.out.slots hlt
   go_wp2_with fail
   go_roundw
   case rel =>
    refine ⟨k + 1, by omega, by go_num, ?_⟩
    clear hmk
    have hh := HF2.out.put hlt HFL.out
    with_reducible exact hh
   case measure => simp [intOf]; omega
  ·have hkn : k = n := by omega
   subst hkn
   go_wp2
   go_ret
   exact ⟨rfl, HR.out.done (by unfold amts; rw [List.length_map, HLN.out]), hG ▸ HR.out.ch⟩
end Go.Proofs.YtkeomlpecjjhiaaGreatDoor
