/- The reference implementation's number. -/
import Derived.Test.YtcghnkdfhiancaaDoorUc
import Derived.Deep.RegionHeld3
namespace Go.Proofs.YtcghnkdfhiancaaDoor
open Go.RowKit
def b3 (x : Nat) : List UInt8 := [UInt8.ofNat (x / 65536), UInt8.ofNat (x / 256), UInt8.ofNat x]
theorem bv_b3 (x : Nat) (h : x < E24) : bv (b3 x) = x := by
  unfold E24 at h
  simp only [b3, bv, List.foldl, UInt8.toNat_ofNat']
  omega
def byts (xs : List Nat) : List UInt8 := xs.reverse.flatMap b3
theorem byts_cons (x : Nat) (xs : List Nat) : byts (x :: xs) = byts xs ++ b3 x := by simp [byts]
theorem byts_len (xs : List Nat) : (byts xs).length = 3 * xs.length := by
  induction xs with
  | nil => rfl
  | cons x xs ih => rw [byts_cons, List.length_append, ih, List.length_cons]; simp [b3]; omega
theorem bv_byts (xs : List Nat) (h : Eok xs) : bv (byts xs) = ev xs := by
  induction xs with
  | nil => rfl
  | cons x xs ih =>
    have h1 := h x (List.mem_cons_self ..)
    rw [byts_cons, bv_append, ih (fun y hy => h y (List.mem_cons_of_mem _ hy)), show (b3 x).length = 3 from rfl, bv_b3 x h1, ev_cons, show (256 : Nat) ^ 3 = E24 from by decide, Nat.mul_comm]
    omega
theorem u8_wrap (n : Int) : IntKind.u8.wrap n = n % 256 := by
  simp [IntKind.wrap, IntKind.bits, IntKind.signed]
theorem b3_vals (x : Nat) : [Value.int .u8 (IntKind.u8.wrap ((x : Int) / 65536)), .int .u8 (IntKind.u8.wrap ((x : Int) / 256)), .int .u8 (IntKind.u8.wrap (x : Int))] = (b3 x).map Y := by
  simp only [b3, List.map_cons, List.map_nil]
  rw [u8_wrap, u8_wrap, u8_wrap, ← Y_of (x / 65536) ((x : Int) / 65536 % 256) (by omega), ← Y_of (x / 256) ((x : Int) / 256 % 256) (by omega), ← Y_of x ((x : Int) % 256) rfl]
theorem three_cells (w : World) (u0 u1 u2 : Value) (t : TypeId) : ∀ j x, [u0, u1, u2][j]? = some x → (w.alloc (.cells #[u0, u1, u2] t (0, 0))).cell? ((⟨w.heap.size, 0, none⟩ : Addr).add j) = some x := by
  intro j x hj
  have := (Blk.new w #[u0, u1, u2] t).adds j x (by simpa using hj)
  exact this
theorem three_one (a b c : Int) : ∀ u ∈ [Value.int .u8 a, .int .u8 b, .int .u8 c], u.oneCell' = true := fun u hu => by
  simp only [List.mem_cons, List.mem_nil_iff, or_false] at hu
  rcases hu with rfl | rfl | rfl <;> rfl
set_option maxRecDepth 100000 in
set_option maxHeartbeats 1600000 in
theorem rnumber_any (p : Option Addr) (n cap : Nat) (xs : List Nat) (w : World) (hd : Di w p n xs) (hn : n ≤ 33333333333) :
    Calls Tryd.prog 42 #[.slice p n cap] w (Yld w (S (nb (ev xs)))) := by
  obtain ⟨i0, hi, hz0, hz1, hz2⟩ := info_parts Tryd.info5
  have hxl := hd.len
  have HX := Lib.hid hxl; clear hxl
  have HD := Lib.hid hd; clear hd
  have HBL := Lib.hid byts_len
  go_enter Tryd.func42, Tryd.ntmps42
  go_wp2_with fail
  obtain ⟨wo, rfl⟩ : ∃ wo : World, wo = w := ⟨_, rfl⟩
  go_loopw [3, 4] (fun b i wr => ∃ k : Nat, k ≤ n ∧ i = .int .i64 ((k : Int) - 1) ∧ Own wr wo.heap.size 5 b ((byts (xs.drop k)).map Y) ∧ Ch wo.heap.size none1 wo wr) (fun _ i _ => (intOf i + 1).toNat)
  case atStart => exact ⟨n, Nat.le_refl _, rfl, by rw [List.drop_of_length_le (by rw [HX.out]; exact Nat.le_refl _)]; exact Own.nil _ _ _, Ch.refl _ _ _⟩
  case round =>
    obtain ⟨k, hk, rfl, hown, hC⟩ := hrel
    have HO := Lib.hid hown; clear hown
    have HCH := Lib.hid hC; clear hC
    rcases k with _ | k
    · have hcv := own_conv wr _ _ _ HO.out
      have hlen : (byts (xs.drop 0)).length ≤ 1152921504606846975 := by rw [byts_len, List.drop_zero, HX.out]; omega
      have HL := Lib.hid hlen; clear hlen
      rw [List.drop_zero] at hcv HL
      go_wp2_with fail
      refine (canon_any _ _ HL.out).mono ?_
      rintro e w' ⟨rfl, rfl⟩
      go_wp2_with fail
      go_ret
      exact ⟨ret_S (trimL_of_nb (bv_byts xs HD.out.lt)), HCH.out⟩
    · obtain ⟨g, rfl⟩ := HD.out.addr (by omega)
      have hg := (HD.out.on HCH.out).get0 k (by omega)
      have hkx : k < xs.length := by rw [HX.out]; omega
      have hb := HD.out.lt.get k hkx
      have hdr : byts (xs.drop k) = byts (xs.drop (k + 1)) ++ b3 xs[k] := by rw [List.drop_eq_getElem_cons hkx, byts_cons]
      obtain ⟨x, hx⟩ : ∃ x, xs[k] = x := ⟨_, rfl⟩
      rw [hx] at hg hb hdr
      unfold E24 at hb
      have hvals : (byts (xs.drop (k + 1))).map Y ++ [Value.int .u8 (IntKind.u8.wrap ((x : Int) / 65536)), .int .u8 (IntKind.u8.wrap ((x : Int) / 256)), .int .u8 (IntKind.u8.wrap (x : Int))] = (byts (xs.drop k)).map Y := by rw [hdr, List.map_append, b3_vals x]
      have HV := Lib.hid hvals; clear hvals
      have hll : ((byts (xs.drop (k + 1))).map Y).length + 3 ≤ 1000000000000 := by rw [List.length_map, byts_len, List.length_drop, HX.out]; omega
      have HL := Lib.hid hll; clear hll
      have HSZ := Lib.hid HCH.out.size
      clear hx hdr
      have hkn : (k : Int) < (n : Int) := by omega
      have hk0 : (0 : Int) ≤ (k : Int) := by omega
      have hgl : g < wo.heap.size := HD.out.lt_size _ rfl
      have HGA := Lib.hid (fun o => show (wr.alloc o).drew.cell? ⟨g, k, none⟩ = some (I x) from ((Ch.alloc0 (w := wr) o).cell (p := ⟨g, k, none⟩) (Nat.lt_of_lt_of_le hgl HSZ.out) (fun q => q)).trans hg)
      have HGL := Lib.hid hgl
      clear hgl
      have HG := Lib.hid (show wr.drew.cell? ⟨g, k, none⟩ = some (I x) from hg)
      have HL2 := Lib.hid (show ((byts (xs.drop (k + 1))).map Y).length + 3 ≤ maxLen by have := HL.out; unfold maxLen; omega)
      have HL3 := Lib.hid (show (((byts (xs.drop (k + 1))).map Y).length + 3) * 1 ≤ 140737488355328 by have := HL.out; omega)
      go_wp2_with fail
      go_region_held3 (fun w' => w'.cell? ⟨g, k, none⟩ = some (I x))
        (first
          | (with_reducible exact HG.out)
          | (with_reducible exact (hC1.cell (p := ⟨g, k, none⟩) HGL.out (fun q => q)).trans (HGA.out _))
          | (with_reducible exact HGA.out _)
          | go_keep)
        (first
          | (refine step_append_src _ (by rfl) _ _ 22 (by rfl) wo.heap.size 5 i0 _ 1 Tryd.underlying22 hi hz0 hz1 hz2 rfl _ _ _ (by rfl) (HO.out.alloc _).drew _ 3 3 [_, _, _] (by rfl) rfl (fun h => by cases h) (fun ad ha => by obtain rfl := Option.some.inj ha; exact three_cells _ _ _ _ _) (three_one _ _ _) HL2.out HL3.out (size_alloc_le _ HSZ.out) ?_; intro v' w1 hown' hgr; have hC1 := Own.grow (HO.out.alloc _).drew hgr (size_alloc_le _ HSZ.out); clear hgr))
      go_wp2_with fail
      go_roundw
      case rel => exact ⟨k, by omega, by go_num, by rw [← HV.out, Own, List.length_append]; exact hown', ((HCH.out.alloc HSZ.out _).drew).trans hC1⟩
      case measure => simp [intOf]
end Go.Proofs.YtcghnkdfhiancaaDoor

