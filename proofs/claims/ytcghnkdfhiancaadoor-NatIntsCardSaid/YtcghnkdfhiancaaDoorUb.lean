/- The reference implementation's Of. -/
import Derived.Test.YtcghnkdfhiancaaDoorUm
namespace Go.Proofs.YtcghnkdfhiancaaDoor
open Go.RowKit
theorem Ch.alloc0 {w : World} (o : Obj) : Ch w.heap.size none1 w (w.alloc o) := (Ch.refl w.heap.size none1 w).alloc (Nat.le_refl _) o
theorem ofs_step (N j : Nat) (hj : j < 8) (z : Int) (hz : z = ((N / 2 ^ (56 - 8 * j) : Nat) : Int) % 256) :
    ((be8 N).take j).map Y ++ [Value.int .u8 z] = ((be8 N).take (j + 1)).map Y := by
  rw [List.take_succ_eq_append_getElem (by rw [be8_len]; exact hj), List.map_append]
  congr 1
  rw [Y_of (N / 2 ^ (56 - 8 * j)) z hz]
  have : j = 0 ∨ j = 1 ∨ j = 2 ∨ j = 3 ∨ j = 4 ∨ j = 5 ∨ j = 6 ∨ j = 7 := by omega
  rcases this with rfl | rfl | rfl | rfl | rfl | rfl | rfl | rfl <;> simp [be8]
/-- Bytes of one's own, as a string. -/
theorem own_conv (w : World) (B : Nat) (v : Value) (l : List UInt8) (h : Own w B 5 v (l.map Y)) :
    (convert 22 24 v).run Tryd.prog w = .ok (S l) w := by
  rcases h.2 with ⟨hv, hn⟩ | ⟨g, cap, cur, hv, hb, hg, hn, hm, hs, ht⟩
  · have hl : l = [] := by simpa using hn
    subst hl hv
    have hcv : (convert 22 24 (.slice none 0 0)).run Tryd.prog w = .ok (.string ⟨#[]⟩) w := by kernel_rfl
    simpa using hcv
  · rw [List.length_map] at hv hn ht
    rw [Nat.mul_one] at ht
    subst hv
    refine run_convert_blk (P := Tryd.prog) w 22 24 5 Tryd.underlying22 Tryd.underlying5 Tryd.underlying24 g 0 l.length cap l 5 cur.toList (by unfold Blk; simpa using hg) rfl (fun i hi => ?_)
    have h1 := congrArg (·[i]?) ht
    simp only [List.getElem?_take, List.getElem?_map] at h1
    rw [if_pos hi, List.getElem?_eq_getElem hi] at h1
    rw [Nat.zero_add, h1]; rfl
set_option maxRecDepth 100000 in
set_option maxHeartbeats 1600000 in
theorem refOf_pos (N : Nat) (w : World) (h0 : 0 < N) (h1 : N ≤ 9223372036854775807) :
    Calls Tryd.prog 29 #[.int .i64 (N : Int)] w (Yld w (S (nb N))) := by
  obtain ⟨i0, hi, hz0, hz1, hz2⟩ := info_parts Tryd.info5
  go_enter Tryd.func29, Tryd.ntmps29
  go_wp2_with fail
  obtain ⟨wo, rfl⟩ : ∃ wo : World, wo = w := ⟨_, rfl⟩
  go_loopw [3, 4] (fun v i wr => ∃ j : Nat, j ≤ 8 ∧ i = .int .i64 (56 - 8 * (j : Int)) ∧ Own wr wo.heap.size 5 v (((be8 N).take j).map Y) ∧ Ch wo.heap.size none1 wo wr) (fun _ i _ => (intOf i + 8).toNat)
  case atStart => exact ⟨0, Nat.zero_le _, rfl, Own.nil _ _ _, Ch.refl _ _ _⟩
  case round =>
    obtain ⟨j, hj, rfl, hown, hC⟩ := hrel
    by_cases h8 : j < 8
    · have : j = 0 ∨ j = 1 ∨ j = 2 ∨ j = 3 ∨ j = 4 ∨ j = 5 ∨ j = 6 ∨ j = 7 := by omega
      have HO := Lib.hid hown; clear hown
      have HS := Lib.hid (ofs_step N)
      rcases this with rfl | rfl | rfl | rfl | rfl | rfl | rfl | rfl
      all_goals
        go_wp2_with (at_builtin; refine wpList_append_up _ rfl _ _ 22 rfl wo.heap.size 5 i0 .u8 0 1 Tryd.underlying22 hi hz0 hz1 hz2 (by decide) _ _ rfl (HO.out.ch (Ch.alloc0 _)) ⟨wr.heap.size, 0, none⟩ 1 1 [_] rfl rfl (new_cell _ _ _) (one_one _ _) (by rw [List.length_map, List.length_take]; omega) (size_alloc_le _ hC.size) ?_; intro v' w1 hown' hC1)
        rw [HS.out _ (by omega) _ (by omega)] at hown'
        go_roundw
        case rel => exact ⟨_, by omega, rfl, hown', (hC.alloc hC.size _).trans hC1⟩
        case measure => decide
    · obtain rfl : j = 8 := by omega
      have hcv := own_conv wr _ _ _ hown
      have ht8 : (be8 N).take 8 = be8 N := List.take_of_length_le (by rw [be8_len]; exact Nat.le_refl _)
      rw [ht8] at hcv
      have HT := Lib.hid (trim_be8 N (by omega))
      have HBL := Lib.hid (show (be8 N).length ≤ 1152921504606846975 by rw [be8_len]; omega)
      clear hown ht8
      go_wp2_with fail
      refine (canon_any (be8 N) _ HBL.out).mono ?_
      rintro e w' ⟨rfl, rfl⟩
      go_wp2_with fail
      go_ret
      exact ⟨ret_S HT.out, hC⟩
set_option maxRecDepth 100000 in
theorem refOf_neg (n : Int) (w : World) (h0 : -9223372036854775808 ≤ n) (h1 : n ≤ 0) :
    Calls Tryd.prog 29 #[.int .i64 n] w (Yld w (S [])) := by
  have hb : ¬ (0 : Int) < n := by omega
  have hcv : (convert 22 24 (.slice none 0 0)).run Tryd.prog w = .ok (.string ⟨#[]⟩) w := by kernel_rfl
  have HC0 := Lib.hid (fun w => canon_any [] w (by decide))
  go_enter Tryd.func29, Tryd.ntmps29
  go_wp2_with fail
  obtain ⟨wo, rfl⟩ : ∃ wo : World, wo = w := ⟨_, rfl⟩
  go_loopw [3, 4] (fun v i wr => v = .slice none 0 0 ∧ i = .int .i64 56 ∧ wr = wo) (fun _ _ _ => 0)
  case atStart => exact ⟨rfl, rfl, rfl⟩
  case round =>
    obtain ⟨rfl, rfl, rfl⟩ := hrel
    go_wp2_with fail
    refine (HC0.out _).mono ?_
    rintro e w' ⟨rfl, rfl⟩
    go_wp2_with fail
    go_ret
    exact ⟨rfl, Ch.refl _ _ _⟩
end Go.Proofs.YtcghnkdfhiancaaDoor
