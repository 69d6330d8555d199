/- The reference implementation's trim and of. -/
import Derived.Test.YtcghnkdfhiancaaDoorUm
import Derived.Deep.LoopGhost
namespace Go.Proofs.YtcghnkdfhiancaaDoor
open Go.RowKit
theorem Ch.alloc0 {w : World} (o : Obj) : Ch w.heap.size none1 w (w.alloc o) := (Ch.refl w.heap.size none1 w).alloc (Nat.le_refl _) o
theorem ofs_step (N j : Nat) (hj : j < 8) (z : Int) (hz : z = ((N / 2 ^ (56 - 8 * j) : Nat) : Int) % 256) :
    ((be8 N).take j).map Y ++ [Value.int .u8 z] = ((be8 N).take (j + 1)).map Y := by
  rw [List.take_succ_eq_append_getElem (by rw [be8_len]; exact hj), List.map_append]
  congr 1
  rw [Y_of (N / 2 ^ (56 - 8 * j)) z hz]
  have : j = 0 ∨ j = 1 ∨ j = 2 ∨ j = 3 ∨ j = 4 ∨ j = 5 ∨ j = 6 ∨ j = 7 := by omega
  rcases this with rfl | rfl | rfl | rfl | rfl | rfl | rfl | rfl <;> simp [be8]
/-- Bytes of one's own, as a string. -/
theorem own_conv (w : World) (B : Nat) (v : Value) (l : List UInt8) (h : Own w B 5 v (l.map Y)) :
    (convert 22 24 v).run Tryd.prog w = .ok (S l) w := by
  rcases h.2 with ⟨hv, hn⟩ | ⟨g, cap, cur, hv, hb, hg, hn, hm, hs, ht⟩
  · have hl : l = [] := by simpa using hn
    subst hl hv
    have hcv : (convert 22 24 (.slice none 0 0)).run Tryd.prog w = .ok (.string ⟨#[]⟩) w := by kernel_rfl
    simpa using hcv
  · rw [List.length_map] at hv hn ht
    rw [Nat.mul_one] at ht
    subst hv
    refine run_convert_blk (P := Tryd.prog) w 22 24 5 Tryd.underlying22 Tryd.underlying5 Tryd.underlying24 g 0 l.length cap l 5 cur.toList (by unfold Blk; simpa using hg) rfl (fun i hi => ?_)
    have h1 := congrArg (·[i]?) ht
    simp only [List.getElem?_take, List.getElem?_map] at h1
    rw [if_pos hi, List.getElem?_eq_getElem hi] at h1
    rw [Nat.zero_add, h1]; rfl
set_option maxRecDepth 100000 in
set_option maxHeartbeats 1600000 in
theorem refOf_pos (N : Nat) (w : World) (h0 : 0 < N) (h1 : N ≤ 9223372036854775807) :
    Calls Tryd.prog 29 #[.int .i64 (N : Int)] w (Yld w (S (nb N))) := by
  obtain ⟨i0, hi, hz0, hz1, hz2⟩ := info_parts Tryd.info5
  go_enter Tryd.func29, Tryd.ntmps29
  go_wp2_with fail
  obtain ⟨wo, rfl⟩ : ∃ wo : World, wo = w := ⟨_, rfl⟩
  go_loopw [3, 4] (fun v i wr => ∃ j : Nat, j ≤ 8 ∧ i = .int .i64 (56 - 8 * (j : Int)) ∧ Own wr wo.heap.size 5 v (((be8 N).take j).map Y) ∧ Ch wo.heap.size none1 wo wr) (fun _ i _ => (intOf i + 8).toNat)
  case atStart => exact ⟨0, Nat.zero_le _, rfl, Own.nil _ _ _, Ch.refl _ _ _⟩
  case round =>
    obtain ⟨j, hj, rfl, hown, hC⟩ := hrel
    by_cases h8 : j < 8
    · have : j = 0 ∨ j = 1 ∨ j = 2 ∨ j = 3 ∨ j = 4 ∨ j = 5 ∨ j = 6 ∨ j = 7 := by omega
      have HO := Lib.hid hown; clear hown
      have HS := Lib.hid (ofs_step N)
      rcases this with rfl | rfl | rfl | rfl | rfl | rfl | rfl | rfl
      all_goals
        go_wp2_with (at_builtin; refine wpList_append_up _ rfl _ _ 22 rfl wo.heap.size 5 i0 .u8 0 1 Tryd.underlying22 hi hz0 hz1 hz2 (by decide) _ _ rfl (HO.out.ch (Ch.alloc0 _)) ⟨wr.heap.size, 0, none⟩ 1 1 [_] rfl rfl (new_cell _ _ _) (one_one _ _) (by rw [List.length_map, List.length_take]; omega) (size_alloc_le _ hC.size) ?_; intro v' w1 hown' hC1)
        rw [HS.out _ (by omega) _ (by omega)] at hown'
        go_roundw
        case rel => exact ⟨_, by omega, rfl, hown', (hC.alloc hC.size _).trans hC1⟩
        case measure => decide
    · obtain rfl : j = 8 := by omega
      have hcv := own_conv wr _ _ _ hown
      have ht8 : (be8 N).take 8 = be8 N := List.take_of_length_le (by rw [be8_len]; exact Nat.le_refl _)
      rw [ht8] at hcv
      have HT := Lib.hid (trim_be8 N (by omega))
      have HBL := Lib.hid (show (be8 N).length ≤ 1152921504606846975 by rw [be8_len]; omega)
      clear hown ht8
      go_wp2_with fail
      refine (canon_any (be8 N) _ HBL.out).mono ?_
      rintro e w' ⟨rfl, rfl⟩
      go_wp2_with fail
      go_ret
      exact ⟨ret_S HT.out, hC⟩
set_option maxRecDepth 100000 in
theorem refOf_neg (n : Int) (w : World) (h0 : -9223372036854775808 ≤ n) (h1 : n ≤ 0) :
    Calls Tryd.prog 29 #[.int .i64 n] w (Yld w (S [])) := by
  have hb : ¬ (0 : Int) < n := by omega
  have hcv : (convert 22 24 (.slice none 0 0)).run Tryd.prog w = .ok (.string ⟨#[]⟩) w := by kernel_rfl
  have HC0 := Lib.hid (fun w => canon_any [] w (by decide))
  go_enter Tryd.func29, Tryd.ntmps29
  go_wp2_with fail
  obtain ⟨wo, rfl⟩ : ∃ wo : World, wo = w := ⟨_, rfl⟩
  go_loopw [3, 4] (fun v i wr => v = .slice none 0 0 ∧ i = .int .i64 56 ∧ wr = wo) (fun _ _ _ => 0)
  case atStart => exact ⟨rfl, rfl, rfl⟩
  case round =>
    obtain ⟨rfl, rfl, rfl⟩ := hrel
    go_wp2_with fail
    refine (HC0.out _).mono ?_
    rintro e w' ⟨rfl, rfl⟩
    go_wp2_with fail
    go_ret
    exact ⟨rfl, Ch.refl _ _ _⟩
end Go.Proofs.YtcghnkdfhiancaaDoor
namespace Go.Proofs.YtcghnkdfhiancaaDoor
open Go.RowKit
def slLenI : Value → Nat | .slice _ k _ => k | _ => 0
theorem ulen_step (xs : List Nat) (k : Nat) (hk : k < xs.length) (h0 : xs[k] = 0) (h : ulen xs ≤ k + 1) : ulen xs ≤ k := by
  rw [ulen_iff] at h ⊢
  intro j hj
  rcases Nat.eq_or_lt_of_le hj with e | e
  · subst e
    rw [List.getD_eq_getElem?_getD, List.getElem?_eq_getElem hk, h0]; rfl
  · exact h j e
theorem ulen_stop (xs : List Nat) (k : Nat) (hk : k < xs.length) (h0 : ¬ xs[k] = 0) (h : ulen xs ≤ k + 1) : ulen xs = k + 1 := by
  rcases Nat.lt_or_ge k (ulen xs) with h1 | h1
  · omega
  · have := (ulen_iff xs k).1 h1 k (Nat.le_refl _)
    rw [List.getD_eq_getElem?_getD, List.getElem?_eq_getElem hk] at this
    exact absurd this h0
set_option maxHeartbeats 400000 in
theorem rtrim_any (p : Option Addr) (n cap : Nat) (xs : List Nat) (w : World) (hd : Di w p n xs) (hc : n ≤ cap) (hm : cap ≤ maxLen) :
    Calls Tryd.prog 68 #[.slice p n cap] w fun e w' => e = .returned (.slice p (ulen xs) cap) ∧ w' = w := by
  unfold maxLen at hm
  have hxl := hd.len
  have htl := ulen_le xs
  rw [hxl] at htl
  have HX := Lib.hid hxl; clear hxl
  have HD := Lib.hid hd; clear hd
  go_enter Tryd.func68, Tryd.ntmps68
  go_wp2_with fail
  go_loop [0] (fun v => ∃ k : Nat, ulen xs ≤ k ∧ k ≤ n ∧ v = .slice p k cap) (fun v => slLenI v)
  case atStart => exact ⟨n, htl, Nat.le_refl _, rfl⟩
  case round =>
    obtain ⟨k, hk1, hk2, rfl⟩ := hrel
    rcases k with _ | k
    · go_wp2_with fail
      go_ret
      refine ⟨?_, rfl⟩
      have : ulen xs = 0 := by omega
      rw [this]; rfl
    · have hkl : k < xs.length := by rw [HX.out]; omega
      obtain ⟨g, rfl⟩ := HD.out.addr (by omega)
      have hg := HD.out.get0 k (by omega)
      obtain ⟨x, hx⟩ : ∃ x, xs[k] = x := ⟨_, rfl⟩
      rw [hx] at hg
      by_cases h0 : x = 0
      · subst h0
        have ht := ulen_step xs k hkl hx hk1
        have HXX := Lib.hid hx; clear hx
        go_wp2_with fail
        go_round
        case rel => exact ⟨k, ht, by omega, rfl⟩
        case measure => simp [slLenI]
      · have ht := ulen_stop xs k hkl (by rw [hx]; exact h0) hk1
        have HXX := Lib.hid hx; clear hx
        have HT := Lib.hid ht; clear ht
        have hb : (((x : Nat) : Int) == 0) = false := by simp; omega
        go_wp2_with fail
        go_ret
        exact ⟨by rw [HT.out]; rfl, rfl⟩
theorem Tryd.info3 : (Tryd.prog.info? 3).map (fun i => (i.zero, i.size, i.bytes)) = some (some (.int .i64 0), 1, 8) := by kernel_rfl
theorem drop_take_succ (l : List UInt8) (lo k : Nat) (h1 : lo ≤ k) (h2 : k < l.length) : (l.take (k + 1)).drop lo = (l.take k).drop lo ++ [l[k]] := by
  rw [List.take_succ_eq_append_getElem h2, List.drop_append_of_le_length (by rw [List.length_take]; omega)]
theorem bv_small (l : List UInt8) (lo k : Nat) (h : k ≤ lo + 2) : bv ((l.take k).drop lo) < 65536 := by
  refine Nat.lt_of_lt_of_le (bv_lt _) (Nat.le_trans (Nat.pow_le_pow_right (by omega) (show _ ≤ 2 from ?_)) (by decide))
  rw [List.length_drop, List.length_take]; omega
set_option maxRecDepth 100000 in
set_option maxHeartbeats 1600000 in
theorem rof_any (a : List UInt8) (w : World) (ha : a.length ≤ 100000000000) :
    Calls Tryd.prog 44 #[S a] w fun e w' => ∃ v, e = .returned v ∧ Own w' w.heap.size 3 v ((es (bv a)).map I) ∧ Ch w.heap.size none1 w w' := by
  obtain ⟨i0, hi, hz0, hz1, hz2⟩ := info_parts Tryd.info3
  have ha1 := trimL_len a
  have hel := es_len_bytes a
  have hch := es_chunk a
  obtain ⟨l, hl⟩ : ∃ l, trimL a = l := ⟨_, rfl⟩
  have HC0 := Lib.hid (canon_any a)
  rw [hl] at ha1 hel hch HC0
  obtain ⟨xs, hx⟩ : ∃ xs, es (bv a) = xs := ⟨_, rfl⟩
  rw [hx] at hel
  have hh : ∀ k e, e = l.length - 3 * k → ∀ (hk : k < xs.length), bv ((l.take e).drop (e - 3)) = xs[k] := fun k e he hk => by subst hx; exact hch k e he hk
  have HH := Lib.hid hh
  rw [hx]
  have HE := Lib.hid hel
  clear hch hx hel hl hh
  go_enter Tryd.func44, Tryd.ntmps44
  go_wp2_with fail
  refine (HC0.out _ (by omega)).mono ?_
  rintro e w' ⟨rfl, rfl⟩
  go_wp2_with fail
  obtain ⟨wo, rfl⟩ : ∃ wo : World, wo = w' := ⟨_, rfl⟩
  go_loopg [3, 4] (xs.length) (fun gh v i wr => ∃ j : Nat, j ≤ xs.length ∧ gh = xs.length - j ∧ i = .int .i64 ((l.length : Int) - 3 * (j : Int)) ∧ Own wr wo.heap.size 3 v ((xs.take j).map I) ∧ Ch wo.heap.size none1 wo wr)
  case atStart => exact ⟨0, Nat.zero_le _, rfl, by go_num, Own.nil _ _ _, Ch.refl _ _ _⟩
  case round =>
    obtain ⟨j, hj, rfl, rfl, hown, hC⟩ := hrel
    have HO := Lib.hid hown; clear hown
    have HCH := Lib.hid hC; clear hC
    by_cases hlt : j < xs.length
    · have hpos : 3 * j < l.length := by have := HE.out; omega
      obtain ⟨en, hen⟩ : ∃ en, en = l.length - 3 * j := ⟨_, rfl⟩
      have hen2 : (l.length : Int) - 3 * (j : Int) = (en : Int) := by omega
      rw [hen2]
      have hen3 : 0 < en := by omega
      have hen4 : en ≤ l.length := by omega
      have hv := HH.out j en hen hlt
      have HV := Lib.hid hv; clear hv
      have HEN := Lib.hid hen; clear hen
      have HEN2 := Lib.hid hen2; clear hen2
      obtain ⟨lo, hlo⟩ : ∃ lo, lo = en - 3 := ⟨_, rfl⟩
      have hlo2 : max ((en : Int) - 3) 0 = (lo : Int) := by rw [Int.max_def]; split <;> omega
      have HLO := Lib.hid hlo
      have hlo3 : lo ≤ en := by omega
      have hlo4 : en ≤ lo + 3 := by omega
      clear hlo
      go_wp2_with fail
      clear hlo2
      go_loopg [5, 6] (en - lo) (fun gh d i wi => wr = wi ∧ ∃ k : Nat, lo ≤ k ∧ k ≤ en ∧ gh = en - k ∧ i = .int .i64 (k : Int) ∧ d = I (bv ((l.take k).drop lo)))
      case atStart => exact ⟨rfl, lo, Nat.le_refl _, by omega, rfl, rfl, by rw [List.drop_of_length_le (by rw [List.length_take]; omega)]; rfl⟩
      case round =>
        obtain ⟨rfl, k, hk1, hk2, rfl, rfl, rfl⟩ := hrel
        by_cases hke : k < en
        · have hkl : k < l.length := by omega
          have hst := drop_take_succ l lo k hk1 hkl
          have hsm := bv_small l lo k (by omega)
          have hb := bv_snoc ((l.take k).drop lo) l[k]
          rw [← hst] at hb
          obtain ⟨b, hb1⟩ : ∃ b, l[k] = b := ⟨_, rfl⟩
          obtain ⟨d, hd⟩ : ∃ d, bv ((l.take k).drop lo) = d := ⟨_, rfl⟩
          rw [hd, hb1] at hb
          rw [hd] at hsm ⊢
          have hbb := u8_lt b
          have hg : ∀ h', (ByteArray.mk l.toArray)[k]'h' = b := fun _ => hb1
          have HB := Lib.hid hb
          clear hb hd hst hb1
          go_wp2_with fail
          go_roundg (en - (k + 1))
          case measure => omega
          case rel => exact ⟨rfl, k + 1, by omega, by omega, rfl, by go_num, by rw [HB.out]; go_num⟩
        · obtain rfl : k = en := by omega
          have hv2 : bv ((l.take k).drop lo) = xs[j] := by rw [HLO.out]; exact HV.out
          rw [hv2]
          have hst : (xs.take j).map I ++ [I xs[j]] = (xs.take (j + 1)).map I := by rw [List.take_succ_eq_append_getElem hlt, List.map_append]; rfl
          obtain ⟨x, hx⟩ : ∃ x, xs[j] = x := ⟨_, rfl⟩
          rw [hx] at hst ⊢
          have HST := Lib.hid hst
          clear hx hst hv2
          have hsz := HCH.out.size
          go_wp2_with (at_builtin; refine wpList_append_up _ rfl _ _ 38 rfl wo.heap.size 3 i0 .i64 0 8 Tryd.underlying38 hi hz0 hz1 hz2 (by decide) _ _ rfl (HO.out.ch (Ch.alloc0 _)) ⟨wr.heap.size, 0, none⟩ 1 1 [I x] rfl rfl (new_cell _ _ _) (one_one _ _) (by rw [List.length_map, List.length_take]; omega) (size_alloc_le _ hsz) ?_; intro v' w1 hown' hC1)
          go_roundg (xs.length - (j + 1))
          case measure => omega
          case rel =>
            exact ⟨j + 1, by omega, rfl, by have := HEN2.out; have := HEN.out; go_num, by rw [← HST.out]; exact hown', (HCH.out.alloc hsz _).trans hC1⟩
    · have hje : j = xs.length := by omega
      have hneg : (l.length : Int) - 3 * (j : Int) ≤ 0 := by have := HE.out; omega
      have HJ := Lib.hid hje; clear hje hj
      go_wp2_with fail
      go_ret
      refine ⟨_, rfl, ?_, HCH.out⟩
      have h := HO.out
      rwa [HJ.out, List.take_length] at h
end Go.Proofs.YtcghnkdfhiancaaDoor
