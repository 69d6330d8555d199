/- Contracts of package nat's functions that read and write digits. -/
import Derived.Test.YtcghnkdfhiancaaDoorNc
import Derived.Deep.QuietTactic
import Derived.BigQuiet
import Derived.StillTailTactics
import Derived.Shelf.Spec.BitsCarry
namespace Go.Proofs.YtcghnkdfhiancaaDoor
open Go.RowKit
theorem getD_of_lt (xs : List Nat) (k : Nat) (h : k < xs.length) : xs.getD k 0 = xs[k] := by simp [h]
theorem getD_of_ge (xs : List Nat) (k : Nat) (h : xs.length ≤ k) : xs.getD k 0 = 0 := by simp [h]
theorem tlen_step (xs : List Nat) (k : Nat) (hk : k < xs.length) (h0 : xs[k] = 0) (ht : tlen xs ≤ k + 1) : tlen xs ≤ k := by
  rw [tlen_iff] at ht ⊢
  intro j hj
  rcases Nat.eq_or_lt_of_le hj with e | e
  · subst e; rw [getD_of_lt xs k hk, h0]
  · exact ht j e
theorem tlen_stop (xs : List Nat) (k : Nat) (hk : k < xs.length) (h0 : xs[k] ≠ 0) (ht : tlen xs ≤ k + 1) : tlen xs = k + 1 := by
  rcases Nat.lt_or_ge k (tlen xs) with h | h
  · omega
  · have := (tlen_iff xs k).1 h k (Nat.le_refl _)
    rw [getD_of_lt xs k hk] at this
    exact absurd this h0
def slLen : Value → Nat | .slice _ k _ => k | _ => 0
set_option maxHeartbeats 400000 in
theorem dtrim_any (p : Option Addr) (n cap : Nat) (xs : List Nat) (w : World) (hd : Dg w p n xs) (hc : n ≤ cap) (hm : cap ≤ maxLen) :
    Calls Tryd.prog 73 #[.slice p n cap] w fun e w' => e = .returned (.slice p (tlen xs) cap) ∧ w' = w := by
  unfold maxLen at hm
  have hxl := hd.len
  have htl := tlen_le xs
  rw [hxl] at htl
  have HX := Lib.hid hxl; clear hxl
  have HD := Lib.hid hd; clear hd
  go_enter Tryd.func73, Tryd.ntmps73
  go_wp2_with fail
  go_loop [0] (fun v => ∃ k : Nat, tlen xs ≤ k ∧ k ≤ n ∧ v = .slice p k cap) (fun v => slLen v)
  case atStart => exact ⟨n, htl, Nat.le_refl _, rfl⟩
  case round =>
    obtain ⟨k, hk1, hk2, rfl⟩ := hrel
    rcases k with _ | k
    · go_wp2_with fail
      go_ret
      refine ⟨?_, rfl⟩
      have : tlen xs = 0 := by omega
      rw [this]; rfl
    · have hkl : k < xs.length := by rw [HX.out]; omega
      obtain ⟨g, o, rfl⟩ := HD.out.addr (by omega)
      have hg := HD.out.get k (by omega)
      obtain ⟨x, hx⟩ : ∃ x, xs[k] = x := ⟨_, rfl⟩
      rw [hx] at hg
      by_cases h0 : x = 0
      · subst h0
        have ht := tlen_step xs k hkl hx hk1
        have HXX := Lib.hid hx; clear hx
        go_wp2_with fail
        go_round
        case rel => exact ⟨k, ht, by omega, rfl⟩
        case measure => simp [slLen]
      · have ht := tlen_stop xs k hkl (by rw [hx]; exact h0) hk1
        have HXX := Lib.hid hx; clear hx
        have HT := Lib.hid ht; clear ht
        have hb : (((x : Nat) : Int) == 0) = false := by simp; omega
        go_wp2_with fail
        go_ret
        exact ⟨by rw [HT.out]; rfl, rfl⟩
theorem add64_run (x y c : Nat) (hc : c ≤ 1) (w : World) :
    (callFunc 45 #[U x, U y, U c]).run Tryd.prog w = .ok (.value (.tuple #[U ((x + y + c) % D), U ((x + y + c) / D)])) w := by
  rw [run_callFunc_extern Tryd.func45 (by kernel_rfl) (by kernel_rfl) (by kernel_rfl) (e := add64Entry) (by kernel_rfl), run_add64 x y c (by omega) (by omega) (by omega) (by omega)]
  simp only [Result.andThen]
  congr 5 <;> (unfold D; omega)
theorem add64_run0 (x y : Nat) (w : World) :
    (callFunc 45 #[U x, U y, .int .u64 0]).run Tryd.prog w = .ok (.value (.tuple #[U ((x + y) % D), U ((x + y) / D)])) w :=
  add64_run x y 0 (by omega) w
theorem sub64_run (x y c : Nat) (hc : c ≤ 1) (w : World) :
    (callFunc 67 #[U x, U y, U c]).run Tryd.prog w = .ok (.value (.tuple #[U ((x + D - y - c) % D), U (if x < y + c then 1 else 0)])) w := by
  rw [run_callFunc_extern Tryd.func67 (by kernel_rfl) (by kernel_rfl) (by kernel_rfl) (e := sub64Entry) (by kernel_rfl), run_sub64 x y c hc]
  rfl
theorem mid_get (pre post : List Value) (zs rest : List Nat) (x o k : Nat) (ho : pre.length = o) (hk : zs.length = k) : (pre ++ (zs ++ x :: rest).map U ++ post)[o + k]? = some (U x) := by
  subst ho hk
  rw [List.append_assoc, List.getElem?_append_right (by omega), List.map_append, List.append_assoc, List.getElem?_append_right (by simp)]
  simp
theorem mid_set (pre post : List Value) (zs rest : List Nat) (x v o k : Nat) (ho : pre.length = o) (hk : zs.length = k) : (pre ++ (zs ++ x :: rest).map U ++ post).set (o + k) (U v) = pre ++ ((zs ++ [v]) ++ rest).map U ++ post := by
  subst ho hk
  rw [List.append_assoc, List.set_append_right _ _ (by omega), List.map_append, List.append_assoc, List.set_append_right _ _ (by simp)]
  simp
theorem add_step' (B P x y c s q dz dx dy : Nat) (h : dz + P * c = dx + dy) (hs : s + B * q = x + y + c) : (dz + P * s) + P * B * q = (dx + P * x) + (dy + P * y) := by
  have : P * (s + B * q) = P * (x + y + c) := by rw [hs]
  grind
theorem add_step (P x y c dz dx dy : Nat) (h : dz + P * c = dx + dy) : (dz + P * ((x + y + c) % D)) + P * D * ((x + y + c) / D) = (dx + P * x) + (dy + P * y) :=
  add_step' D P x y c _ _ dz dx dy h (Nat.mod_add_div (x + y + c) D)
theorem addWord_end (xs zs : List Nat) (k n c c' : Nat) (hn : xs.length = n) (hk : k ≤ n) (hz : zs.length = k) (hv : dv zs + D ^ k * c' = dv (xs.take k) + c) (he : c' = 0 ∨ k = n) :
    dv (zs ++ xs.drop k) + D ^ n * c' = dv xs + c := by
  have h1 := dv_take_drop xs k (by omega)
  rw [dv_append, hz, h1]
  rcases he with rfl | rfl
  · simp at hv ⊢; omega
  · rw [List.drop_of_length_le (by omega)]; simp [dv] at hv ⊢; omega
theorem wd_len (xs zs : List Nat) (k n : Nat) (hn : xs.length = n) (hk : k ≤ n) (hz : zs.length = k) : (zs ++ xs.drop k).length = n := by
  rw [List.length_append, List.length_drop]; omega
theorem ne_bool {c : Nat} (h : ¬ c = 0) : (((c : Nat) : Int) != 0) = true := by rw [bne_iff_ne]; omega
set_option maxRecDepth 100000 in
set_option maxHeartbeats 400000 in
theorem addWord_any (c n cap g o : Nat) (t : TypeId) (pre post : List Value) (xs : List Nat) (w : World) (hx : Dok xs) (hn : xs.length = n) (hm : n ≤ maxLen) (hc : c < D)
    (hB : Blk w g t (pre ++ xs.map U ++ post)) (ho : pre.length = o) :
    Calls Tryd.prog 69 #[.slice (some ⟨g, o, none⟩) n cap, U c] w fun e w' => ∃ c' zs, e = .returned (U c') ∧ c' < D ∧ Dok zs ∧ zs.length = n ∧ dv zs + D ^ n * c' = dv xs + c ∧
      Blk w' g t (pre ++ zs.map U ++ post) ∧ Ch w.heap.size (· = g) w w' := by
  unfold maxLen at hm
  have HN := Lib.hid hn; clear hn
  have HO := Lib.hid ho; clear ho
  go_enter Tryd.func69, Tryd.ntmps69
  go_wp2_with fail
  obtain ⟨wo, rfl⟩ : ∃ wo : World, wo = w := ⟨_, rfl⟩
  go_loopw [1, 5] (fun cv i wr => ∃ (k : Nat) (c' : Nat) (zs : List Nat), k ≤ n ∧ c' < D ∧ i = .int .i64 k ∧ cv = U c' ∧ Dok zs ∧ zs.length = k ∧ dv zs + D ^ k * c' = dv (xs.take k) + c ∧ Blk wr g t (pre ++ (zs ++ xs.drop k).map U ++ post) ∧ Ch wo.heap.size (· = g) wo wr)
    (fun _ i _ => n - (intOf i).toNat)
  case atStart => exact ⟨0, c, [], Nat.zero_le _, hc, rfl, rfl, Dok.nil, rfl, by simp [dv], by simpa using hB, Ch.refl _ _ _⟩
  case round =>
    obtain ⟨k, c', zs, hk, hc', rfl, rfl, hz, hzl, hzv, hB', hC'⟩ := hrel
    have HZ := Lib.hid hzl; clear hzl
    have HV := Lib.hid hzv; clear hzv
    by_cases h0 : c' = 0
    · subst h0
      have hend := addWord_end xs zs k n c 0 HN.out hk HZ.out HV.out (.inl rfl)
      have HE := Lib.hid hend; clear hend
      by_cases hlt : k < n
      all_goals
        go_wp2_with fail
        go_ret
        exact ⟨0, _, rfl, D_pos, hz.append (hx.drop k), wd_len xs zs k n HN.out hk HZ.out, HE.out, hB', hC'⟩
    · by_cases hlt : k < n
      · have hb := ne_bool h0
        have hkl : k < xs.length := by rw [HN.out]; exact hlt
        have hdr := List.drop_eq_getElem_cons hkl
        have hts := dv_take_succ xs k hkl
        obtain ⟨x, hx1⟩ : ∃ x, xs[k] = x := ⟨_, rfl⟩
        rw [hx1] at hdr hts
        rw [hdr] at hB'
        have HT := Lib.hid hts; clear hts
        have HX := Lib.hid hx1; clear hx1 hdr
        have cl : wr.cell? ⟨g, o + k, none⟩ = some (U x) := by rw [hB'.cell]; exact mid_get pre post zs _ x o k HO.out HZ.out
        have f := hB'.frozen (o + k)
        have hadd := add64_run0 x c'
        have hst := add_step (D ^ k) x 0 c' (dv zs) (dv (xs.take k)) c HV.out
        have hsm := Nat.mod_lt (x + 0 + c') D_pos
        have hq : (x + 0 + c') / D ≤ 1 := by
          have h1 : x < D := by rw [← HX.out]; exact hx.get k hkl
          have : (x + 0 + c') < 2 * D := by omega
          have := Nat.div_lt_of_lt_mul (m := x + 0 + c') (n := D) (k := 2) (by omega)
          omega
        rw [Nat.add_zero] at hst hsm hq
        generalize (x + c') % D = s at *
        generalize (x + c') / D = q at *
        have HS := Lib.hid hst; clear hst
        go_wp2_with fail
        go_roundw
        case rel =>
          refine ⟨k + 1, q, zs ++ [s], by omega, by unfold D; omega, by go_num, rfl, hz.append (Dok.cons hsm Dok.nil), by rw [List.length_append, HZ.out]; rfl, ?_, ?_, hC'.setCell (.inr rfl) _⟩
          · rw [dv_snoc, HZ.out, HT.out, Nat.pow_succ]
            have := HS.out
            omega
          · exact (hB'.set (o + k) (U s)).cast (mid_set pre post zs _ x s o k HO.out HZ.out)
        case measure => simp [intOf]; omega
      · have hkn : k = n := by omega
        have hend := addWord_end xs zs k n c c' HN.out hk HZ.out HV.out (.inr hkn)
        have HE := Lib.hid hend; clear hend
        clear hkn
        go_wp2_with fail
        go_ret
        exact ⟨c', _, rfl, hc', hz.append (hx.drop k), wd_len xs zs k n HN.out hk HZ.out, HE.out, hB', hC'⟩
end Go.Proofs.YtcghnkdfhiancaaDoor
