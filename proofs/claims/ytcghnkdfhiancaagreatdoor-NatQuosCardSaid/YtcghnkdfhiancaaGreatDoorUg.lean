/- The reference implementation's times and minus. -/
import Derived.Test.YtcghnkdfhiancaaGreatDoorUe
namespace Go.Proofs.YtcghnkdfhiancaaGreatDoor
open Go.RowKit
/-- A slice that reads as the digits of N. -/
def RdE (w : World) (v : Value) (N : Nat) : Prop := ∃ p n cap, v = .slice p n cap ∧ n ≤ cap ∧ cap ≤ maxLen ∧ (p = none → cap = 0) ∧ Di w p n (es N)
theorem RdE.on {w w' : World} {v : Value} {N : Nat} (h : RdE w v N) (hC : Ch w.heap.size none1 w w') : RdE w' v N := by
  obtain ⟨p, n, cap, hv, h1, h2, h0, h3⟩ := h
  exact ⟨p, n, cap, hv, h1, h2, h0, h3.on hC⟩
theorem Own.rd {w : World} {B : Nat} {v : Value} {N : Nat} (h : Own w B 3 v ((es N).map I)) : RdE w v N := by
  obtain ⟨p, cap, hv, h1, h2, h0, h3, _⟩ := Own.di h (eok_es N)
  exact ⟨p, _, cap, hv, h1, h2, h0, h3⟩
theorem rof_rd (a : List UInt8) (w : World) (ha : a.length ≤ 100000000000) :
    Calls Tryz.prog 25 #[S a] w fun e w' => ∃ v, e = .returned v ∧ RdE w' v (bv a) ∧ Ch w.heap.size none1 w w' :=
  (rof_any a w ha).mono fun _ _ ⟨v, he, ho, hC⟩ => ⟨v, he, ho.rd, hC⟩
theorem rnumber_rd (v : Value) (N : Nat) (w : World) (h : RdE w v N) (hn : (es N).length ≤ 33333333333) :
    Calls Tryz.prog 26 #[v] w (Yld w (S (nb N))) := by
  obtain ⟨p, n, cap, rfl, h1, h2, h0, h3⟩ := h
  have := rnumber_any p n cap (es N) w h3 (by rw [← h3.len]; exact hn)
  rwa [ev_es] at this
/-- Trimmed digits. -/
theorem rtrim_rd (p : Option Addr) (n cap : Nat) (xs : List Nat) (w : World) (hd : Di w p n xs) (hc : n ≤ cap) (hm : cap ≤ maxLen) (h0 : p = none → cap = 0) :
    Calls Tryz.prog 35 #[.slice p n cap] w fun e w' => ∃ v, e = .returned v ∧ RdE w' v (ev xs) ∧ w' = w :=
  (rtrim_any p n cap xs w hd hc hm).mono fun _ _ ⟨he, hw⟩ => by
    subst hw
    have hle : ulen xs ≤ n := by rw [← hd.len]; exact ulen_le xs
    have h := hd.take (ulen xs) hle
    rw [trimE xs hd.lt] at h
    exact ⟨_, he, ⟨p, _, cap, rfl, by omega, hm, h0, h⟩, rfl⟩
theorem small_yes (a : List UInt8) (k : Nat) (w : World) (ha : a.length ≤ 1152921504606846975) (hk : k ≤ 7) (h : bv a < 256 ^ k) :
    Calls Tryz.prog 24 #[S a, .int .i64 (k : Int)] w fun e w' => e = .returned (.tuple #[.int .i64 (bv a : Nat), .bool true]) ∧ w' = w := by
  have h7 : bv a < 256 ^ 7 := Nat.lt_of_lt_of_le h (Nat.pow_le_pow_right (by omega) hk)
  have hl := (trim_len a k).2 h
  have hb : ¬ (k : Int) < ((trimL a).length : Int) := by omega
  have HI := Lib.hid (fun w => refInt_yes a w ha (by omega))
  have HC0 := Lib.hid (fun w => canon_any a w ha)
  clear h h7 hl ha
  go_enter Tryz.func24, Tryz.ntmps24
  go_wp2_with (first
    | (go_at_call 16; with_reducible refine (HC0.out _).mono ?_; rintro e w' ⟨rfl, rfl⟩)
    | (go_at_call 42; with_reducible refine (HI.out _).mono ?_; rintro e w' ⟨rfl, rfl⟩))
  go_ret2
  exact ⟨rfl, rfl⟩
theorem small_no (a : List UInt8) (k : Nat) (w : World) (ha : a.length ≤ 1152921504606846975) (_hk : k ≤ 7) (h : ¬ bv a < 256 ^ k) :
    Calls Tryz.prog 24 #[S a, .int .i64 (k : Int)] w fun e w' => e = .returned (.tuple #[.int .i64 0, .bool false]) ∧ w' = w := by
  have hl : ¬ (trimL a).length ≤ k := fun q => h ((trim_len a k).1 q)
  have hb : (k : Int) < ((trimL a).length : Int) := by omega
  have HC0 := Lib.hid (fun w => canon_any a w ha)
  clear h hl ha
  go_enter Tryz.func24, Tryz.ntmps24
  go_wp2_with (first
    | (go_at_call 16; with_reducible refine (HC0.out _).mono ?_; rintro e w' ⟨rfl, rfl⟩))
  go_ret2
  exact ⟨rfl, rfl⟩
theorem rem24 (s : Nat) : (s : Int).tmod 16777216 = ((s % E24 : Nat) : Int) := by
  rw [E24_eq, Int.tmod_eq_emod_of_nonneg (by omega)]; omega
theorem quo24 (s : Nat) : (s : Int).tdiv 16777216 = ((s / E24 : Nat) : Int) := by
  rw [E24_eq, Int.tdiv_eq_ediv_of_nonneg (by omega)]; omega
end Go.Proofs.YtcghnkdfhiancaaGreatDoor
namespace Go.Proofs.YtcghnkdfhiancaaGreatDoor
open Go.RowKit
set_option maxRecDepth 100000 in
set_option maxHeartbeats 1600000 in
theorem rtimes_any (v : Value) (U d : Nat) (w : World) (hv : RdE w v U) (hd : d < E24) (hn : (es U).length ≤ 10000) :
    Calls Tryz.prog 38 #[v, I d] w fun e w' => ∃ v', e = .returned v' ∧ RdE w' v' (U * d) ∧ Ch w.heap.size none1 w w' := by
  obtain ⟨i0, hi, hz0, hz1, hz2⟩ := info_parts Tryz.info3
  obtain ⟨p, n, cap, rfl, h1, h2, _, h3⟩ := hv
  have hxl := h3.len
  have hxe := ev_es U
  obtain ⟨xs, hxs⟩ : ∃ xs, es U = xs := ⟨_, rfl⟩
  rw [hxs] at hxl h3 hn hxe
  have HX := Lib.hid hxl
  have HD := Lib.hid h3
  have HEV := Lib.hid hxe
  have hn2 : n ≤ 10000 := by omega
  unfold E24 at hd
  clear hxl h3 hxs hn hxe
  go_enter Tryz.func38, Tryz.ntmps38
  go_wp2_with fail
  obtain ⟨wo, rfl⟩ : ∃ wo : World, wo = w := ⟨_, rfl⟩
  go_loopw [5, 6, 7] (fun o c i wr => ∃ (k cN : Nat) (zs : List Nat), k ≤ n ∧ i = .int .i64 (k : Int) ∧ c = I cN ∧ cN < 16777216 ∧ zs.length = k ∧ Eok zs ∧ Own wr wo.heap.size 3 o (zs.map I) ∧
      ev zs + E24 ^ k * cN = ev (xs.take k) * d ∧ Ch wo.heap.size none1 wo wr) (fun _ _ i _ => n - (intOf i).toNat)
  case atStart => exact ⟨0, 0, [], Nat.zero_le _, rfl, rfl, by omega, rfl, Eok.nil, Own.nil _ _ _, by simp [ev], Ch.refl _ _ _⟩
  case round =>
    obtain ⟨k, c, zs, hk, rfl, rfl, hc, hzl, hz, hown, hzv, hC⟩ := hrel
    have HZ := Lib.hid hzl; clear hzl
    have HZK := Lib.hid hz; clear hz
    have HO := Lib.hid hown; clear hown
    have HZV := Lib.hid hzv; clear hzv
    have HCH := Lib.hid hC; clear hC
    have HSZ := Lib.hid HCH.out.size
    by_cases hlt : k < n
    · obtain ⟨g, rfl⟩ := HD.out.addr (by omega)
      have hg := (HD.out.on HCH.out).get0 k (by omega)
      have hkx : k < xs.length := by rw [HX.out]; omega
      have hts := ev_take_succ xs k hkx
      have hb := HD.out.lt.get k hkx
      obtain ⟨x, hx⟩ : ∃ x, xs[k] = x := ⟨_, rfl⟩
      rw [hx] at hg hb hts
      unfold E24 at hb
      have hmul : x * d ≤ 16777215 * 16777215 := Nat.mul_le_mul (by omega) (by omega)
      have hput := times_put zs k c x d (ev (xs.take k)) HZ.out HZV.out
      rw [← hts] at hput
      obtain ⟨m, hm⟩ : ∃ m, x * d = m := ⟨_, rfl⟩
      have hmi : (x : Int) * (d : Int) = (m : Int) := by rw [← hm, Int.natCast_mul]
      rw [hm] at hmul hput
      have hmb : m ≤ 281474943156225 := by omega
      have hr := rem24 (m + c)
      have hq := quo24 (m + c)
      have hdiv : (m + c) / E24 < 16777216 := by rw [E24_eq, Nat.div_lt_iff_lt_mul (by omega)]; omega
      have hmod : (m + c) % E24 < E24 := Nat.mod_lt _ E24_pos
      obtain ⟨rr, hrr⟩ : ∃ rr, (m + c) % E24 = rr := ⟨_, rfl⟩
      obtain ⟨qq, hqq⟩ : ∃ qq, (m + c) / E24 = qq := ⟨_, rfl⟩
      rw [hrr] at hput hr hmod
      rw [hqq] at hput hq hdiv
      rw [Int.natCast_add] at hr hq
      have HP := Lib.hid hput
      have HMD := Lib.hid hmod
      have HDV := Lib.hid hdiv
      clear hput hts hx hmod hm hmul hrr hqq
      go_wp2_with (at_builtin; refine wpList_append_up _ rfl _ _ 46 rfl wo.heap.size 3 i0 .i64 0 8 Tryz.underlying46 hi hz0 hz1 hz2 (by decide) _ _ rfl (HO.out.ch (Ch.alloc0 _)) ⟨wr.heap.size, 0, none⟩ 1 1 [_] rfl rfl (new_cell _ _ _) (one_one _ _) (by rw [List.length_map, HZ.out]; omega) (size_alloc_le _ HSZ.out) ?_; intro v' w1 hown' hC1)
      go_roundw
      case rel =>
        refine ⟨k + 1, qq, zs ++ [rr], by omega, by go_num, rfl, HDV.out, by rw [List.length_append, HZ.out]; rfl, HZK.out.append (Eok.cons HMD.out Eok.nil), ?_, HP.out, (HCH.out.alloc HSZ.out _).trans hC1⟩
        rw [List.map_append]; exact hown'
      case measure => simp [intOf]; omega
    · obtain rfl : k = n := by omega
      go_wp2_with (first
        | (at_builtin; refine wpList_append_up _ rfl _ _ 46 rfl wo.heap.size 3 i0 .i64 0 8 Tryz.underlying46 hi hz0 hz1 hz2 (by decide) _ _ rfl (HO.out.ch (Ch.alloc0 _)) ⟨wr.heap.size, 0, none⟩ 1 1 [_] rfl rfl (new_cell _ _ _) (one_one _ _) (by rw [List.length_map, HZ.out]; omega) (size_alloc_le _ HSZ.out) ?_; intro v' w1 hown' hC1))
      have hok : Eok (zs ++ [c]) := HZK.out.append (Eok.cons (by unfold E24; exact hc) Eok.nil)
      have hev : ev (zs ++ [c]) = U * d := by
        have h := HZV.out
        rw [← HX.out, List.take_length, HEV.out] at h
        rw [ev_snoc, HZ.out, ← HX.out, h]
      have hown2 : Own w1 wo.heap.size 3 v' ((zs ++ [c]).map I) := by rw [List.map_append]; exact hown'
      obtain ⟨p', cap', rfl, q1, q2, q0, qd, _⟩ := Own.di hown2 hok
      refine (rtrim_rd p' _ cap' (zs ++ [c]) _ qd q1 q2 q0).mono ?_
      rw [hev]
      have HCC := Lib.hid ((HCH.out.alloc HSZ.out _).trans hC1)
      clear hown2 hown' hok hev qd hC1
      rintro e w2 ⟨v2, rfl, hr2, rfl⟩
      have HR2 := Lib.hid hr2
      clear hr2
      go_wp2_with fail
      go_ret
      exact ⟨_, rfl, HR2.out, HCC.out⟩
end Go.Proofs.YtcghnkdfhiancaaGreatDoor
