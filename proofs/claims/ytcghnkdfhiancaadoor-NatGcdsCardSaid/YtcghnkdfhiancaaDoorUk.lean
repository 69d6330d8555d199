/- The reference implementation's minus. -/
import Derived.Test.YtcghnkdfhiancaaDoorUe
namespace Go.Proofs.YtcghnkdfhiancaaDoor
open Go.RowKit
/-- A slice that reads as the digits of N. -/
def RdE (w : World) (v : Value) (N : Nat) : Prop := ∃ p n cap, v = .slice p n cap ∧ n ≤ cap ∧ cap ≤ maxLen ∧ (p = none → cap = 0) ∧ Di w p n (es N)
theorem RdE.on {w w' : World} {v : Value} {N : Nat} (h : RdE w v N) (hC : Ch w.heap.size none1 w w') : RdE w' v N := by
  obtain ⟨p, n, cap, hv, h1, h2, h0, h3⟩ := h
  exact ⟨p, n, cap, hv, h1, h2, h0, h3.on hC⟩
theorem Own.rd {w : World} {B : Nat} {v : Value} {N : Nat} (h : Own w B 3 v ((es N).map I)) : RdE w v N := by
  obtain ⟨p, cap, hv, h1, h2, h0, h3, _⟩ := Own.di h (eok_es N)
  exact ⟨p, _, cap, hv, h1, h2, h0, h3⟩
theorem rof_rd (a : List UInt8) (w : World) (ha : a.length ≤ 100000000000) :
    Calls Tryd.prog 44 #[S a] w fun e w' => ∃ v, e = .returned v ∧ RdE w' v (bv a) ∧ Ch w.heap.size none1 w w' :=
  (rof_any a w ha).mono fun _ _ ⟨v, he, ho, hC⟩ => ⟨v, he, ho.rd, hC⟩
theorem rnumber_rd (v : Value) (N : Nat) (w : World) (h : RdE w v N) (hn : (es N).length ≤ 33333333333) :
    Calls Tryd.prog 42 #[v] w (Yld w (S (nb N))) := by
  obtain ⟨p, n, cap, rfl, h1, h2, h0, h3⟩ := h
  have := rnumber_any p n cap (es N) w h3 (by rw [← h3.len]; exact hn)
  rwa [ev_es] at this
/-- Trimmed digits. -/
theorem rtrim_rd (p : Option Addr) (n cap : Nat) (xs : List Nat) (w : World) (hd : Di w p n xs) (hc : n ≤ cap) (hm : cap ≤ maxLen) (h0 : p = none → cap = 0) :
    Calls Tryd.prog 68 #[.slice p n cap] w fun e w' => ∃ v, e = .returned v ∧ RdE w' v (ev xs) ∧ w' = w :=
  (rtrim_any p n cap xs w hd hc hm).mono fun _ _ ⟨he, hw⟩ => by
    subst hw
    have hle : ulen xs ≤ n := by rw [← hd.len]; exact ulen_le xs
    have h := hd.take (ulen xs) hle
    rw [trimE xs hd.lt] at h
    exact ⟨_, he, ⟨p, _, cap, rfl, by omega, hm, h0, h⟩, rfl⟩
theorem small_yes (a : List UInt8) (k : Nat) (w : World) (ha : a.length ≤ 1152921504606846975) (hk : k ≤ 7) (h : bv a < 256 ^ k) :
    Calls Tryd.prog 47 #[S a, .int .i64 (k : Int)] w fun e w' => e = .returned (.tuple #[.int .i64 (bv a : Nat), .bool true]) ∧ w' = w := by
  have h7 : bv a < 256 ^ 7 := Nat.lt_of_lt_of_le h (Nat.pow_le_pow_right (by omega) hk)
  have hl := (trim_len a k).2 h
  have hb : ¬ (k : Int) < ((trimL a).length : Int) := by omega
  have HI := Lib.hid (fun w => refInt_yes a w ha (by omega))
  have HC0 := Lib.hid (fun w => canon_any a w ha)
  clear h h7 hl ha
  go_enter Tryd.func47, Tryd.ntmps47
  go_wp2_with (first
    | (go_at_call 33; with_reducible refine (HC0.out _).mono ?_; rintro e w' ⟨rfl, rfl⟩)
    | (go_at_call 30; with_reducible refine (HI.out _).mono ?_; rintro e w' ⟨rfl, rfl⟩))
  go_ret2
  exact ⟨rfl, rfl⟩
theorem small_no (a : List UInt8) (k : Nat) (w : World) (ha : a.length ≤ 1152921504606846975) (_hk : k ≤ 7) (h : ¬ bv a < 256 ^ k) :
    Calls Tryd.prog 47 #[S a, .int .i64 (k : Int)] w fun e w' => e = .returned (.tuple #[.int .i64 0, .bool false]) ∧ w' = w := by
  have hl : ¬ (trimL a).length ≤ k := fun q => h ((trim_len a k).1 q)
  have hb : (k : Int) < ((trimL a).length : Int) := by omega
  have HC0 := Lib.hid (fun w => canon_any a w ha)
  clear h hl ha
  go_enter Tryd.func47, Tryd.ntmps47
  go_wp2_with (first
    | (go_at_call 33; with_reducible refine (HC0.out _).mono ?_; rintro e w' ⟨rfl, rfl⟩))
  go_ret2
  exact ⟨rfl, rfl⟩
theorem rem24 (s : Nat) : (s : Int).tmod 16777216 = ((s % E24 : Nat) : Int) := by
  rw [E24_eq, Int.tmod_eq_emod_of_nonneg (by omega)]; omega
theorem quo24 (s : Nat) : (s : Int).tdiv 16777216 = ((s / E24 : Nat) : Int) := by
  rw [E24_eq, Int.tdiv_eq_ediv_of_nonneg (by omega)]; omega
end Go.Proofs.YtcghnkdfhiancaaDoor
namespace Go.Proofs.YtcghnkdfhiancaaDoor
open Go.RowKit
set_option maxRecDepth 100000 in
set_option maxHeartbeats 1600000 in
theorem rtimes_any (v : Value) (U d : Nat) (w : World) (hv : RdE w v U) (hd : d < E24) (hn : (es U).length ≤ 10000) :
    Calls Tryd.prog 79 #[v, I d] w fun e w' => ∃ v', e = .returned v' ∧ RdE w' v' (U * d) ∧ Ch w.heap.size none1 w w' := by
  obtain ⟨i0, hi, hz0, hz1, hz2⟩ := info_parts Tryd.info3
  obtain ⟨p, n, cap, rfl, h1, h2, _, h3⟩ := hv
  have hxl := h3.len
  have hxe := ev_es U
  obtain ⟨xs, hxs⟩ : ∃ xs, es U = xs := ⟨_, rfl⟩
  rw [hxs] at hxl h3 hn hxe
  have HX := Lib.hid hxl
  have HD := Lib.hid h3
  have HEV := Lib.hid hxe
  have hn2 : n ≤ 10000 := by omega
  unfold E24 at hd
  clear hxl h3 hxs hn hxe
  go_enter Tryd.func79, Tryd.ntmps79
  go_wp2_with fail
  obtain ⟨wo, rfl⟩ : ∃ wo : World, wo = w := ⟨_, rfl⟩
  go_loopw [5, 6, 7] (fun o c i wr => ∃ (k cN : Nat) (zs : List Nat), k ≤ n ∧ i = .int .i64 (k : Int) ∧ c = I cN ∧ cN < 16777216 ∧ zs.length = k ∧ Eok zs ∧ Own wr wo.heap.size 3 o (zs.map I) ∧
      ev zs + E24 ^ k * cN = ev (xs.take k) * d ∧ Ch wo.heap.size none1 wo wr) (fun _ _ i _ => n - (intOf i).toNat)
  case atStart => exact ⟨0, 0, [], Nat.zero_le _, rfl, rfl, by omega, rfl, Eok.nil, Own.nil _ _ _, by simp [ev], Ch.refl _ _ _⟩
  case round =>
    obtain ⟨k, c, zs, hk, rfl, rfl, hc, hzl, hz, hown, hzv, hC⟩ := hrel
    have HZ := Lib.hid hzl; clear hzl
    have HZK := Lib.hid hz; clear hz
    have HO := Lib.hid hown; clear hown
    have HZV := Lib.hid hzv; clear hzv
    have HCH := Lib.hid hC; clear hC
    have HSZ := Lib.hid HCH.out.size
    by_cases hlt : k < n
    · obtain ⟨g, rfl⟩ := HD.out.addr (by omega)
      have hg := (HD.out.on HCH.out).get0 k (by omega)
      have hkx : k < xs.length := by rw [HX.out]; omega
      have hts := ev_take_succ xs k hkx
      have hb := HD.out.lt.get k hkx
      obtain ⟨x, hx⟩ : ∃ x, xs[k] = x := ⟨_, rfl⟩
      rw [hx] at hg hb hts
      unfold E24 at hb
      have hmul : x * d ≤ 16777215 * 16777215 := Nat.mul_le_mul (by omega) (by omega)
      have hput := times_put zs k c x d (ev (xs.take k)) HZ.out HZV.out
      rw [← hts] at hput
      obtain ⟨m, hm⟩ : ∃ m, x * d = m := ⟨_, rfl⟩
      have hmi : (x : Int) * (d : Int) = (m : Int) := by rw [← hm, Int.natCast_mul]
      rw [hm] at hmul hput
      have hmb : m ≤ 281474943156225 := by omega
      have hr := rem24 (m + c)
      have hq := quo24 (m + c)
      have hdiv : (m + c) / E24 < 16777216 := by rw [E24_eq, Nat.div_lt_iff_lt_mul (by omega)]; omega
      have hmod : (m + c) % E24 < E24 := Nat.mod_lt _ E24_pos
      obtain ⟨rr, hrr⟩ : ∃ rr, (m + c) % E24 = rr := ⟨_, rfl⟩
      obtain ⟨qq, hqq⟩ : ∃ qq, (m + c) / E24 = qq := ⟨_, rfl⟩
      rw [hrr] at hput hr hmod
      rw [hqq] at hput hq hdiv
      rw [Int.natCast_add] at hr hq
      have HP := Lib.hid hput
      have HMD := Lib.hid hmod
      have HDV := Lib.hid hdiv
      clear hput hts hx hmod hm hmul hrr hqq
      go_wp2_with (at_builtin; refine wpList_append_up _ rfl _ _ 38 rfl wo.heap.size 3 i0 .i64 0 8 Tryd.underlying38 hi hz0 hz1 hz2 (by decide) _ _ rfl (HO.out.ch (Ch.alloc0 _)) ⟨wr.heap.size, 0, none⟩ 1 1 [_] rfl rfl (new_cell _ _ _) (one_one _ _) (by rw [List.length_map, HZ.out]; omega) (size_alloc_le _ HSZ.out) ?_; intro v' w1 hown' hC1)
      go_roundw
      case rel =>
        refine ⟨k + 1, qq, zs ++ [rr], by omega, by go_num, rfl, HDV.out, by rw [List.length_append, HZ.out]; rfl, HZK.out.append (Eok.cons HMD.out Eok.nil), ?_, HP.out, (HCH.out.alloc HSZ.out _).trans hC1⟩
        rw [List.map_append]; exact hown'
      case measure => simp [intOf]; omega
    · obtain rfl : k = n := by omega
      go_wp2_with (first
        | (at_builtin; refine wpList_append_up _ rfl _ _ 38 rfl wo.heap.size 3 i0 .i64 0 8 Tryd.underlying38 hi hz0 hz1 hz2 (by decide) _ _ rfl (HO.out.ch (Ch.alloc0 _)) ⟨wr.heap.size, 0, none⟩ 1 1 [_] rfl rfl (new_cell _ _ _) (one_one _ _) (by rw [List.length_map, HZ.out]; omega) (size_alloc_le _ HSZ.out) ?_; intro v' w1 hown' hC1))
      have hok : Eok (zs ++ [c]) := HZK.out.append (Eok.cons (by unfold E24; exact hc) Eok.nil)
      have hev : ev (zs ++ [c]) = U * d := by
        have h := HZV.out
        rw [← HX.out, List.take_length, HEV.out] at h
        rw [ev_snoc, HZ.out, ← HX.out, h]
      have hown2 : Own w1 wo.heap.size 3 v' ((zs ++ [c]).map I) := by rw [List.map_append]; exact hown'
      obtain ⟨p', cap', rfl, q1, q2, q0, qd, _⟩ := Own.di hown2 hok
      refine (rtrim_rd p' _ cap' (zs ++ [c]) _ qd q1 q2 q0).mono ?_
      rw [hev]
      have HCC := Lib.hid ((HCH.out.alloc HSZ.out _).trans hC1)
      clear hown2 hown' hok hev qd hC1
      rintro e w2 ⟨v2, rfl, hr2, rfl⟩
      have HR2 := Lib.hid hr2
      clear hr2
      go_wp2_with fail
      go_ret
      exact ⟨_, rfl, HR2.out, HCC.out⟩
end Go.Proofs.YtcghnkdfhiancaaDoor
namespace Go.Proofs.YtcghnkdfhiancaaDoor
open Go.RowKit
theorem es_lt_of_len {U V : Nat} (h : (es U).length < (es V).length) : U < V := by
  have h3 := (es_len U (es U).length).1 (Nat.le_refl _)
  have h4 := es_len V (es U).length
  omega
theorem cmp_topE (xs ys : List Nat) (k : Nat) (hx : Eok xs) (hkx : k < xs.length) (hky : k < ys.length) (hd : xs.drop (k + 1) = ys.drop (k + 1)) (h : xs[k] < ys[k]) : ev xs < ev ys := by
  have h1 := ev_take_drop xs (k + 1) (by omega)
  have h2 := ev_take_drop ys (k + 1) (by omega)
  have h3 := ev_take_succ xs k hkx
  have h4 := ev_take_succ ys k hky
  have h5 := ev_lt (hx.take k)
  rw [List.length_take, Nat.min_eq_left (by omega)] at h5
  have h6 := Nat.mul_le_mul_left (E24 ^ k) (show xs[k] + 1 ≤ ys[k] from h)
  rw [Nat.mul_add] at h6
  rw [hd] at h1
  omega
theorem ret_int_v {k : IntKind} {a b : Int} (h : a = b) : Value.int k a = Value.int k b := by rw [h]
def Sgn (r : Int) (U V : Nat) : Prop := (r ≤ 0 ↔ U ≤ V) ∧ (0 ≤ r ↔ V ≤ U)
theorem Sgn.lt {r : Int} {U V : Nat} (hr : r < 0) (h : U < V) : Sgn r U V := ⟨by omega, by omega⟩
theorem Sgn.gt {r : Int} {U V : Nat} (hr : 0 < r) (h : V < U) : Sgn r U V := ⟨by omega, by omega⟩
theorem Sgn.eq {U V : Nat} (h : U = V) : Sgn 0 U V := ⟨by omega, by omega⟩
set_option maxRecDepth 100000 in
set_option maxHeartbeats 1600000 in
theorem rcmp_any (v1 v2 : Value) (U V : Nat) (w : World) (h1 : RdE w v1 U) (h2 : RdE w v2 V) (hn1 : (es U).length ≤ 10000) (hn2 : (es V).length ≤ 10000) :
    Calls Tryd.prog 77 #[v1, v2] w fun e w' => ∃ r : Int, e = .returned (.int .i64 r) ∧ Sgn r U V ∧ Ch w.heap.size none1 w w' := by
  obtain ⟨p, n, cap, rfl, _, _, _, hx⟩ := h1
  obtain ⟨q, m, capy, rfl, _, _, _, hy⟩ := h2
  have hxl := hx.len
  have hyl := hy.len
  by_cases he : n = m
  · subst he
    have hxe := ev_es U
    have hye := ev_es V
    obtain ⟨xs, hxs⟩ : ∃ xs, es U = xs := ⟨_, rfl⟩
    obtain ⟨ys, hys⟩ : ∃ ys, es V = ys := ⟨_, rfl⟩
    rw [hxs] at hxl hx hxe hn1
    rw [hys] at hyl hy hye
    have hn : n ≤ 10000 := by omega
    have HXL := Lib.hid hxl
    have HYL := Lib.hid hyl
    have HX := Lib.hid hx
    have HY := Lib.hid hy
    have HXE := Lib.hid hxe
    have HYE := Lib.hid hye
    clear hxl hyl hx hy hxe hye hxs hys hn1 hn2
    go_enter Tryd.func77, Tryd.ntmps77
    go_wp2_with fail
    obtain ⟨wo, rfl⟩ : ∃ wo : World, wo = w := ⟨_, rfl⟩
    go_loopw [5] (fun i wr => ∃ (k : Nat), k ≤ n ∧ i = .int .i64 ((k : Int) - 1) ∧ xs.drop k = ys.drop k ∧ Ch wo.heap.size none1 wo wr)
      (fun i _ => (intOf i + 1).toNat)
    case atStart => exact ⟨n, Nat.le_refl _, rfl, by rw [List.drop_of_length_le (by rw [HXL.out]; exact Nat.le_refl _), List.drop_of_length_le (by rw [HYL.out]; exact Nat.le_refl _)], Ch.refl _ _ _⟩
    case round =>
      obtain ⟨k, hk, rfl, hdr, hC'⟩ := hrel
      have HDR := Lib.hid hdr; clear hdr
      rcases k with _ | k
      · have hxy : U = V := by
          have := HDR.out
          rw [List.drop_zero, List.drop_zero] at this
          rw [← HXE.out, ← HYE.out, this]
        have HC := Lib.hid hxy; clear hxy
        go_wp2_with fail
        go_ret
        exact ⟨_, rfl, Sgn.eq HC.out, hC'⟩
      · obtain ⟨gx, rfl⟩ := HX.out.addr (by omega)
        obtain ⟨gy, rfl⟩ := HY.out.addr (by omega)
        have hxg := (HX.out.on hC').get0 k (by omega)
        have hyg := (HY.out.on hC').get0 k (by omega)
        have hkx : k < xs.length := by rw [HXL.out]; omega
        have hky : k < ys.length := by rw [HYL.out]; omega
        have ht1 := cmp_topE xs ys k HX.out.lt hkx hky HDR.out
        have ht2 := cmp_topE ys xs k HY.out.lt hky hkx HDR.out.symm
        have ht3 := drop_eq_step xs ys k hkx hky HDR.out
        have hbx := HX.out.lt.get k hkx
        have hby := HY.out.lt.get k hky
        rw [HXE.out, HYE.out] at ht1 ht2
        obtain ⟨x, hx1⟩ : ∃ x, xs[k] = x := ⟨_, rfl⟩
        obtain ⟨y, hy1⟩ : ∃ y, ys[k] = y := ⟨_, rfl⟩
        rw [hx1] at hxg hbx
        rw [hy1] at hyg hby
        rw [hx1, hy1] at ht1 ht2 ht3
        unfold E24 at hbx hby
        clear hx1 hy1
        have e1 : ((k : Int) + 1 - 1) = (k : Int) := by omega
        by_cases hxy : x = y
        · subst hxy
          have hdr := ht3 rfl
          have HD2 := Lib.hid hdr; clear hdr ht1 ht2 ht3
          go_wp2_with fail
          go_quiet (fail)
          go_wp2_with fail
          go_roundw
          case rel => exact ⟨k, by omega, by go_num, HD2.out, hC'.drewN _⟩
          case measure => simp [intOf]
        · have hc : Sgn ((x : Int) - (y : Int)) U V := by
            rcases Nat.lt_or_gt_of_ne hxy with h | h
            · exact Sgn.lt (by omega) (ht1 h)
            · exact Sgn.gt (by omega) (ht2 h)
          have HC := Lib.hid hc; clear hc ht1 ht2 ht3
          have hb : (((x : Nat) : Int) != ((y : Nat) : Int)) = true := by rw [bne_iff_ne]; omega
          clear hxy
          go_wp2_with fail
          go_quiet (fail)
          go_wp2_with fail
          go_quiet (fail)
          go_wp2_with fail
          go_ret
          exact ⟨_, rfl, HC.out, (hC'.drewN _).drewN _⟩
  · have hb : (((n : Nat) : Int) != ((m : Nat) : Int)) = true := by rw [bne_iff_ne]; omega
    have hc : Sgn ((n : Int) - (m : Int)) U V := by
      rcases Nat.lt_or_gt_of_ne he with h | h
      · exact Sgn.lt (by omega) (es_lt_of_len (by omega))
      · exact Sgn.gt (by omega) (es_lt_of_len (by omega))
    have hn : n ≤ 10000 := by omega
    have hm : m ≤ 10000 := by omega
    have HC := Lib.hid hc; clear hc hxl hyl hx hy he hn1 hn2
    go_enter Tryd.func77, Tryd.ntmps77
    go_wp2_with fail
    go_ret
    exact ⟨_, rfl, HC.out, Ch.refl _ _ _⟩
theorem es_len_le {A B : Nat} (h : A ≤ B) : (es A).length ≤ (es B).length := by
  have h1 := es_len A (es B).length
  have h2 := (es_len B (es B).length).1 (Nat.le_refl _)
  exact h1.2 (by omega)
theorem es_len_mul {U d n : Nat} (h : (es U).length ≤ n) (hd : d < E24) : (es (U * d)).length ≤ n + 1 := by
  have h1 := (es_len U n).1 h
  refine (es_len _ _).2 ?_
  rw [Nat.pow_succ]
  rcases Nat.eq_zero_or_pos d with h0 | h0
  · subst h0; rw [Nat.mul_zero]; exact Nat.mul_pos (Nat.pow_pos E24_pos) E24_pos
  · exact Nat.lt_of_lt_of_le (Nat.mul_lt_mul_of_pos_right h1 h0) (Nat.mul_le_mul_left _ (Nat.le_of_lt hd))
set_option maxRecDepth 100000 in
set_option maxHeartbeats 1600000 in
theorem rdigit_any (v1 v2 : Value) (U V : Nat) (w : World) (h1 : RdE w v1 U) (h2 : RdE w v2 V) (hV : 0 < V) (hq : U / V < E24) (hn1 : (es U).length ≤ 5000) (hn2 : (es V).length ≤ 5000) :
    Calls Tryd.prog 78 #[v1, v2] w (Yld w (I (U / V))) := by
  have H1 := Lib.hid h1
  have H2 := Lib.hid h2
  unfold E24 at hq
  have HN1 := Lib.hid hn1
  have HN2 := Lib.hid hn2
  have hdv : ∀ d, V * d ≤ U ↔ d ≤ U / V := fun d => by rw [Nat.le_div_iff_mul_le hV, Nat.mul_comm]
  obtain ⟨t, ht⟩ : ∃ t, U / V = t := ⟨_, rfl⟩
  rw [ht] at hq hdv ⊢
  have HDV := Lib.hid hdv
  clear h1 h2 hn1 hn2 hV hdv ht
  go_enter Tryd.func78, Tryd.ntmps78
  go_wp2_with fail
  obtain ⟨wo, rfl⟩ : ∃ wo : World, wo = w := ⟨_, rfl⟩
  go_loopw [5, 6] (fun l h wr => ∃ (lo hi : Nat), l = I lo ∧ h = I hi ∧ lo ≤ t ∧ t ≤ hi ∧ hi ≤ 16777215 ∧ Ch wo.heap.size none1 wo wr)
    (fun l h _ => (intOf h - intOf l).toNat)
  case atStart => exact ⟨0, 16777215, rfl, rfl, by omega, by omega, by omega, Ch.refl _ _ _⟩
  case round =>
    obtain ⟨lo, hi, rfl, rfl, hlo, hhi, hmax, hC⟩ := hrel
    have HCH := Lib.hid hC; clear hC
    by_cases hlt : lo < hi
    · obtain ⟨mid, hmid⟩ : ∃ mid, mid = (lo + hi + 1) / 2 := ⟨_, rfl⟩
      have hmid2 : ((lo : Int) + (hi : Int) + 1).tdiv 2 = (mid : Int) := by rw [hmid, Int.tdiv_eq_ediv_of_nonneg (by omega)]; omega
      have hmb : mid < E24 := by unfold E24; omega
      have HX := Lib.hid hmid
      have hml : lo < mid := by omega
      have hmh : mid ≤ hi := by omega
      clear hmid
      have HMB := Lib.hid hmb
      have HL2 := Lib.hid (Nat.le_trans HN2.out (show 5000 ≤ 10000 by omega))
      have HL3 := Lib.hid (Nat.le_trans (es_len_mul HN2.out hmb) (show 5000 + 1 ≤ 10000 by omega))
      have HL1 := Lib.hid (Nat.le_trans HN1.out (show 5000 ≤ 10000 by omega))
      clear hmb
      go_wp2_with fail
      refine (rtimes_any v2 V mid _ (H2.out.on HCH.out) HMB.out HL2.out).mono ?_
      rintro e w1 ⟨vt, rfl, hrt, hC1⟩
      have HRT := Lib.hid hrt
      have HC1 := Lib.hid (HCH.out.step0 hC1 (Nat.le_refl _))
      clear hrt hC1
      go_wp2_with fail
      refine (rcmp_any vt v1 (V * mid) U _ HRT.out (H1.out.on HC1.out) HL3.out HL1.out).mono ?_
      rintro e w2 ⟨r, rfl, hs, hC2⟩
      have HC2 := Lib.hid (HC1.out.step0 hC2 (Nat.le_refl _))
      have hs1 := hs.1.trans (HDV.out mid)
      clear hs hC2
      by_cases hr : r ≤ 0
      · have hmt : mid ≤ t := hs1.1 hr
        clear hs1
        go_wp2_with fail
        go_roundw
        case rel => exact ⟨mid, hi, rfl, rfl, hmt, hhi, hmax, HC2.out⟩
        case measure => simp only [intOf]; omega
      · have hmt : ¬ mid ≤ t := fun q => hr (hs1.2 q)
        have hmp : ((mid : Int) - 1) = ((mid - 1 : Nat) : Int) := by omega
        have HP := Lib.hid hmp
        clear hs1 hmp
        go_wp2_with fail
        go_roundw
        case rel => exact ⟨lo, mid - 1, rfl, ret_int_v HP.out, hlo, by omega, by omega, HC2.out⟩
        case measure => simp only [intOf]; omega
    · obtain rfl : lo = t := by omega
      go_wp2_with fail
      go_ret
      exact ⟨rfl, HCH.out⟩
end Go.Proofs.YtcghnkdfhiancaaDoor
namespace Go.Proofs.YtcghnkdfhiancaaDoor
open Go.RowKit
theorem minus_end (zs xs ys : List Nat) (n b U V : Nat) (hz : Eok zs) (hzl : zs.length = n) (hx : xs.length = n) (hm : ys.length ≤ n) (hU : ev xs = U) (hV : ev ys = V) (hle : V ≤ U)
    (h : ev zs + ev (ys.take n) = ev (xs.take n) + E24 ^ n * b) : ev zs = U - V := by
  rw [List.take_of_length_le hm, ← hx, List.take_length, hU, hV] at h
  have h1 := ev_lt hz
  rw [hzl, ← hx] at h1
  have hb : b = 0 := by
    rcases Nat.eq_zero_or_pos b with q | q
    · exact q
    · have := Nat.mul_le_mul_left (E24 ^ xs.length) q
      omega
  subst hb
  omega
set_option maxRecDepth 100000 in
set_option maxHeartbeats 1600000 in
theorem rminus_any (v1 v2 : Value) (U V : Nat) (w : World) (h1 : RdE w v1 U) (h2 : RdE w v2 V) (hle : V ≤ U) (hn1 : (es U).length ≤ 10000) :
    Calls Tryd.prog 43 #[v1, v2] w fun e w' => ∃ v', e = .returned v' ∧ RdE w' v' (U - V) ∧ Ch w.heap.size none1 w w' := by
  obtain ⟨i0, hi, hz0, hz1, hz2⟩ := info_parts Tryd.info3
  have hll := es_len_le hle
  obtain ⟨p, n, cap, rfl, _, _, _, h3⟩ := h1
  obtain ⟨q, m, capy, rfl, _, _, _, h4⟩ := h2
  have hxl := h3.len
  have hyl := h4.len
  have hxe := ev_es U
  have hye := ev_es V
  obtain ⟨xs, hxs⟩ : ∃ xs, es U = xs := ⟨_, rfl⟩
  obtain ⟨ys, hys⟩ : ∃ ys, es V = ys := ⟨_, rfl⟩
  rw [hxs] at hxl h3 hn1 hxe hll
  rw [hys] at hyl h4 hye hll
  have HX := Lib.hid hxl
  have HY := Lib.hid hyl
  have HD := Lib.hid h3
  have HE := Lib.hid h4
  have HEV := Lib.hid hxe
  have HEY := Lib.hid hye
  have HLE := Lib.hid hle
  have hn2 : n ≤ 10000 := by omega
  have hmn : m ≤ n := by omega
  clear hxl hyl h3 h4 hxs hys hn1 hxe hye hll hle
  go_enter Tryd.func43, Tryd.ntmps43
  go_wp2_with fail
  obtain ⟨wo, rfl⟩ : ∃ wo : World, wo = w := ⟨_, rfl⟩
  go_loopw [5, 6, 7] (fun o b i wr => ∃ (k bN : Nat) (zs : List Nat), k ≤ n ∧ i = .int .i64 (k : Int) ∧ b = I bN ∧ bN ≤ 1 ∧ zs.length = k ∧ Eok zs ∧ Own wr wo.heap.size 3 o (zs.map I) ∧
      ev zs + ev (ys.take k) = ev (xs.take k) + E24 ^ k * bN ∧ Ch wo.heap.size none1 wo wr) (fun _ _ i _ => n - (intOf i).toNat)
  case atStart => exact ⟨0, 0, [], Nat.zero_le _, rfl, rfl, by omega, rfl, Eok.nil, Own.nil _ _ _, by simp [ev], Ch.refl _ _ _⟩
  case round =>
    obtain ⟨k, b, zs, hk, rfl, rfl, hb, hzl, hz, hown, hzv, hC⟩ := hrel
    have HZ := Lib.hid hzl; clear hzl
    have HZK := Lib.hid hz; clear hz
    have HO := Lib.hid hown; clear hown
    have HZV := Lib.hid hzv; clear hzv
    have HCH := Lib.hid hC; clear hC
    have HSZ := Lib.hid HCH.out.size
    by_cases hlt : k < n
    · obtain ⟨g, rfl⟩ := HD.out.addr (by omega)
      have hg := (HD.out.on HCH.out).get0 k (by omega)
      have hkx : k < xs.length := by rw [HX.out]; omega
      have hts := ev_take_succ xs k hkx
      have hty := ev_getD ys k
      have hyb := getD_lt ys HE.out.lt k
      have hxb := HD.out.lt.get k hkx
      obtain ⟨x, hx⟩ : ∃ x, xs[k] = x := ⟨_, rfl⟩
      rw [hx] at hg hxb hts
      have hy0 : ∀ h : k < m, ys.getD k 0 = ys[k]'(by rw [HY.out]; exact h) := fun h => by rw [List.getD_eq_getElem?_getD, List.getElem?_eq_getElem (by rw [HY.out]; exact h)]; rfl
      have hy1 : ¬ k < m → ys.getD k 0 = 0 := fun h => by rw [List.getD_eq_getElem?_getD, List.getElem?_eq_none (by rw [HY.out]; omega)]; rfl
      obtain ⟨y, hy⟩ : ∃ y, ys.getD k 0 = y := ⟨_, rfl⟩
      rw [hy] at hty hyb hy0 hy1
      have hstep : ∀ z b2, z + y + b = x + E24 * b2 → ev (zs ++ [z]) + ev (ys.take (k + 1)) = ev (xs.take (k + 1)) + E24 ^ (k + 1) * b2 := fun z b2 h => by
        rw [hty, hts]
        exact minus_put zs k b b2 x y z _ _ HZ.out HZV.out h
      have HST := Lib.hid hstep
      unfold E24 at hyb hxb
      clear hstep hty hts hx hy hkx
      by_cases hkm : k < m
      · obtain ⟨gy, rfl⟩ := HE.out.addr (by omega)
        have hgy := (HE.out.on HCH.out).get0 k hkm
        rw [← hy0 hkm] at hgy
        clear hy0 hy1
        by_cases hneg : x < b + y
        · obtain ⟨z, hzz⟩ : ∃ z, z + b + y = x + 16777216 := ⟨x + 16777216 - b - y, by omega⟩
          have hzi : (x : Int) - (b : Int) - (y : Int) + 16777216 = (z : Int) := by omega
          have hlz : (x : Int) - (b : Int) - (y : Int) < 0 := by omega
          have HZZ := Lib.hid hzz
          have hzE : z < 16777216 := by omega
          clear hzz
          go_wp2_with (at_builtin; refine wpList_append_up _ rfl _ _ 38 rfl wo.heap.size 3 i0 .i64 0 8 Tryd.underlying38 hi hz0 hz1 hz2 (by decide) _ _ rfl (HO.out.ch (Ch.alloc0 _)) ⟨wr.heap.size, 0, none⟩ 1 1 [_] rfl rfl (new_cell _ _ _) (one_one _ _) (by rw [List.length_map, HZ.out]; omega) (size_alloc_le _ HSZ.out) ?_; intro v' w1 hown' hC1)
          go_roundw
          case rel =>
            refine ⟨k + 1, 1, zs ++ [z], by omega, by go_num, rfl, by omega, by rw [List.length_append, HZ.out]; rfl, HZK.out.append (Eok.cons (by unfold E24; omega) Eok.nil), ?_, HST.out z 1 (by have := HZZ.out; unfold E24; omega), (HCH.out.alloc HSZ.out _).trans hC1⟩
            rw [List.map_append]; exact hown'
          case measure => simp [intOf]; omega
        · obtain ⟨z, hzz⟩ : ∃ z, z + b + y = x := ⟨x - b - y, by omega⟩
          have hzi : (x : Int) - (b : Int) - (y : Int) = (z : Int) := by omega
          have HZZ := Lib.hid hzz
          have hzE : z < 16777216 := by omega
          clear hzz
          go_wp2_with (at_builtin; refine wpList_append_up _ rfl _ _ 38 rfl wo.heap.size 3 i0 .i64 0 8 Tryd.underlying38 hi hz0 hz1 hz2 (by decide) _ _ rfl (HO.out.ch (Ch.alloc0 _)) ⟨wr.heap.size, 0, none⟩ 1 1 [_] rfl rfl (new_cell _ _ _) (one_one _ _) (by rw [List.length_map, HZ.out]; omega) (size_alloc_le _ HSZ.out) ?_; intro v' w1 hown' hC1)
          go_roundw
          case rel =>
            refine ⟨k + 1, 0, zs ++ [z], by omega, by go_num, rfl, by omega, by rw [List.length_append, HZ.out]; rfl, HZK.out.append (Eok.cons (by unfold E24; omega) Eok.nil), ?_, HST.out z 0 (by have := HZZ.out; unfold E24; omega), (HCH.out.alloc HSZ.out _).trans hC1⟩
            rw [List.map_append]; exact hown'
          case measure => simp [intOf]; omega
      · obtain rfl := hy1 hkm
        clear hy0 hy1
        by_cases hneg : x < b
        · obtain ⟨z, hzz⟩ : ∃ z, z + b = x + 16777216 := ⟨x + 16777216 - b, by omega⟩
          have hzi : (x : Int) - (b : Int) + 16777216 = (z : Int) := by omega
          have hlz : (x : Int) - (b : Int) < 0 := by omega
          have HZZ := Lib.hid hzz
          have hzE : z < 16777216 := by omega
          clear hzz
          go_wp2_with (at_builtin; refine wpList_append_up _ rfl _ _ 38 rfl wo.heap.size 3 i0 .i64 0 8 Tryd.underlying38 hi hz0 hz1 hz2 (by decide) _ _ rfl (HO.out.ch (Ch.alloc0 _)) ⟨wr.heap.size, 0, none⟩ 1 1 [_] rfl rfl (new_cell _ _ _) (one_one _ _) (by rw [List.length_map, HZ.out]; omega) (size_alloc_le _ HSZ.out) ?_; intro v' w1 hown' hC1)
          go_roundw
          case rel =>
            refine ⟨k + 1, 1, zs ++ [z], by omega, by go_num, rfl, by omega, by rw [List.length_append, HZ.out]; rfl, HZK.out.append (Eok.cons (by unfold E24; omega) Eok.nil), ?_, HST.out z 1 (by have := HZZ.out; unfold E24; omega), (HCH.out.alloc HSZ.out _).trans hC1⟩
            rw [List.map_append]; exact hown'
          case measure => simp [intOf]; omega
        · obtain ⟨z, hzz⟩ : ∃ z, z + b = x := ⟨x - b, by omega⟩
          have hzi : (x : Int) - (b : Int) = (z : Int) := by omega
          have HZZ := Lib.hid hzz
          have hzE : z < 16777216 := by omega
          clear hzz
          go_wp2_with (at_builtin; refine wpList_append_up _ rfl _ _ 38 rfl wo.heap.size 3 i0 .i64 0 8 Tryd.underlying38 hi hz0 hz1 hz2 (by decide) _ _ rfl (HO.out.ch (Ch.alloc0 _)) ⟨wr.heap.size, 0, none⟩ 1 1 [_] rfl rfl (new_cell _ _ _) (one_one _ _) (by rw [List.length_map, HZ.out]; omega) (size_alloc_le _ HSZ.out) ?_; intro v' w1 hown' hC1)
          go_roundw
          case rel =>
            refine ⟨k + 1, 0, zs ++ [z], by omega, by go_num, rfl, by omega, by rw [List.length_append, HZ.out]; rfl, HZK.out.append (Eok.cons (by unfold E24; omega) Eok.nil), ?_, HST.out z 0 (by have := HZZ.out; unfold E24; omega), (HCH.out.alloc HSZ.out _).trans hC1⟩
            rw [List.map_append]; exact hown'
          case measure => simp [intOf]; omega
    · obtain rfl : k = n := by omega
      have hev := minus_end zs xs ys k b U V HZK.out HZ.out HX.out (by rw [HY.out]; exact hmn) HEV.out HEY.out HLE.out HZV.out
      obtain ⟨p', cap', rfl, q1, q2, q0, qd, _⟩ := Own.di HO.out HZK.out
      have HEV2 := Lib.hid hev
      have HQD := Lib.hid qd
      clear hev qd
      go_wp2_with fail
      refine (rtrim_rd p' _ cap' zs _ HQD.out q1 q2 q0).mono ?_
      rw [HEV2.out]
      rintro e w2 ⟨v2, rfl, hr2, rfl⟩
      have HR2 := Lib.hid hr2
      clear hr2
      go_wp2_with fail
      go_ret
      exact ⟨_, rfl, HR2.out, HCH.out⟩
end Go.Proofs.YtcghnkdfhiancaaDoor
