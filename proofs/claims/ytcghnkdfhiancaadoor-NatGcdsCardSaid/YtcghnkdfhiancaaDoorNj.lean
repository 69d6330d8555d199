/- Contracts of package nat's Add, Sub and Mul. -/
import Derived.Test.YtcghnkdfhiancaaDoorNh
namespace Go.Proofs.YtcghnkdfhiancaaDoor
open Go.RowKit
/-- A call that only computes, met within a region behind another region that has drawn. -/
theorem quiet_more {P : Program} {f : FuncId} {args : Array Value} {w : World} {a n : Nat} {v : Value}
    (h : Calls P f args (w.drewN (a + n)) fun e w' => e = .returned v ∧ w' = w.drewN (a + n)) :
    Calls P f args (w.drewN (a + n)) fun e w'' => e = .returned v ∧ ∃ m, w'' = w.drewN (a + m) :=
  h.mono fun _ _ q => ⟨q.1, n, q.2⟩
set_option maxHeartbeats 400000 in
theorem isNaN_u64 (a : Nat) (w : World) : Calls Tryd.prog 102 #[U a] w fun e w' => e = .returned (.bool false) ∧ w' = w := by
  go_enter Tryd.func102, Tryd.ntmps102
  go_wp2_with fail
  go_ret
  exact ⟨rfl, rfl⟩
set_option maxHeartbeats 400000 in
theorem cmpU_any (a b : Nat) (w : World) :
    Calls Tryd.prog 91 #[U a, U b] w fun e w' => e = .returned (.int .i64 (cmpN a b)) ∧ w' = w := by
  by_cases h1 : a < b
  · rw [cmpN_lt h1]
    go_enter Tryd.func91, Tryd.ntmps91
    go_wp2_with (go_at_call 102; refine (isNaN_u64 _ _).mono ?_; rintro e w' ⟨rfl, rfl⟩)
    go_ret
    exact ⟨rfl, rfl⟩
  · by_cases h2 : b < a
    · rw [cmpN_gt h2]
      go_enter Tryd.func91, Tryd.ntmps91
      go_wp2_with (go_at_call 102; refine (isNaN_u64 _ _).mono ?_; rintro e w' ⟨rfl, rfl⟩)
      go_ret
      exact ⟨rfl, rfl⟩
    · rw [cmpN_eq (by omega)]
      go_enter Tryd.func91, Tryd.ntmps91
      go_wp2_with (go_at_call 102; refine (isNaN_u64 _ _).mono ?_; rintro e w' ⟨rfl, rfl⟩)
      go_ret
      exact ⟨rfl, rfl⟩
theorem canon_lt (xs ys : List Nat) (hx : Dok xs) (hy : Dok ys) (cx : tlen xs = xs.length) (cy : tlen ys = ys.length) (h : xs.length < ys.length) : dv xs < dv ys := by
  have h1 := trimD xs hx
  have h2 := trimD ys hy
  rw [List.take_of_length_le (by omega)] at h1 h2
  have h3 := (ds_len (dv xs) xs.length).1 (by rw [← h1]; exact Nat.le_refl _)
  have h4 := ds_len (dv ys) xs.length
  rw [← h2] at h4
  omega
theorem cmp_top (xs ys : List Nat) (k : Nat) (hx : Dok xs) (_hy : Dok ys) (hkx : k < xs.length) (hky : k < ys.length) (hl : xs.length = ys.length) (hd : xs.drop (k + 1) = ys.drop (k + 1)) (h : xs[k] < ys[k]) : dv xs < dv ys := by
  have h1 := dv_take_drop xs (k + 1) (by omega)
  have h2 := dv_take_drop ys (k + 1) (by omega)
  have h3 := dv_take_succ xs k hkx
  have h4 := dv_take_succ ys k hky
  have h5 := dv_lt (hx.take k)
  rw [List.length_take, Nat.min_eq_left (by omega)] at h5
  have h6 := Nat.mul_le_mul_left (D ^ k) (show xs[k] + 1 ≤ ys[k] from h)
  rw [Nat.mul_add] at h6
  rw [hd] at h1
  omega
theorem drop_eq_step (xs ys : List Nat) (k : Nat) (hkx : k < xs.length) (hky : k < ys.length) (hd : xs.drop (k + 1) = ys.drop (k + 1)) (h : xs[k] = ys[k]) : xs.drop k = ys.drop k := by
  rw [List.drop_eq_getElem_cons hkx, List.drop_eq_getElem_cons hky, h, hd]
set_option maxRecDepth 100000 in
set_option maxHeartbeats 800000 in
theorem compare_any (p q : Option Addr) (n m capx capy : Nat) (xs ys : List Nat) (w : World) (hx : Dg w p n xs) (hy : Dg w q m ys) (cx : tlen xs = n) (cy : tlen ys = m) (hn : n ≤ 1152921504606846975) (hm : m ≤ 1152921504606846975) :
    Calls Tryd.prog 74 #[.slice p n capx, .slice q m capy] w fun e w' => e = .returned (.int .i64 (cmpN (dv xs) (dv ys))) ∧ Ch w.heap.size none1 w w' := by
  have hxl := hx.len
  have hyl := hy.len
  by_cases he : n = m
  · subst he
    have HXL := Lib.hid hxl; clear hxl
    have HYL := Lib.hid hyl; clear hyl
    have HX := Lib.hid hx; clear hx
    have HY := Lib.hid hy; clear hy
    clear cx cy
    go_enter Tryd.func74, Tryd.ntmps74
    go_wp2_with fail
    obtain ⟨wo, rfl⟩ : ∃ wo : World, wo = w := ⟨_, rfl⟩
    go_loopw [5] (fun i wr => ∃ (k : Nat), k ≤ n ∧ i = .int .i64 ((k : Int) - 1) ∧ xs.drop k = ys.drop k ∧ Ch wo.heap.size none1 wo wr)
      (fun i _ => (intOf i + 1).toNat)
    case atStart => exact ⟨n, Nat.le_refl _, rfl, by rw [List.drop_of_length_le (by rw [HXL.out]; exact Nat.le_refl _), List.drop_of_length_le (by rw [HYL.out]; exact Nat.le_refl _)], Ch.refl _ _ _⟩
    case round =>
      obtain ⟨k, hk, rfl, hdr, hC'⟩ := hrel
      have HDR := Lib.hid hdr; clear hdr
      rcases k with _ | k
      · have hxy : xs = ys := by have := HDR.out; simpa using this
        have hc : cmpN (dv xs) (dv ys) = 0 := by rw [hxy]; exact cmpN_eq rfl
        have HC := Lib.hid hc; clear hc hxy
        go_wp2_with fail
        go_ret
        exact ⟨ret_int HC.out.symm, hC'⟩
      · obtain ⟨gx, ox, rfl⟩ := HX.out.addr (by omega)
        obtain ⟨gy, oy, rfl⟩ := HY.out.addr (by omega)
        have hxg := (Dg.ch hC' HX.out (fun a ha => ⟨HX.out.lt_size a ha, fun q => q⟩)).get k (by omega)
        have hyg := (Dg.ch hC' HY.out (fun a ha => ⟨HY.out.lt_size a ha, fun q => q⟩)).get k (by omega)
        have hkx : k < xs.length := by rw [HXL.out]; omega
        have hky : k < ys.length := by rw [HYL.out]; omega
        have ht1 := cmp_top xs ys k HX.out.lt HY.out.lt hkx hky (HXL.out.trans HYL.out.symm) HDR.out
        have ht2 := cmp_top ys xs k HY.out.lt HX.out.lt hky hkx (HYL.out.trans HXL.out.symm) HDR.out.symm
        have ht3 := drop_eq_step xs ys k hkx hky HDR.out
        obtain ⟨x, hx1⟩ : ∃ x, xs[k] = x := ⟨_, rfl⟩
        obtain ⟨y, hy1⟩ : ∃ y, ys[k] = y := ⟨_, rfl⟩
        rw [hx1] at hxg
        rw [hy1] at hyg
        rw [hx1, hy1] at ht1 ht2 ht3
        clear hx1 hy1
        have e1 : ((k : Int) + 1 - 1) = (k : Int) := by omega
        by_cases hxy : x = y
        · subst hxy
          have hdr := ht3 rfl
          have HD2 := Lib.hid hdr; clear hdr ht1 ht2 ht3
          go_wp2_with fail
          go_quiet (fail)
          go_wp2_with fail
          go_roundw
          case rel => exact ⟨k, by omega, by go_num, HD2.out, hC'.drewN _⟩
          case measure => simp [intOf]
        · have hc : cmpN x y = cmpN (dv xs) (dv ys) := by
            rcases Nat.lt_or_gt_of_ne hxy with h | h
            · rw [cmpN_lt h, cmpN_lt (ht1 h)]
            · rw [cmpN_gt h, cmpN_gt (ht2 h)]
          have HC := Lib.hid hc; clear hc ht1 ht2 ht3
          have hb : (((x : Nat) : Int) != ((y : Nat) : Int)) = true := by rw [bne_iff_ne]; omega
          clear hxy
          go_wp2_with fail
          go_quiet (fail)
          go_wp2_with fail
          go_quiet ((go_at_call 91; exact quiet_more (cmpU_any _ _ _)))
          go_wp2_with fail
          go_ret
          exact ⟨ret_int HC.out, (hC'.drewN _).drewN _⟩
  · have hb : (((n : Nat) : Int) != ((m : Nat) : Int)) = true := by rw [bne_iff_ne]; omega
    have hc : Lib.compareInt (n : Int) (m : Int) = cmpN (dv xs) (dv ys) := by
      unfold Lib.compareInt
      rcases Nat.lt_or_gt_of_ne he with h | h
      · rw [if_pos (by omega), cmpN_lt (canon_lt xs ys hx.lt hy.lt (by rw [cx, hxl]) (by rw [cy, hyl]) (by omega))]
      · rw [if_neg (by omega), if_pos (by omega), cmpN_gt (canon_lt ys xs hy.lt hx.lt (by rw [cy, hyl]) (by rw [cx, hxl]) (by omega))]
    have HC := Lib.hid hc; clear hc cx cy hxl hyl hx hy he
    go_enter Tryd.func74, Tryd.ntmps74
    go_wp2_with fail
    refine (Tryd.cmp_Compare_int _ _ _).mono ?_
    rintro e w' ⟨rfl, rfl⟩
    go_wp2_with fail
    go_ret
    exact ⟨ret_int HC.out, Ch.refl _ _ _⟩
theorem sub_cont (zs ys xs : List Nat) (n k b : Nat) (hn : xs.length = n) (hk : k ≤ n) (hz : zs.length = k) (hv : dv zs + dv ys = dv (xs.take k) + D ^ k * b) (he : b = 0 ∨ k = n) (_hx : Dok xs) (hzd : Dok zs) (hle : dv ys ≤ dv xs) :
    dv (zs ++ xs.drop k) = dv xs - dv ys := by
  have h1 := dv_take_drop xs k (by omega)
  rw [dv_append, hz]
  rcases he with rfl | rfl
  · simp at hv; omega
  · rw [List.take_of_length_le (by omega)] at hv
    rw [List.drop_of_length_le (by omega)]
    have h2 := dv_lt hzd
    rw [hz] at h2
    have h3 : b = 0 := by
      rcases Nat.eq_zero_or_pos b with h | h
      · exact h
      · have := Nat.mul_le_mul_left (D ^ k) h
        omega
    subst h3
    simp [dv] at hv ⊢
    omega
set_option maxRecDepth 100000 in
set_option maxHeartbeats 800000 in
theorem subtract_any (n m cap capy g o : Nat) (t : TypeId) (p : Option Addr) (pre post : List Value) (xs ys : List Nat) (w : World) (hx : Dok xs) (hn : xs.length = n) (hm : cap ≤ maxLen) (hnc : n ≤ cap) (hmn : m ≤ n) (hle : dv ys ≤ dv xs)
    (hB : Blk w g t (pre ++ xs.map U ++ post)) (ho : pre.length = o) (hd : Dg w p m ys) (hne : ∀ a, p = some a → a.block ≠ g) :
    Calls Tryd.prog 40 #[.slice (some ⟨g, o, none⟩) n cap, .slice p m capy] w fun e w' => ∃ zs, e = .returned (.tuple #[]) ∧ Dok zs ∧ zs.length = n ∧ dv zs = dv xs - dv ys ∧
      Blk w' g t (pre ++ zs.map U ++ post) ∧ Ch w.heap.size (· = g) w w' := by
  unfold maxLen at hm
  have HN := Lib.hid hn; clear hn
  have HO := Lib.hid ho; clear ho
  have HD := Lib.hid hd; clear hd
  have HY := Lib.hid HD.out.len
  go_enter Tryd.func40, Tryd.ntmps40
  go_wp2_with fail
  obtain ⟨wo, rfl⟩ : ∃ wo : World, wo = w := ⟨_, rfl⟩
  go_loopw [4, 10] (fun cv i wr => ∃ (k : Nat) (c' : Nat) (zs : List Nat), k ≤ m ∧ c' ≤ 1 ∧ i = .int .i64 k ∧ cv = U c' ∧ Dok zs ∧ zs.length = k ∧ dv zs + dv (ys.take k) = dv (xs.take k) + D ^ k * c' ∧ Blk wr g t (pre ++ (zs ++ xs.drop k).map U ++ post) ∧ Ch wo.heap.size (· = g) wo wr)
    (fun _ i _ => m - (intOf i).toNat)
  case atStart => exact ⟨0, 0, [], Nat.zero_le _, by omega, rfl, rfl, Dok.nil, rfl, by simp [dv], by simpa using hB, Ch.refl _ _ _⟩
  case round =>
    obtain ⟨k, c', zs, hk, hc', rfl, rfl, hz, hzl, hzv, hB', hC'⟩ := hrel
    have HZ := Lib.hid hzl; clear hzl
    have HV := Lib.hid hzv; clear hzv
    by_cases hlt : k < m
    · obtain ⟨gy, oy, rfl⟩ := HD.out.addr (by omega)
      have hkl : k < xs.length := by rw [HN.out]; omega
      have hky : k < ys.length := by rw [HY.out]; exact hlt
      have hyg := (Dg.ch hC' HD.out (fun a ha => ⟨HD.out.lt_size a ha, hne a ha⟩)).get k hlt
      have hdr := List.drop_eq_getElem_cons hkl
      have hts := dv_take_succ xs k hkl
      have hty := dv_take_succ ys k hky
      have hyb := HD.out.lt _ (List.getElem_mem hky)
      obtain ⟨x, hx1⟩ : ∃ x, xs[k] = x := ⟨_, rfl⟩
      obtain ⟨y, hy1⟩ : ∃ y, ys[k] = y := ⟨_, rfl⟩
      have hxb : x < D := by rw [← hx1]; exact hx.get k hkl
      rw [hx1] at hdr hts
      rw [hy1] at hyg hty hyb
      rw [hdr] at hB'
      have HT := Lib.hid hts; clear hts
      have HTY := Lib.hid hty; clear hty
      clear hx1 hy1 hdr
      have cl : wr.cell? ⟨g, o + k, none⟩ = some (U x) := by rw [hB'.cell]; exact mid_get pre post zs _ x o k HO.out HZ.out
      have f := hB'.frozen (o + k)
      have hadd := sub64_run x y c' hc'
      have hst := sub_step D (D ^ k) x y c' _ _ (dv zs) (dv (xs.take k)) (dv (ys.take k)) HV.out (sub_one x y c' hxb hyb hc')
      have hsm := Nat.mod_lt (x + D - y - c') D_pos
      have hq := sub_bit (x < y + c')
      generalize (x + D - y - c') % D = s at *
      generalize (if x < y + c' then 1 else 0) = q at *
      have HS := Lib.hid hst; clear hst
      go_wp2_with fail
      go_roundw
      case rel =>
        refine ⟨k + 1, q, zs ++ [s], by omega, hq, by go_num, rfl, hz.append (Dok.cons hsm Dok.nil), by rw [List.length_append, HZ.out]; rfl, ?_, ?_, hC'.setCell (.inr rfl) _⟩
        · rw [dv_snoc, HZ.out, HT.out, HTY.out, Nat.pow_succ]
          exact HS.out
        · exact (hB'.set (o + k) (U s)).cast (mid_set pre post zs _ x s o k HO.out HZ.out)
      case measure => simp [intOf]; omega
    · obtain rfl : k = m := by omega
      have hyt : ys.take k = ys := List.take_of_length_le (by rw [HY.out]; exact Nat.le_refl _)
      have hv2 := HV.out
      rw [hyt] at hv2
      have HV2 := Lib.hid hv2; clear hv2 hyt
      obtain ⟨m, rfl⟩ : ∃ m : Nat, m = k := ⟨_, rfl⟩
      obtain ⟨w1, rfl⟩ : ∃ w1 : World, w1 = wr := ⟨_, rfl⟩
      go_wp2_with fail
      go_loopw [4, 7] (fun cv i wr => ∃ (k : Nat) (c' : Nat) (zs : List Nat), m ≤ k ∧ k ≤ n ∧ c' ≤ 1 ∧ i = .int .i64 k ∧ cv = U c' ∧ Dok zs ∧ zs.length = k ∧ dv zs + dv ys = dv (xs.take k) + D ^ k * c' ∧ Blk wr g t (pre ++ (zs ++ xs.drop k).map U ++ post) ∧ Ch wo.heap.size (· = g) wo wr)
        (fun _ i _ => n - (intOf i).toNat)
      case atStart => exact ⟨m, c', zs, Nat.le_refl _, hmn, hc', rfl, rfl, hz, HZ.out, HV2.out, hB', hC'⟩
      case round =>
        clear hB' hC' hz
        obtain ⟨k, c', zs, hmk, hk, hc', rfl, rfl, hz, hzl, hzv, hB', hC'⟩ := hrel
        have HZ := Lib.hid hzl; clear hzl
        have HV := Lib.hid hzv; clear hzv
        by_cases h0 : c' = 0
        · subst h0
          have hend := sub_cont zs ys xs n k 0 HN.out hk HZ.out HV.out (.inl rfl) hx hz hle
          have HE := Lib.hid hend; clear hend
          by_cases hlt : k < n
          all_goals
            go_wp2_with fail
            go_end0
            exact ⟨_, rfl, hz.append (hx.drop k), wd_len xs zs k n HN.out hk HZ.out, HE.out, hB', hC'⟩
        · by_cases hlt : k < n
          · have hb := ne_bool h0
            have hkl : k < xs.length := by rw [HN.out]; exact hlt
            have hdr := List.drop_eq_getElem_cons hkl
            have hts := dv_take_succ xs k hkl
            obtain ⟨x, hx1⟩ : ∃ x, xs[k] = x := ⟨_, rfl⟩
            have hxb : x < D := by rw [← hx1]; exact hx.get k hkl
            rw [hx1] at hdr hts
            rw [hdr] at hB'
            have HT := Lib.hid hts; clear hts
            clear hx1 hdr
            have cl : wr.cell? ⟨g, o + k, none⟩ = some (U x) := by rw [hB'.cell]; exact mid_get pre post zs _ x o k HO.out HZ.out
            have f := hB'.frozen (o + k)
            have hadd := sub64_runz x c' hc'
            have hst := sub_step D (D ^ k) x 0 c' _ _ (dv zs) (dv (xs.take k)) (dv ys) HV.out (sub_one x 0 c' hxb D_pos hc')
            have hsm := Nat.mod_lt (x + D - 0 - c') D_pos
            have hq := sub_bit (x < 0 + c')
            generalize (x + D - 0 - c') % D = s at *
            generalize (if x < 0 + c' then 1 else 0) = q at *
            have HS := Lib.hid hst; clear hst
            go_wp2_with fail
            go_roundw
            case rel =>
              refine ⟨k + 1, q, zs ++ [s], by omega, by omega, hq, by go_num, rfl, hz.append (Dok.cons hsm Dok.nil), by rw [List.length_append, HZ.out]; rfl, ?_, ?_, hC'.setCell (.inr rfl) _⟩
              · rw [dv_snoc, HZ.out, HT.out, Nat.pow_succ]
                have := HS.out
                omega
              · exact (hB'.set (o + k) (U s)).cast (mid_set pre post zs _ x s o k HO.out HZ.out)
            case measure => simp [intOf]; omega
          · have hkn : k = n := by omega
            have hend := sub_cont zs ys xs n k c' HN.out hk HZ.out HV.out (.inr hkn) hx hz hle
            have HE := Lib.hid hend; clear hend hkn
            go_wp2_with fail
            go_end0
            exact ⟨_, rfl, hz.append (hx.drop k), wd_len xs zs k n HN.out hk HZ.out, HE.out, hB', hC'⟩
end Go.Proofs.YtcghnkdfhiancaaDoor
namespace Go.Proofs.YtcghnkdfhiancaaDoor
open Go.RowKit
theorem own_of_blk {w : World} {B g n cap : Nat} {vs cs : List Value} (h : Blk w g 52 cs) (hl : cs.length = cap) (hn : n ≤ cap) (hm : cap ≤ maxLen) (ht : cs.take n = vs) (hb : B ≤ g) :
    w.ownsRow B 52 1 (.slice (some ⟨g, 0, none⟩) n cap) n vs :=
  ⟨by rw [← ht, List.length_take]; omega, .inr ⟨g, cap, cs.toArray, rfl, hb, h, hn, hm, by simp; omega, by simpa using ht⟩⟩
theorem dg_of_own {w : World} {B n : Nat} {v : Value} {xs : List Nat} (h : w.ownsRow B 52 1 v n (xs.map U)) (hx : Dok xs) :
    ∃ p cap, v = .slice p n cap ∧ Dg w p n xs ∧ n ≤ cap ∧ cap ≤ maxLen ∧ (∀ a, p = some a → B ≤ a.block ∧ a.off = 0) := by
  obtain ⟨h1, h2⟩ := h
  have hl : xs.length = n := by simpa using h1
  rcases h2 with ⟨rfl, rfl⟩ | ⟨g, cap, cur, rfl, hb, hg, hn, hm, hs, ht⟩
  · exact ⟨none, 0, rfl, ⟨hl, hx, fun _ => rfl, fun a ha => by simp at ha⟩, Nat.le_refl _, by decide, fun a ha => by simp at ha⟩
  · refine ⟨some ⟨g, 0, none⟩, cap, rfl, ⟨hl, hx, fun q => by simp at q, fun a ha => ?_⟩, hn, hm, fun a ha => ?_⟩
    · simp only [Option.some.injEq] at ha
      subst ha
      refine ⟨rfl, 52, [], cur.toList.drop n, ?_, rfl⟩
      unfold Blk
      rw [List.nil_append, ← ht, Nat.mul_one, List.take_append_drop]
      simpa using hg
    · simp only [Option.some.injEq] at ha
      subst ha
      exact ⟨hb, rfl⟩
theorem dg_of_blk {w : World} {g : Nat} {t : TypeId} {xs : List Nat} {post : List Value} (h : Blk w g t (xs.map U ++ post)) (hx : Dok xs) (n : Nat) (hn : xs.length = n) : Dg w (some ⟨g, 0, none⟩) n xs :=
  ⟨hn, hx, fun q => by simp at q, fun a ha => by
    simp only [Option.some.injEq] at ha
    subst ha
    exact ⟨rfl, t, [], post, by simpa using h, rfl⟩⟩
theorem Ch.of_grown_own {w w' : World} {g n cap : Nat} (h : w.grownBy w' (Value.ownBlock (.slice (some ⟨g, 0, none⟩) n cap))) : Ch w.heap.size (· = g) w w' :=
  ⟨h.os, h.tape, h.output, h.size, fun k hk hr => h.block k hk (fun e => hr (by simpa [Value.ownBlock] using e))⟩
/-- The greatest size of a number, in bytes, that these contracts speak of. -/
def LIM : Nat := 70368744177664
theorem ds_lim (a : List UInt8) (h : a.length ≤ LIM) : (ds (bv a)).length ≤ 8796093022208 := by
  have h1 := ds_len_bytes a
  have h2 := trimL_len a
  unfold LIM at h
  omega
set_option maxRecDepth 100000 in
set_option maxHeartbeats 1600000 in
theorem Add_any (a b : List UInt8) (w : World) (ha : a.length ≤ LIM) (hb : b.length ≤ LIM) :
    Calls Tryd.prog 15 #[S a, S b] w fun e w' => e = .returned (S (nb (bv a + bv b))) ∧ Ch w.heap.size none1 w w' := by
  have ham : a.length ≤ maxLen := by unfold LIM at ha; unfold maxLen; omega
  have hbm : b.length ≤ maxLen := by unfold LIM at hb; unfold maxLen; omega
  by_cases hw : bv a < 18446744073709551616 ∧ bv b < 18446744073709551616
  · obtain ⟨h1, h2⟩ := hw
    have hadd := add64_run0 (bv a) (bv b)
    by_cases hs : bv a + bv b < 18446744073709551616
    · rw [Nat.mod_eq_of_lt (show bv a + bv b < D from hs), Nat.div_eq_of_lt (show bv a + bv b < D from hs)] at hadd
      have HA := Lib.hid (fun w => wordNat_any (bv a + bv b) w hs)
      generalize hsum : bv a + bv b = sum at *
      have HSUM := Lib.hid hsum; clear hsum
      go_enter Tryd.func15, Tryd.ntmps15
      go_wp2_with fail
      refine (words_yes a b _ ham hbm h1 h2).mono ?_
      rintro e w' ⟨rfl, rfl⟩
      go_wp2_with fail
      refine (HA.out _).mono ?_
      rintro e w2 ⟨rfl, hC⟩
      go_wp2_with fail
      go_ret
      exact ⟨rfl, hC⟩
    · have hq : (bv a + bv b) / D ≠ 0 := by
        rw [Nat.div_ne_zero_iff]; exact ⟨by unfold D; omega, by unfold D; omega⟩
      generalize hqq : (bv a + bv b) / D = q at *
      generalize hss : (bv a + bv b) % D = s at *
      clear hqq hss
      have hb0 : (((q : Nat) : Int) == 0) = false := by rw [beq_eq_false_iff_ne]; omega
      go_enter Tryd.func15, Tryd.ntmps15
      go_wp2_with fail
      refine (words_yes a b _ ham hbm h1 h2).mono ?_
      rintro e w' ⟨rfl, rfl⟩
      obtain ⟨w, rfl⟩ : ∃ w : World, w = w' := ⟨_, rfl⟩
      clear h1 h2 hs
      go_wp2_with fail
      clear hadd hq hb0
      refine (digitsOf_any a _ (by unfold LIM at ha; omega)).mono ?_
      rintro e w1 ⟨g1, rfl, hB1, hg1, hC1⟩
      go_wp2_with fail
      refine (digitsOf_any b _ (by unfold LIM at hb; omega)).mono ?_
      rintro e w2 ⟨g2, rfl, hB2, hg2, hC2⟩
      have hlt1 := hB1.lt
      have hB1' := hC2.blk hB1 hlt1 (fun q => q)
      have hC := hC1.step0 hC2 (Nat.le_refl _)
      clear hB1 hC1 hC2
      have hXA := dv_ds (bv a)
      have hXB := dv_ds (bv b)
      have hda := dok_ds (bv a)
      have hdb := dok_ds (bv b)
      have hna := ds_lim a ha
      have hnb := ds_lim b hb
      generalize ds (bv a) = xs at *
      generalize ds (bv b) = ys at *
      obtain ⟨n, hn⟩ : ∃ n, xs.length = n := ⟨_, rfl⟩
      obtain ⟨m, hm⟩ : ∃ m, ys.length = m := ⟨_, rfl⟩
      rw [hn] at hna ⊢
      rw [hm] at hnb ⊢
      have HXA := Lib.hid hXA; clear hXA
      have HXB := Lib.hid hXB; clear hXB
      have HN := Lib.hid hn; clear hn
      have HM := Lib.hid hm; clear hm
      by_cases hlen : n < m
      · go_wp2_with fail
        refine (add_any m n m n g2 0 _ _ [] [] ys xs _ hdb HM.out (by unfold maxLen; omega) (Nat.le_refl _) (by omega) (hB2.cast (by simp)) rfl (dg_of_blk (hB1'.cast (by simp) : Blk _ _ _ (xs.map U ++ [])) hda n HN.out) (fun q hq => by simp only [Option.some.injEq] at hq; subst hq; show g1 ≠ g2; omega)).mono ?_
        rintro e w3 ⟨c, zs, rfl, hc, hz, hzl, hzv, hB3, hC3⟩
        have HZ := Lib.hid hzl; clear hzl
        have HV := Lib.hid hzv; clear hzv
        have hB4 : Blk w3 g2 52 (zs.map U) := hB3.cast (by simp)
        have hown := own_of_blk (B := w.heap.size) hB4 (cap := m) (n := m) (by rw [List.length_map, HZ.out]) (Nat.le_refl _) (by unfold maxLen; omega) (List.take_of_length_le (by rw [List.length_map, HZ.out]; exact Nat.le_refl _)) (by omega)
        have HB3 := Lib.hid hB3; clear hB3 hB4
        have hsz := hC3.size
        have hsz2 := hC.size
        obtain ⟨i0, hi, hz0, hz1, hz2⟩ := info_parts Tryd.info52
        go_wp2_with (at_builtin; refine wpList_append_own _ rfl _ _ 57 rfl w.heap.size 52 i0 (.int .u64 0) 1 8 Tryd.underlying57 hi hz0 hz1 hz2 rfl (by decide) _ m (zs.map U) rfl (hown.alloc _) ⟨w3.heap.size, 0, none⟩ 1 1 [U c] rfl rfl (Blk.new _ #[U c] _).adds (by simp [one_int]) (by unfold maxLen; omega) (by omega) (by simp; omega) ?_; intro v' w4 hown' hgrow _)
        have hz5 : Dok (zs ++ [c]) := hz.append (Dok.cons hc Dok.nil)
        obtain ⟨p, cap, rfl, hd, _, _, _⟩ := dg_of_own (xs := zs ++ [c]) (by simpa using hown') hz5
        clear hown hown'
        have hgr := Ch.of_grown_own hgrow
        clear hgrow
        have hC5 : Ch w.heap.size none1 w w4 := by
          have h3 := hC.step hC3 (Nat.le_refl _) (fun k hk q => absurd q (by omega))
          exact (h3.alloc (by omega) _).step hgr (Nat.le_refl _) (fun k hk q => absurd q (by omega))
        go_wp2_with fail
        refine (natural_any p _ cap _ _ hd (by omega)).mono ?_
        rintro e w5 ⟨rfl, hC6⟩
        go_wp2_with fail
        go_ret
        refine ⟨ret_S ?_, hC5.step0 hC6 (Nat.le_refl _)⟩
        rw [dv_snoc, HZ.out, HV.out, HXA.out, HXB.out, Nat.add_comm]
      · go_wp2_with fail
        refine (add_any n m n m g1 0 _ _ [] [] xs ys _ hda HN.out (by unfold maxLen; omega) (Nat.le_refl _) (by omega) (hB1'.cast (by simp)) rfl (dg_of_blk (hB2.cast (by simp) : Blk _ _ _ (ys.map U ++ [])) hdb m HM.out) (fun q hq => by simp only [Option.some.injEq] at hq; subst hq; show g2 ≠ g1; omega)).mono ?_
        rintro e w3 ⟨c, zs, rfl, hc, hz, hzl, hzv, hB3, hC3⟩
        have HZ := Lib.hid hzl; clear hzl
        have HV := Lib.hid hzv; clear hzv
        have hB4 : Blk w3 g1 52 (zs.map U) := hB3.cast (by simp)
        have hown := own_of_blk (B := w.heap.size) hB4 (cap := n) (n := n) (by rw [List.length_map, HZ.out]) (Nat.le_refl _) (by unfold maxLen; omega) (List.take_of_length_le (by rw [List.length_map, HZ.out]; exact Nat.le_refl _)) (by omega)
        have HB3 := Lib.hid hB3; clear hB3 hB4
        have hsz := hC3.size
        have hsz2 := hC.size
        obtain ⟨i0, hi, hz0, hz1, hz2⟩ := info_parts Tryd.info52
        go_wp2_with (at_builtin; refine wpList_append_own _ rfl _ _ 57 rfl w.heap.size 52 i0 (.int .u64 0) 1 8 Tryd.underlying57 hi hz0 hz1 hz2 rfl (by decide) _ n (zs.map U) rfl (hown.alloc _) ⟨w3.heap.size, 0, none⟩ 1 1 [U c] rfl rfl (Blk.new _ #[U c] _).adds (by simp [one_int]) (by unfold maxLen; omega) (by omega) (by simp; omega) ?_; intro v' w4 hown' hgrow _)
        have hz5 : Dok (zs ++ [c]) := hz.append (Dok.cons hc Dok.nil)
        obtain ⟨p, cap, rfl, hd, _, _, _⟩ := dg_of_own (xs := zs ++ [c]) (by simpa using hown') hz5
        clear hown hown'
        have hgr := Ch.of_grown_own hgrow
        clear hgrow
        have hC5 : Ch w.heap.size none1 w w4 := by
          have h3 := hC.step hC3 (Nat.le_refl _) (fun k hk q => absurd q (by omega))
          exact (h3.alloc (by omega) _).step hgr (Nat.le_refl _) (fun k hk q => absurd q (by omega))
        go_wp2_with fail
        refine (natural_any p _ cap _ _ hd (by omega)).mono ?_
        rintro e w5 ⟨rfl, hC6⟩
        go_wp2_with fail
        go_ret
        refine ⟨ret_S ?_, hC5.step0 hC6 (Nat.le_refl _)⟩
        rw [dv_snoc, HZ.out, HV.out, HXA.out, HXB.out]
  · go_enter Tryd.func15, Tryd.ntmps15
    go_wp2_with fail
    refine (words_no a b _ ham hbm hw).mono ?_
    rintro e w' ⟨rfl, rfl⟩
    obtain ⟨w, rfl⟩ : ∃ w : World, w = w' := ⟨_, rfl⟩
    clear hw
    go_wp2_with fail
    refine (digitsOf_any a _ (by unfold LIM at ha; omega)).mono ?_
    rintro e w1 ⟨g1, rfl, hB1, hg1, hC1⟩
    go_wp2_with fail
    refine (digitsOf_any b _ (by unfold LIM at hb; omega)).mono ?_
    rintro e w2 ⟨g2, rfl, hB2, hg2, hC2⟩
    have hlt1 := hB1.lt
    have hB1' := hC2.blk hB1 hlt1 (fun q => q)
    have hC := hC1.step0 hC2 (Nat.le_refl _)
    clear hB1 hC1 hC2
    have hXA := dv_ds (bv a)
    have hXB := dv_ds (bv b)
    have hda := dok_ds (bv a)
    have hdb := dok_ds (bv b)
    have hna := ds_lim a ha
    have hnb := ds_lim b hb
    generalize ds (bv a) = xs at *
    generalize ds (bv b) = ys at *
    obtain ⟨n, hn⟩ : ∃ n, xs.length = n := ⟨_, rfl⟩
    obtain ⟨m, hm⟩ : ∃ m, ys.length = m := ⟨_, rfl⟩
    rw [hn] at hna ⊢
    rw [hm] at hnb ⊢
    have HXA := Lib.hid hXA; clear hXA
    have HXB := Lib.hid hXB; clear hXB
    have HN := Lib.hid hn; clear hn
    have HM := Lib.hid hm; clear hm
    by_cases hlen : n < m
    · go_wp2_with fail
      refine (add_any m n m n g2 0 _ _ [] [] ys xs _ hdb HM.out (by unfold maxLen; omega) (Nat.le_refl _) (by omega) (hB2.cast (by simp)) rfl (dg_of_blk (hB1'.cast (by simp) : Blk _ _ _ (xs.map U ++ [])) hda n HN.out) (fun q hq => by simp only [Option.some.injEq] at hq; subst hq; show g1 ≠ g2; omega)).mono ?_
      rintro e w3 ⟨c, zs, rfl, hc, hz, hzl, hzv, hB3, hC3⟩
      have HZ := Lib.hid hzl; clear hzl
      have HV := Lib.hid hzv; clear hzv
      have hB4 : Blk w3 g2 52 (zs.map U) := hB3.cast (by simp)
      have hown := own_of_blk (B := w.heap.size) hB4 (cap := m) (n := m) (by rw [List.length_map, HZ.out]) (Nat.le_refl _) (by unfold maxLen; omega) (List.take_of_length_le (by rw [List.length_map, HZ.out]; exact Nat.le_refl _)) (by omega)
      have HB3 := Lib.hid hB3; clear hB3 hB4
      have hsz := hC3.size
      have hsz2 := hC.size
      obtain ⟨i0, hi, hz0, hz1, hz2⟩ := info_parts Tryd.info52
      go_wp2_with (at_builtin; refine wpList_append_own _ rfl _ _ 57 rfl w.heap.size 52 i0 (.int .u64 0) 1 8 Tryd.underlying57 hi hz0 hz1 hz2 rfl (by decide) _ m (zs.map U) rfl (hown.alloc _) ⟨w3.heap.size, 0, none⟩ 1 1 [U c] rfl rfl (Blk.new _ #[U c] _).adds (by simp [one_int]) (by unfold maxLen; omega) (by omega) (by simp; omega) ?_; intro v' w4 hown' hgrow _)
      have hz5 : Dok (zs ++ [c]) := hz.append (Dok.cons hc Dok.nil)
      obtain ⟨p, cap, rfl, hd, _, _, _⟩ := dg_of_own (xs := zs ++ [c]) (by simpa using hown') hz5
      clear hown hown'
      have hgr := Ch.of_grown_own hgrow
      clear hgrow
      have hC5 : Ch w.heap.size none1 w w4 := by
        have h3 := hC.step hC3 (Nat.le_refl _) (fun k hk q => absurd q (by omega))
        exact (h3.alloc (by omega) _).step hgr (Nat.le_refl _) (fun k hk q => absurd q (by omega))
      go_wp2_with fail
      refine (natural_any p _ cap _ _ hd (by omega)).mono ?_
      rintro e w5 ⟨rfl, hC6⟩
      go_wp2_with fail
      go_ret
      refine ⟨ret_S ?_, hC5.step0 hC6 (Nat.le_refl _)⟩
      rw [dv_snoc, HZ.out, HV.out, HXA.out, HXB.out, Nat.add_comm]
    · go_wp2_with fail
      refine (add_any n m n m g1 0 _ _ [] [] xs ys _ hda HN.out (by unfold maxLen; omega) (Nat.le_refl _) (by omega) (hB1'.cast (by simp)) rfl (dg_of_blk (hB2.cast (by simp) : Blk _ _ _ (ys.map U ++ [])) hdb m HM.out) (fun q hq => by simp only [Option.some.injEq] at hq; subst hq; show g2 ≠ g1; omega)).mono ?_
      rintro e w3 ⟨c, zs, rfl, hc, hz, hzl, hzv, hB3, hC3⟩
      have HZ := Lib.hid hzl; clear hzl
      have HV := Lib.hid hzv; clear hzv
      have hB4 : Blk w3 g1 52 (zs.map U) := hB3.cast (by simp)
      have hown := own_of_blk (B := w.heap.size) hB4 (cap := n) (n := n) (by rw [List.length_map, HZ.out]) (Nat.le_refl _) (by unfold maxLen; omega) (List.take_of_length_le (by rw [List.length_map, HZ.out]; exact Nat.le_refl _)) (by omega)
      have HB3 := Lib.hid hB3; clear hB3 hB4
      have hsz := hC3.size
      have hsz2 := hC.size
      obtain ⟨i0, hi, hz0, hz1, hz2⟩ := info_parts Tryd.info52
      go_wp2_with (at_builtin; refine wpList_append_own _ rfl _ _ 57 rfl w.heap.size 52 i0 (.int .u64 0) 1 8 Tryd.underlying57 hi hz0 hz1 hz2 rfl (by decide) _ n (zs.map U) rfl (hown.alloc _) ⟨w3.heap.size, 0, none⟩ 1 1 [U c] rfl rfl (Blk.new _ #[U c] _).adds (by simp [one_int]) (by unfold maxLen; omega) (by omega) (by simp; omega) ?_; intro v' w4 hown' hgrow _)
      have hz5 : Dok (zs ++ [c]) := hz.append (Dok.cons hc Dok.nil)
      obtain ⟨p, cap, rfl, hd, _, _, _⟩ := dg_of_own (xs := zs ++ [c]) (by simpa using hown') hz5
      clear hown hown'
      have hgr := Ch.of_grown_own hgrow
      clear hgrow
      have hC5 : Ch w.heap.size none1 w w4 := by
        have h3 := hC.step hC3 (Nat.le_refl _) (fun k hk q => absurd q (by omega))
        exact (h3.alloc (by omega) _).step hgr (Nat.le_refl _) (fun k hk q => absurd q (by omega))
      go_wp2_with fail
      refine (natural_any p _ cap _ _ hd (by omega)).mono ?_
      rintro e w5 ⟨rfl, hC6⟩
      go_wp2_with fail
      go_ret
      refine ⟨ret_S ?_, hC5.step0 hC6 (Nat.le_refl _)⟩
      rw [dv_snoc, HZ.out, HV.out, HXA.out, HXB.out]
end Go.Proofs.YtcghnkdfhiancaaDoor
