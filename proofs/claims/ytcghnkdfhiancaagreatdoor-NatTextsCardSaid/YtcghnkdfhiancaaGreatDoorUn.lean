/- The reference implementation's Add. -/
import Derived.Test.YtcghnkdfhiancaaGreatDoorUk
import Derived.Deep.LoopGhost
namespace Go.Proofs.YtcghnkdfhiancaaGreatDoor
open Go.RowKit
set_option maxRecDepth 100000 in
set_option maxHeartbeats 800000 in
theorem refCmp_any (a b : List UInt8) (w : World) (ha : a.length ≤ 10000) (hb : b.length ≤ 10000) :
    Calls Tryz.prog 27 #[S a, S b] w fun e w' => e = .returned (.int .i64 (cmpN (bv a) (bv b))) ∧ w' = w := by
  have HC1 := Lib.hid (fun w => canon_any a w (by omega))
  have HC2 := Lib.hid (fun w => canon_any b w (by omega))
  have ha1 := Nat.le_trans (trimL_len a) ha
  have hb1 := Nat.le_trans (trimL_len b) hb
  have hlt := trim_lt_of_len a b
  have hgt := trim_lt_of_len b a
  have hva := bv_trim a
  have hvb := bv_trim b
  obtain ⟨x, hx⟩ : ∃ x, trimL a = x := ⟨_, rfl⟩
  obtain ⟨y, hy⟩ : ∃ y, trimL b = y := ⟨_, rfl⟩
  rw [hx] at HC1 ha1 hlt hgt hva
  rw [hy] at HC2 hb1 hlt hgt hvb
  clear hx hy ha hb
  by_cases he : x.length = y.length
  · have key := bytesLess_bv x y he
    have key2 := bytesLess_bv y x he.symm
    have inj := bv_inj x y he
    rw [hva, hvb] at key key2 inj
    have he' : (((x.length : Nat) : Int) != (y.length : Nat)) = false := by simp [he]
    have K := Lib.hid key
    have K2 := Lib.hid key2
    have J := Lib.hid inj
    clear key key2 inj he hlt hgt hva hvb
    go_enter Tryz.func27, Tryz.ntmps27
    go_wp2_with (first
      | (go_at_call 16; with_reducible refine (HC1.out _).mono ?_; rintro e w' ⟨rfl, rfl⟩)
      | (go_at_call 16; with_reducible refine (HC2.out _).mono ?_; rintro e w' ⟨rfl, rfl⟩))
    · have h1 : Op.bytesLess x y = true := by assumption
      go_ret
      exact ⟨ret_int (cmpN_lt (K.out.1 h1)).symm, rfl⟩
    · have h1 : ¬ bv a < bv b := fun q => by have := K.out.2 q; simp_all
      have h2 : ¬ x = y := by intro e; subst e; simp_all
      have h3 : ¬ bv a = bv b := fun q => h2 (J.out q)
      go_ret
      exact ⟨ret_int (cmpN_gt (by omega)).symm, rfl⟩
    · have h2 : x = y := by
        have : (!x == y) = false := by assumption
        simpa using this
      have h4 : ¬ bv a < bv b := fun q => by have := K.out.2 q; simp_all
      have h5 : ¬ bv b < bv a := fun q => by
        have h6 := K2.out.2 q
        have h7 : Op.bytesLess x y = false := by assumption
        rw [h2] at h6 h7
        rw [h6] at h7
        cases h7
      go_ret
      exact ⟨ret_int (cmpN_eq (by omega)).symm, rfl⟩
  · have he' : (((x.length : Nat) : Int) != (y.length : Nat)) = true := by simp; omega
    rcases Nat.lt_or_gt_of_ne he with h | h
    · have hc := cmpN_lt (hlt h)
      have hl : ((x.length : Nat) : Int) < (y.length : Nat) := by omega
      have HC := Lib.hid hc
      clear hlt hgt hva hvb hc he
      go_enter Tryz.func27, Tryz.ntmps27
      go_wp2_with (first
        | (go_at_call 16; with_reducible refine (HC1.out _).mono ?_; rintro e w' ⟨rfl, rfl⟩)
        | (go_at_call 16; with_reducible refine (HC2.out _).mono ?_; rintro e w' ⟨rfl, rfl⟩))
      go_ret
      exact ⟨ret_int HC.out.symm, rfl⟩
    · have hc := cmpN_gt (hgt h)
      have hl : ¬ ((x.length : Nat) : Int) < (y.length : Nat) := by omega
      have HC := Lib.hid hc
      clear hlt hgt hva hvb hc he
      go_enter Tryz.func27, Tryz.ntmps27
      go_wp2_with (first
        | (go_at_call 16; with_reducible refine (HC1.out _).mono ?_; rintro e w' ⟨rfl, rfl⟩)
        | (go_at_call 16; with_reducible refine (HC2.out _).mono ?_; rintro e w' ⟨rfl, rfl⟩))
      go_ret
      exact ⟨ret_int HC.out.symm, rfl⟩
set_option maxRecDepth 100000 in
set_option maxHeartbeats 800000 in
theorem refSub_no (a b : List UInt8) (w : World) (ha : a.length ≤ 10000) (hb : b.length ≤ 10000) (h : bv a < bv b) :
    Calls Tryz.prog 10 #[S a, S b] w (Yld w (.tuple #[S [], .bool false])) := by
  have HK := Lib.hid (fun w => refCmp_any a b w ha hb)
  rw [cmpN_lt h] at HK
  clear ha hb h
  go_enter Tryz.func10, Tryz.ntmps10
  go_wp2_with (first
    | (go_at_call 27; with_reducible refine (HK.out _).mono ?_; rintro e w' ⟨rfl, rfl⟩))
  go_ret2
  exact ⟨rfl, Ch.refl _ _ _⟩
set_option maxRecDepth 100000 in
set_option maxHeartbeats 800000 in
theorem refSub_yes (a b : List UInt8) (w : World) (ha : a.length ≤ 10000) (hb : b.length ≤ 10000) (h : bv b ≤ bv a) :
    Calls Tryz.prog 10 #[S a, S b] w (Yld w (.tuple #[S (nb (bv a - bv b)), .bool true])) := by
  have HK := Lib.hid (fun w => refCmp_any a b w ha hb)
  obtain ⟨c, hc⟩ : ∃ c, cmpN (bv a) (bv b) = c := ⟨_, rfl⟩
  have hc0 : ¬ c < 0 := by
    rw [← hc]
    rcases Nat.lt_or_eq_of_le h with q | q
    · rw [cmpN_gt q]; omega
    · rw [cmpN_eq q.symm]; omega
  rw [hc] at HK
  have hla : (es (bv a)).length ≤ 10000 := by have h := es_len_bytes a; have h' := trimL_len a; omega
  have hls := es_len_le (Nat.sub_le (bv a) (bv b))
  have HLA := Lib.hid hla
  have HLS := Lib.hid (Nat.le_trans hls (Nat.le_trans hla (show 10000 ≤ 33333333333 by omega)))
  have HOF1 := Lib.hid (fun w => rof_rd a w (by omega))
  have HOF2 := Lib.hid (fun w => rof_rd b w (by omega))
  have HH := Lib.hid h
  clear hc ha hb h hla hls
  obtain ⟨wo, rfl⟩ : ∃ wo : World, wo = w := ⟨_, rfl⟩
  go_enter Tryz.func10, Tryz.ntmps10
  go_wp2_with (first
    | (go_at_call 27; with_reducible refine (HK.out _).mono ?_; rintro e w' ⟨rfl, rfl⟩))
  refine (HOF1.out _).mono ?_
  rintro e w1 ⟨v1, rfl, hr1, hC1⟩
  have HR1 := Lib.hid hr1
  have HC1 := Lib.hid hC1
  clear hr1 hC1
  go_wp2_with fail
  refine (HOF2.out _).mono ?_
  rintro e w2 ⟨v2, rfl, hr2, hC2⟩
  have HR2 := Lib.hid hr2
  have HR1b := Lib.hid (HR1.out.on hC2)
  have HC2 := Lib.hid (HC1.out.step0 hC2 (Nat.le_refl _))
  clear hr2 hC2 HR1
  go_wp2_with fail
  refine (rminus_any v1 v2 (bv a) (bv b) _ HR1b.out HR2.out HH.out HLA.out).mono ?_
  rintro e w3 ⟨v3, rfl, hr3, hC3⟩
  have HR3 := Lib.hid hr3
  have HC3 := Lib.hid (HC2.out.step0 hC3 (Nat.le_refl _))
  clear hr3 hC3
  go_wp2_with fail
  refine (rnumber_rd v3 (bv a - bv b) _ HR3.out HLS.out).mono ?_
  rintro e w4 ⟨rfl, hC4⟩
  have HC4 := Lib.hid (HC3.out.step0 hC4 (Nat.le_refl _))
  clear hC4
  go_wp2_with fail
  go_ret2
  exact ⟨rfl, HC4.out⟩
end Go.Proofs.YtcghnkdfhiancaaGreatDoor
namespace Go.Proofs.YtcghnkdfhiancaaGreatDoor
open Go.RowKit
set_option maxRecDepth 100000 in
set_option maxHeartbeats 3200000 in
theorem radd_gen (a b : List UInt8) (x y : Int) (p q : Bool) (w : World) (ha : a.length ≤ 1000) (hb : b.length ≤ 1000) (hpq : p = false ∨ (p = true ∧ q = false))
    (h1 : ∀ w, Calls Tryz.prog 24 #[S a, .int .i64 7] w fun e w' => e = .returned (.tuple #[.int .i64 x, .bool p]) ∧ w' = w)
    (h2 : ∀ w, Calls Tryz.prog 24 #[S b, .int .i64 7] w fun e w' => e = .returned (.tuple #[.int .i64 y, .bool q]) ∧ w' = w) :
    Calls Tryz.prog 7 #[S a, S b] w (Yld w (S (nb (bv a + bv b)))) := by
  obtain ⟨i0, hi, hz0, hz1, hz2⟩ := info_parts Tryz.info3
  have H1 := Lib.hid h1
  have H2 := Lib.hid h2
  have HOF1 := Lib.hid (fun w => rof_rd a w (by omega))
  have HOF2 := Lib.hid (fun w => rof_rd b w (by omega))
  have hla : (es (bv a)).length ≤ 1000 := by have h := es_len_bytes a; have h' := trimL_len a; omega
  have hlb : (es (bv b)).length ≤ 1000 := by have h := es_len_bytes b; have h' := trimL_len b; omega
  have hua := ev_es (bv a)
  have hub := ev_es (bv b)
  obtain ⟨A, hA⟩ : ∃ A, bv a = A := ⟨_, rfl⟩
  obtain ⟨B, hB⟩ : ∃ B, bv b = B := ⟨_, rfl⟩
  rw [hA] at hla hua HOF1 ⊢
  rw [hB] at hlb hub HOF2 ⊢
  obtain ⟨us, hus⟩ : ∃ us, es A = us := ⟨_, rfl⟩
  obtain ⟨vs, hvs⟩ : ∃ vs, es B = vs := ⟨_, rfl⟩
  have HUS := Lib.hid hus
  have HVS := Lib.hid hvs
  rw [hus] at hla hua
  rw [hvs] at hlb hub
  have HUA := Lib.hid hua
  have HUB := Lib.hid hub
  clear h1 h2 hua hub hA hB hus hvs ha hb
  obtain ⟨n, hn⟩ : ∃ n, us.length = n := ⟨_, rfl⟩
  obtain ⟨m, hm⟩ : ∃ m, vs.length = m := ⟨_, rfl⟩
  rw [hn] at hla
  rw [hm] at hlb
  have HN := Lib.hid hn
  have HM := Lib.hid hm
  clear hn hm
  obtain ⟨wo, rfl⟩ : ∃ wo : World, wo = w := ⟨_, rfl⟩
  rcases hpq with rfl | ⟨rfl, rfl⟩
  all_goals
    go_enter Tryz.func7, Tryz.ntmps7
    go_wp2_with (first
      | (go_at_call 24; with_reducible refine (H1.out _).mono ?_; rintro e w' ⟨rfl, rfl⟩)
      | (go_at_call 24; with_reducible refine (H2.out _).mono ?_; rintro e w' ⟨rfl, rfl⟩))
    refine (HOF1.out _).mono ?_
    rintro e w1 ⟨v1, rfl, hr1, hC1⟩
    obtain ⟨p1, n1, c1, rfl, hnc1, hcm1, _, hd1⟩ := hr1
    rw [HUS.out] at hd1
    obtain rfl : n1 = n := hd1.len.symm.trans HN.out
    have HD1 := Lib.hid hd1
    have HC1 := Lib.hid hC1
    clear hd1 hC1
    go_wp2_with fail
    refine (HOF2.out _).mono ?_
    rintro e w2 ⟨v2, rfl, hr2, hC2⟩
    obtain ⟨p2, n2, c2, rfl, hnc2, hcm2, _, hd2⟩ := hr2
    rw [HVS.out] at hd2
    obtain rfl : n2 = m := hd2.len.symm.trans HM.out
    have HD2 := Lib.hid hd2
    have HC2 := Lib.hid (HC1.out.step0 hC2 (Nat.le_refl _))
    have HD1b := Lib.hid (HD1.out.on hC2)
    clear hd2 hC2 HD1 HC1
    go_wp2_with fail
    have hlt1 := HD1b.out.lt_size
    have hlt2 := HD2.out.lt_size
    have hd13 := HD1b.out
    have hd23 := HD2.out
    obtain ⟨Bq, hBq⟩ : ∃ B, w2.heap.size = B := ⟨_, rfl⟩
    rw [hBq] at hlt1 hlt2
    have HDA1 := Lib.hid (fun (wr : World) (h : Ch Bq none1 w2 wr) => Di.ch h hd13 hlt1)
    have HDA2 := Lib.hid (fun (wr : World) (h : Ch Bq none1 w2 wr) => Di.ch h hd23 hlt2)
    have HCW := Lib.hid HC2.out
    clear hlt1 hlt2 hd13 hd23 HC2 HD1b HD2 HOF1 HOF2 H1 H2
    obtain ⟨wo2, hwo2⟩ : ∃ wo2 : World, wo2 = w2 := ⟨_, rfl⟩
    rw [← hwo2] at hBq HDA1 HDA2 HCW ⊢
    clear hwo2
    obtain ⟨N, hN⟩ : ∃ N, N = max n1 n2 + 1 := ⟨_, rfl⟩
    have hN1 : n1 < N := by omega
    have hN2 : n2 < N := by omega
    have hN3 : N ≤ 1001 := by omega
    have hN4 : ∀ k, k + 1 = N → n1 ≤ k ∧ n2 ≤ k := by omega
    have HN4 := Lib.hid hN4
    clear hN hN4
    go_loopg [11, 12, 13] N (fun gh o cc i wr => ∃ (k c : Nat) (zs : List Nat), k ≤ N ∧ gh = N - k ∧ i = I k ∧ cc = I c ∧ c < 2 ∧ zs.length = k ∧ Eok zs ∧ Own wr Bq 3 o (zs.map I) ∧
      ev zs + E24 ^ k * c = ev (us.take k) + ev (vs.take k) ∧ (k = N → c = 0) ∧ Ch Bq none1 wo2 wr)
    case atStart => exact ⟨0, 0, [], Nat.zero_le _, rfl, rfl, rfl, by omega, rfl, Eok.nil, Own.nil _ _ _, by simp [ev], fun _ => rfl, Ch.refl _ _ _⟩
    case round =>
      obtain ⟨k, c, zs, hk, rfl, rfl, rfl, hc, hzl, hz, hown, hzv, hend0, hC⟩ := hrel
      have HZ := Lib.hid hzl; clear hzl
      have HZK := Lib.hid hz; clear hz
      have HO := Lib.hid hown; clear hown
      have HZV := Lib.hid hzv; clear hzv
      have HCH := Lib.hid hC; clear hC
      have HSZ := Lib.hid (show Bq ≤ wr.heap.size by have := HCH.out.size; omega)
      have hd1 := HDA1.out _ HCH.out
      have hd2 := HDA2.out _ HCH.out
      have htx := ev_getD us k
      have hty := ev_getD vs k
      have hxb := getD_lt us hd1.lt k
      have hyb := getD_lt vs hd2.lt k
      have hx0 : ∀ h : k < n1, us.getD k 0 = us[k]'(by rw [HN.out]; exact h) := fun h => by rw [List.getD_eq_getElem?_getD, List.getElem?_eq_getElem (by rw [HN.out]; exact h)]; rfl
      have hx1 : ¬ k < n1 → us.getD k 0 = 0 := fun h => by rw [List.getD_eq_getElem?_getD, List.getElem?_eq_none (by rw [HN.out]; omega)]; rfl
      have hy0 : ∀ h : k < n2, vs.getD k 0 = vs[k]'(by rw [HM.out]; exact h) := fun h => by rw [List.getD_eq_getElem?_getD, List.getElem?_eq_getElem (by rw [HM.out]; exact h)]; rfl
      have hy1 : ¬ k < n2 → vs.getD k 0 = 0 := fun h => by rw [List.getD_eq_getElem?_getD, List.getElem?_eq_none (by rw [HM.out]; omega)]; rfl
      obtain ⟨x, hx⟩ : ∃ x, us.getD k 0 = x := ⟨_, rfl⟩
      obtain ⟨y, hy⟩ : ∃ y, vs.getD k 0 = y := ⟨_, rfl⟩
      rw [hx] at htx hxb hx0 hx1
      rw [hy] at hty hyb hy0 hy1
      have hput := add_put zs k c x y _ _ HZ.out HZV.out
      rw [← htx, ← hty] at hput
      unfold E24 at hxb hyb
      have hN4 := HN4.out k
      clear htx hty hx hy
      by_cases hkn : k < n1
      · have hkN : k + 1 ≤ N := by omega
        by_cases hkm : k < n2
        · clear hend0
          obtain ⟨gx, rfl⟩ := hd1.addr (by omega)
          have hgx := hd1.get0 k hkn
          rw [← hx0 hkn] at hgx
          obtain ⟨gy, rfl⟩ := hd2.addr (by omega)
          have hgy := hd2.get0 k hkm
          rw [← hy0 hkm] at hgy
          have hr := rem24 (c + x + y)
          have hq := quo24 (c + x + y)
          have hdiv : (c + x + y) / E24 < 2 := by rw [E24_eq, Nat.div_lt_iff_lt_mul (by omega)]; omega
          have hmod : (c + x + y) % E24 < E24 := Nat.mod_lt _ E24_pos
          have hend : k + 1 = N → (c + x + y) / E24 = 0 := fun h => by rw [E24_eq]; omega
          obtain ⟨rr, hrr⟩ : ∃ rr, (c + x + y) % E24 = rr := ⟨_, rfl⟩
          obtain ⟨qq, hqq⟩ : ∃ qq, (c + x + y) / E24 = qq := ⟨_, rfl⟩
          rw [hrr] at hput hr hmod
          rw [hqq] at hput hq hdiv hend
          rw [Int.natCast_add, Int.natCast_add] at hr hq
          have HP := Lib.hid hput
          have HMD := Lib.hid hmod
          have HDV := Lib.hid hdiv
          have HEND := Lib.hid hend
          clear hput hmod hrr hqq hend hd1 hd2 hx0 hx1 hy0 hy1
          go_wp2_with (at_builtin; refine wpList_append_up _ rfl _ _ 46 rfl Bq 3 i0 .i64 0 8 Tryz.underlying46 hi hz0 hz1 hz2 (by decide) _ _ rfl (HO.out.ch (Ch.alloc0 _)) ⟨wr.heap.size, 0, none⟩ 1 1 [_] rfl rfl (new_cell _ _ _) (one_one _ _) (by rw [List.length_map, HZ.out]; omega) (size_alloc_le _ HSZ.out) ?_; intro v' w4 hown' hC1)
          go_roundg (N - (k + 1))
          case measure => omega
          case rel =>
            refine ⟨k + 1, qq, zs ++ [rr], by omega, rfl, by go_num, rfl, HDV.out, by rw [List.length_append, HZ.out]; rfl, HZK.out.append (Eok.cons HMD.out Eok.nil), ?_, HP.out, HEND.out, (HCH.out.alloc HSZ.out _).trans hC1⟩
            rw [List.map_append]; exact hown'
        · clear hend0
          obtain ⟨gx, rfl⟩ := hd1.addr (by omega)
          have hgx := hd1.get0 k hkn
          rw [← hx0 hkn] at hgx
          obtain rfl := hy1 hkm
          simp only [Nat.add_zero] at hput
          have hr := rem24 (c + x)
          have hq := quo24 (c + x)
          have hdiv : (c + x) / E24 < 2 := by rw [E24_eq, Nat.div_lt_iff_lt_mul (by omega)]; omega
          have hmod : (c + x) % E24 < E24 := Nat.mod_lt _ E24_pos
          have hend : k + 1 = N → (c + x) / E24 = 0 := fun h => by rw [E24_eq]; omega
          obtain ⟨rr, hrr⟩ : ∃ rr, (c + x) % E24 = rr := ⟨_, rfl⟩
          obtain ⟨qq, hqq⟩ : ∃ qq, (c + x) / E24 = qq := ⟨_, rfl⟩
          rw [hrr] at hput hr hmod
          rw [hqq] at hput hq hdiv hend
          rw [Int.natCast_add] at hr hq
          have HP := Lib.hid hput
          have HMD := Lib.hid hmod
          have HDV := Lib.hid hdiv
          have HEND := Lib.hid hend
          clear hput hmod hrr hqq hend hd1 hd2 hx0 hx1 hy0 hy1
          go_wp2_with (at_builtin; refine wpList_append_up _ rfl _ _ 46 rfl Bq 3 i0 .i64 0 8 Tryz.underlying46 hi hz0 hz1 hz2 (by decide) _ _ rfl (HO.out.ch (Ch.alloc0 _)) ⟨wr.heap.size, 0, none⟩ 1 1 [_] rfl rfl (new_cell _ _ _) (one_one _ _) (by rw [List.length_map, HZ.out]; omega) (size_alloc_le _ HSZ.out) ?_; intro v' w4 hown' hC1)
          go_roundg (N - (k + 1))
          case measure => omega
          case rel =>
            refine ⟨k + 1, qq, zs ++ [rr], by omega, rfl, by go_num, rfl, HDV.out, by rw [List.length_append, HZ.out]; rfl, HZK.out.append (Eok.cons HMD.out Eok.nil), ?_, HP.out, HEND.out, (HCH.out.alloc HSZ.out _).trans hC1⟩
            rw [List.map_append]; exact hown'
      · by_cases hkm : k < n2
        · have hkN : k + 1 ≤ N := by omega
          clear hend0
          obtain rfl := hx1 hkn
          obtain ⟨gy, rfl⟩ := hd2.addr (by omega)
          have hgy := hd2.get0 k hkm
          rw [← hy0 hkm] at hgy
          simp only [Nat.add_zero] at hput
          have hr := rem24 (c + y)
          have hq := quo24 (c + y)
          have hdiv : (c + y) / E24 < 2 := by rw [E24_eq, Nat.div_lt_iff_lt_mul (by omega)]; omega
          have hmod : (c + y) % E24 < E24 := Nat.mod_lt _ E24_pos
          have hend : k + 1 = N → (c + y) / E24 = 0 := fun h => by rw [E24_eq]; omega
          obtain ⟨rr, hrr⟩ : ∃ rr, (c + y) % E24 = rr := ⟨_, rfl⟩
          obtain ⟨qq, hqq⟩ : ∃ qq, (c + y) / E24 = qq := ⟨_, rfl⟩
          rw [hrr] at hput hr hmod
          rw [hqq] at hput hq hdiv hend
          rw [Int.natCast_add] at hr hq
          have HP := Lib.hid hput
          have HMD := Lib.hid hmod
          have HDV := Lib.hid hdiv
          have HEND := Lib.hid hend
          clear hput hmod hrr hqq hend hd1 hd2 hx0 hx1 hy0 hy1
          go_wp2_with (at_builtin; refine wpList_append_up _ rfl _ _ 46 rfl Bq 3 i0 .i64 0 8 Tryz.underlying46 hi hz0 hz1 hz2 (by decide) _ _ rfl (HO.out.ch (Ch.alloc0 _)) ⟨wr.heap.size, 0, none⟩ 1 1 [_] rfl rfl (new_cell _ _ _) (one_one _ _) (by rw [List.length_map, HZ.out]; omega) (size_alloc_le _ HSZ.out) ?_; intro v' w4 hown' hC1)
          go_roundg (N - (k + 1))
          case measure => omega
          case rel =>
            refine ⟨k + 1, qq, zs ++ [rr], by omega, rfl, by go_num, rfl, HDV.out, by rw [List.length_append, HZ.out]; rfl, HZK.out.append (Eok.cons HMD.out Eok.nil), ?_, HP.out, HEND.out, (HCH.out.alloc HSZ.out _).trans hC1⟩
            rw [List.map_append]; exact hown'
        · by_cases hc0 : 0 < c
          · have hkN : k + 1 ≤ N := by
              rcases Nat.lt_or_eq_of_le hk with q | q
              · omega
              · have := hend0 q; omega
            clear hend0
            obtain rfl := hx1 hkn
            obtain rfl := hy1 hkm
            simp only [Nat.add_zero] at hput
            have hr := rem24 (c)
            have hq := quo24 (c)
            have hdiv : (c) / E24 < 2 := by rw [E24_eq, Nat.div_lt_iff_lt_mul (by omega)]; omega
            have hmod : (c) % E24 < E24 := Nat.mod_lt _ E24_pos
            have hend : k + 1 = N → (c) / E24 = 0 := fun h => by rw [E24_eq]; omega
            obtain ⟨rr, hrr⟩ : ∃ rr, (c) % E24 = rr := ⟨_, rfl⟩
            obtain ⟨qq, hqq⟩ : ∃ qq, (c) / E24 = qq := ⟨_, rfl⟩
            rw [hrr] at hput hr hmod
            rw [hqq] at hput hq hdiv hend
            have HP := Lib.hid hput
            have HMD := Lib.hid hmod
            have HDV := Lib.hid hdiv
            have HEND := Lib.hid hend
            clear hput hmod hrr hqq hend hd1 hd2 hx0 hx1 hy0 hy1
            go_wp2_with (at_builtin; refine wpList_append_up _ rfl _ _ 46 rfl Bq 3 i0 .i64 0 8 Tryz.underlying46 hi hz0 hz1 hz2 (by decide) _ _ rfl (HO.out.ch (Ch.alloc0 _)) ⟨wr.heap.size, 0, none⟩ 1 1 [_] rfl rfl (new_cell _ _ _) (one_one _ _) (by rw [List.length_map, HZ.out]; omega) (size_alloc_le _ HSZ.out) ?_; intro v' w4 hown' hC1)
            go_roundg (N - (k + 1))
            case measure => omega
            case rel =>
              refine ⟨k + 1, qq, zs ++ [rr], by omega, rfl, by go_num, rfl, HDV.out, by rw [List.length_append, HZ.out]; rfl, HZK.out.append (Eok.cons HMD.out Eok.nil), ?_, HP.out, HEND.out, (HCH.out.alloc HSZ.out _).trans hC1⟩
              rw [List.map_append]; exact hown'
          · have hc1 : c = 0 := by omega
            subst hc1
            have hev : ev zs = A + B := by
              have h := HZV.out
              rw [List.take_of_length_le (by rw [HN.out]; omega), List.take_of_length_le (by rw [HM.out]; omega), HUA.out, HUB.out] at h
              simpa using h
            obtain ⟨p', cap', rfl, q1, q2, q0, qd, _⟩ := Own.di HO.out HZK.out
            have hzk : zs.length ≤ 33333333333 := by rw [HZ.out]; omega
            have HNUM := Lib.hid (rnumber_any p' _ cap' zs _ qd hzk)
            rw [hev] at HNUM
            clear hev qd hend0 hput hd1 hd2 hx0 hx1 hy0 hy1
            go_wp2_with fail
            refine HNUM.out.mono ?_
            rintro e w9 ⟨rfl, hC9⟩
            go_wp2_with fail
            go_ret
            exact ⟨rfl, (HCW.out.trans (HCH.out.mono (by have := HCW.out.size; omega) (fun _ _ q => q))).step0 hC9 (Nat.le_refl _)⟩
theorem radd_any (a b : List UInt8) (w : World) (ha : a.length ≤ 1000) (hb : b.length ≤ 1000) :
    Calls Tryz.prog 7 #[S a, S b] w (Yld w (S (nb (bv a + bv b)))) := by
  by_cases h1 : bv a < 256 ^ 7
  · by_cases h2 : bv b < 256 ^ 7
    · have s1 : ∀ w, Calls Tryz.prog 24 #[S a, .int .i64 7] w fun e w' => e = .returned (.tuple #[.int .i64 (bv a : Nat), .bool true]) ∧ w' = w := fun w => small_yes a 7 w (by omega) (by omega) h1
      have s2 : ∀ w, Calls Tryz.prog 24 #[S b, .int .i64 7] w fun e w' => e = .returned (.tuple #[.int .i64 (bv b : Nat), .bool true]) ∧ w' = w := fun w => small_yes b 7 w (by omega) (by omega) h2
      have H1 := Lib.hid s1
      have H2 := Lib.hid s2
      clear s1 s2
      obtain ⟨A, hA⟩ : ∃ A, bv a = A := ⟨_, rfl⟩
      obtain ⟨B, hB⟩ : ∃ B, bv b = B := ⟨_, rfl⟩
      rw [hA] at h1 H1 ⊢
      rw [hB] at h2 H2 ⊢
      have h1' : A < 72057594037927936 := h1
      have h2' : B < 72057594037927936 := h2
      have HOF := Lib.hid (show ∀ w, Calls Tryz.prog 9 #[.int .i64 ((A : Int) + (B : Int))] w (Yld w (S (nb (A + B)))) from fun w => refOf_any ((A : Int) + (B : Int)) w (by omega) (by omega))
      clear h1 h2 hA hB ha hb
      go_enter Tryz.func7, Tryz.ntmps7
      go_wp2_with (first
        | (go_at_call 24; with_reducible refine (H1.out _).mono ?_; rintro e w' ⟨rfl, rfl⟩)
        | (go_at_call 24; with_reducible refine (H2.out _).mono ?_; rintro e w' ⟨rfl, rfl⟩)
        | (go_at_call 9; with_reducible refine (HOF.out _).mono ?_; rintro e w' ⟨rfl, hC⟩))
      go_ret
      exact ⟨rfl, hC⟩
    · exact radd_gen a b _ _ true false w ha hb (.inr ⟨rfl, rfl⟩) (fun w => small_yes a 7 w (by omega) (by omega) h1) (fun w => small_no b 7 w (by omega) (by omega) h2)
  · by_cases h2 : bv b < 256 ^ 7
    · exact radd_gen a b _ _ false true w ha hb (.inl rfl) (fun w => small_no a 7 w (by omega) (by omega) h1) (fun w => small_yes b 7 w (by omega) (by omega) h2)
    · exact radd_gen a b _ _ false false w ha hb (.inl rfl) (fun w => small_no a 7 w (by omega) (by omega) h1) (fun w => small_no b 7 w (by omega) (by omega) h2)
theorem C_radd {a b l : List UInt8} {n : Nat} (hl : nb n = l) (ha : a.length ≤ 1000) (hb : b.length ≤ 1000) (hn : bv a + bv b = n) : Ans 7 #[S a, S b] (S l) := fun w =>
  (radd_any a b w ha hb).mono fun _ _ ⟨he, hC⟩ => ⟨by rw [he, hn, hl], hC⟩
theorem C_rcmp {a b : List UInt8} {k : Int} (ha : a.length ≤ 10000) (hb : b.length ≤ 10000) (hn : cmpN (bv a) (bv b) = k) : Ans 27 #[S a, S b] (.int .i64 k) := fun w =>
  (refCmp_any a b w ha hb).mono fun _ _ ⟨he, hC⟩ => ⟨by rw [he, hn], ch_same hC⟩
/-- Sub of both packages answers alike. -/
theorem C_sub_both {a b : List UInt8} (ha : a.length ≤ 10000) (hb : b.length ≤ 10000) : ∃ (l : List UInt8) (ok : Bool), Ans 20 #[S a, S b] (.tuple #[S l, .bool ok]) ∧ Ans 10 #[S a, S b] (.tuple #[S l, .bool ok]) ∧ (bv b ≤ bv a → nb (bv a - bv b) = l ∧ ok = true) := by
  rcases Nat.lt_or_ge (bv a) (bv b) with h | h
  · exact ⟨[], false, C_sub_no ha hb h, fun w => refSub_no a b w ha hb h, fun q => by omega⟩
  · exact ⟨_, true, C_sub rfl ha hb (by omega), fun w => refSub_yes a b w ha hb h, fun _ => ⟨rfl, rfl⟩⟩
end Go.Proofs.YtcghnkdfhiancaaGreatDoor
