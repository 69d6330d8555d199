/- The reference implementation's Mul. -/
import Derived.Test.YtcghnkdfhiancaaDoorUk
import Derived.Deep.LoopGhost
namespace Go.Proofs.YtcghnkdfhiancaaDoor
open Go.RowKit
theorem di_of_blk {w : World} {g : Nat} {t : TypeId} {zs : List Nat} (h : Blk w g t (zs.map I)) (hz : Eok zs) (n : Nat) (hn : zs.length = n) : Di w (some ⟨g, 0, none⟩) n zs :=
  ⟨hn, hz, fun h => (by cases h), fun a ha => by
    obtain rfl := Option.some.inj ha
    exact ⟨rfl, rfl, t, [], h.cast (by simp)⟩⟩
theorem set_map (zs : List Nat) (j v : Nat) : (zs.map I).set j (I v) = (zs.set j v).map I := by rw [List.map_set]
set_option maxRecDepth 100000 in
set_option maxHeartbeats 3200000 in
theorem rmul_gen (a b : List UInt8) (x y : Int) (p q : Bool) (w : World) (ha : a.length ≤ 1000) (hb : b.length ≤ 1000) (hpq : p = false ∨ (p = true ∧ q = false))
    (h1 : ∀ w, Calls Tryd.prog 47 #[S a, .int .i64 3] w fun e w' => e = .returned (.tuple #[.int .i64 x, .bool p]) ∧ w' = w)
    (h2 : ∀ w, Calls Tryd.prog 47 #[S b, .int .i64 4] w fun e w' => e = .returned (.tuple #[.int .i64 y, .bool q]) ∧ w' = w) :
    Calls Tryd.prog 22 #[S a, S b] w (Yld w (S (nb (bv a * bv b)))) := by
  obtain ⟨i0, hi, hz0, hz1, hz2⟩ := info_parts Tryd.info3
  have H1 := Lib.hid h1
  have H2 := Lib.hid h2
  have HOF1 := Lib.hid (fun w => rof_rd a w (by omega))
  have HOF2 := Lib.hid (fun w => rof_rd b w (by omega))
  have hla : (es (bv a)).length ≤ 1000 := by have h := es_len_bytes a; have h' := trimL_len a; omega
  have hlb : (es (bv b)).length ≤ 1000 := by have h := es_len_bytes b; have h' := trimL_len b; omega
  have hua := ev_es (bv a)
  have hub := ev_es (bv b)
  have hprod : bv a * bv b < E24 ^ ((es (bv a)).length + (es (bv b)).length) := mul_bound E24 _ _ _ _ ((es_len _ _).1 (Nat.le_refl _)) ((es_len _ _).1 (Nat.le_refl _))
  obtain ⟨A, hA⟩ : ∃ A, bv a = A := ⟨_, rfl⟩
  obtain ⟨B, hB⟩ : ∃ B, bv b = B := ⟨_, rfl⟩
  rw [hA] at hla hua hprod HOF1 ⊢
  rw [hB] at hlb hub hprod HOF2 ⊢
  obtain ⟨us, hus⟩ : ∃ us, es A = us := ⟨_, rfl⟩
  obtain ⟨vs, hvs⟩ : ∃ vs, es B = vs := ⟨_, rfl⟩
  have HUS := Lib.hid hus
  have HVS := Lib.hid hvs
  rw [hus] at hla hua hprod
  rw [hvs] at hlb hub hprod
  have HUA := Lib.hid hua
  have HUB := Lib.hid hub
  have HPR := Lib.hid hprod
  clear h1 h2 hua hub hA hB hus hvs hprod ha hb
  obtain ⟨n, hn⟩ : ∃ n, us.length = n := ⟨_, rfl⟩
  obtain ⟨m, hm⟩ : ∃ m, vs.length = m := ⟨_, rfl⟩
  rw [hn] at hla HPR
  rw [hm] at hlb HPR
  have HN := Lib.hid hn
  have HM := Lib.hid hm
  have hnm : ((n : Int) + (m : Int)) = ((n + m : Nat) : Int) := by omega
  have HNM := Lib.hid hnm
  clear hn hm hnm
  obtain ⟨wo, rfl⟩ : ∃ wo : World, wo = w := ⟨_, rfl⟩
  rcases hpq with rfl | ⟨rfl, rfl⟩
  all_goals
    go_enter Tryd.func22, Tryd.ntmps22
    go_wp2_with (first
      | (go_at_call 47; with_reducible refine (H1.out _).mono ?_; rintro e w' ⟨rfl, rfl⟩)
      | (go_at_call 47; with_reducible refine (H2.out _).mono ?_; rintro e w' ⟨rfl, rfl⟩))
    refine (HOF1.out _).mono ?_
    rintro e w1 ⟨v1, rfl, hr1, hC1⟩
    obtain ⟨p1, n1, c1, rfl, hnc1, hcm1, _, hd1⟩ := hr1
    rw [HUS.out] at hd1
    obtain rfl : n1 = n := hd1.len.symm.trans HN.out
    have HD1 := Lib.hid hd1
    have HC1 := Lib.hid hC1
    clear hd1 hC1
    go_wp2_with fail
    refine (HOF2.out _).mono ?_
    rintro e w2 ⟨v2, rfl, hr2, hC2⟩
    obtain ⟨p2, n2, c2, rfl, hnc2, hcm2, _, hd2⟩ := hr2
    rw [HVS.out] at hd2
    obtain rfl : n2 = m := hd2.len.symm.trans HM.out
    have HD2 := Lib.hid hd2
    have HC2 := Lib.hid (HC1.out.step0 hC2 (Nat.le_refl _))
    have HD1b := Lib.hid (HD1.out.on hC2)
    clear hd2 hC2 HD1 HC1
    obtain ⟨nn, hnn⟩ : ∃ nn, n1 + n2 = nn := ⟨_, rfl⟩
    rw [hnn] at HNM HPR
    have hnl : nn ≤ 2000 := by omega
    have HNN := Lib.hid hnn
    clear hnn
    go_wp2_with (at_make; refine wpList_make_blk _ rfl _ _ 38 rfl 3 i0 .i64 0 Tryd.underlying38 hi hz0 hz1 .i64 .i64 _ _ nn rfl rfl HNM.out HNM.out (by rw [hz2]; omega) (by unfold maxLen; omega) ?_; intro w3 hB3 hC3)
    have hlt1 := HD1b.out.lt_size
    have hlt2 := HD2.out.lt_size
    have hwo := HC2.out.size
    have hcw := HC2.out.step0 hC3 (Nat.le_refl _)
    have hd13 := HD1b.out.on hC3
    have hd23 := HD2.out.on hC3
    obtain ⟨Bq, hBq⟩ : ∃ B, w2.heap.size = B := ⟨_, rfl⟩
    rw [hBq] at hlt1 hlt2 hwo hB3 ⊢
    have HDA1 := Lib.hid (fun (wr : World) (h : Ch Bq none1 w3 wr) => Di.ch h hd13 hlt1)
    have HDA2 := Lib.hid (fun (wr : World) (h : Ch Bq none1 w3 wr) => Di.ch h hd23 hlt2)
    have HWO := Lib.hid hwo
    have HCW := Lib.hid hcw
    have hst0 : ev ((List.replicate nn 0).take (0 + n2)) = ev (us.take 0) * ev vs := by
      rw [List.take_replicate, ev_zeros]
      simp [ev]
    have HB3 := Lib.hid (hB3.cast (show List.replicate nn (Value.int .i64 0) = (List.replicate nn 0).map I by rw [List.map_replicate]; rfl))
    clear hlt1 hlt2 hwo hcw hd13 hd23 hB3 hC3 hBq HC2 HD1b HD2 HOF1 HOF2 H1 H2
    go_loopg [12] n1 (fun gh i wr => ∃ (k : Nat) (zs : List Nat), k ≤ n1 ∧ gh = n1 - k ∧ i = I k ∧ zs.length = nn ∧ Eok zs ∧ ev (zs.take (k + n2)) = ev (us.take k) * ev vs ∧ Blk wr Bq 3 (zs.map I) ∧ Ch Bq none1 w3 wr)
    case atStart => exact ⟨0, List.replicate nn 0, Nat.zero_le _, rfl, rfl, by simp, Eok.zeros _, hst0, HB3.out, Ch.refl _ _ _⟩
    case round =>
      clear hst0 HB3
      obtain ⟨k, zs, hk, rfl, rfl, hzl, hz, hzv, hB', hC'⟩ := hrel
      have HZ := Lib.hid hzl; clear hzl
      have HZK := Lib.hid hz; clear hz
      have HZV := Lib.hid hzv; clear hzv
      have HB := Lib.hid hB'; clear hB'
      have HC := Lib.hid hC'; clear hC'
      by_cases hlt : k < n1
      · have hd1 := HDA1.out _ HC.out
        obtain ⟨gx, rfl⟩ := hd1.addr (by omega)
        have hkx : k < us.length := by rw [HN.out]; exact hlt
        have hts := ev_take_succ us k hkx
        have hub := hd1.lt.get k hkx
        obtain ⟨u, hu⟩ : ∃ u, us[k] = u := ⟨_, rfl⟩
        have HU := Lib.hid hu
        rw [hu] at hts hub
        have HTS := Lib.hid hts
        unfold E24 at hub
        have hknn : (k : Int) + (n2 : Int) < (nn : Int) := by have := HNN.out; omega
        obtain ⟨W, hW⟩ : ∃ W, ev (us.take k) * ev vs = W := ⟨_, rfl⟩
        have hzv0 := HZV.out
        rw [hW] at hzv0
        have HW := Lib.hid hW
        have HZV0 := Lib.hid hzv0
        clear hts hu hd1 hW hzv0
        go_wp2_with fail
        go_loopg [13, 14] n2 (fun gh c j wi => ∃ (jn cN : Nat) (zs : List Nat), jn ≤ n2 ∧ gh = n2 - jn ∧ c = I cN ∧ cN < 16777216 ∧ j = I jn ∧ zs.length = nn ∧ Eok zs ∧
          ev (zs.take (k + n2)) + E24 ^ (k + jn) * cN = W + E24 ^ k * (u * ev (vs.take jn)) ∧ Blk wi Bq 3 (zs.map I) ∧ Ch Bq none1 w3 wi)
        case atStart => exact ⟨0, 0, zs, Nat.zero_le _, rfl, rfl, by omega, rfl, HZ.out, HZK.out, by rw [HZV0.out]; simp [ev], HB.out, HC.out⟩
        case round =>
          clear HZ HZK HZV HZV0 HB HC zs
          obtain ⟨j, c, zs, hj, rfl, rfl, hc, rfl, hzl, hz, hzv, hB', hC'⟩ := hrel
          have HZ := Lib.hid hzl; clear hzl
          have HZK := Lib.hid hz; clear hz
          have HZV := Lib.hid hzv; clear hzv
          have HB := Lib.hid hB'; clear hB'
          have HC := Lib.hid hC'; clear hC'
          by_cases hjl : j < n2
          · have hd1 := HDA1.out _ HC.out
            have hd2 := HDA2.out _ HC.out
            have hgu := hd1.get0 k hlt
            rw [HU.out] at hgu
            obtain ⟨gy, rfl⟩ := hd2.addr (by omega)
            have hgv := hd2.get0 j hjl
            have hjv : j < vs.length := by rw [HM.out]; exact hjl
            have hty := ev_take_succ vs j hjv
            have hvb := hd2.lt.get j hjv
            obtain ⟨v, hv⟩ : ∃ v, vs[j] = v := ⟨_, rfl⟩
            rw [hv] at hgv hty hvb
            unfold E24 at hvb
            have hpos : k + j < zs.length := by rw [HZ.out, ← HNN.out]; omega
            have hzc : _ = some (I (zs[k + j])) := (HB.out.cell (k + j)).trans (by rw [List.getElem?_map, List.getElem?_eq_getElem hpos]; rfl)
            have hfz := HB.out.frozen (k + j)
            have hzb := HZK.out.get (k + j) hpos
            have hput := mul_put zs k n2 j u v c (zs[k + j] + u * v + c) _ hjl hpos HZV.out rfl
            have hset := fun r => HB.out.drewN (n := 0) |>.set (k + j) (I r)
            obtain ⟨z, hzz⟩ : ∃ z, zs[k + j] = z := ⟨_, rfl⟩
            rw [hzz] at hzc hzb hput
            unfold E24 at hzb
            have hmul : u * v ≤ 16777215 * 16777215 := Nat.mul_le_mul (by omega) (by omega)
            obtain ⟨m, hm⟩ : ∃ m, u * v = m := ⟨_, rfl⟩
            have hmi : (u : Int) * (v : Int) = (m : Int) := by rw [← hm, Int.natCast_mul]
            rw [hm] at hmul
            have hnew : W + E24 ^ k * (u * ev (vs.take j)) + E24 ^ k * (u * (E24 ^ j * v)) = W + E24 ^ k * (u * ev (vs.take (j + 1))) := by
              rw [hty, Nat.mul_add, Nat.mul_add, Nat.add_assoc]
            rw [hnew, hm] at hput
            have hmb : m ≤ 281474943156225 := by omega
            have hr := rem24 (z + m + c)
            have hq := quo24 (z + m + c)
            have hdiv : (z + m + c) / E24 < 16777216 := by rw [E24_eq, Nat.div_lt_iff_lt_mul (by omega)]; omega
            have hmod : (z + m + c) % E24 < E24 := Nat.mod_lt _ E24_pos
            obtain ⟨rr, hrr⟩ : ∃ rr, (z + m + c) % E24 = rr := ⟨_, rfl⟩
            obtain ⟨qq, hqq⟩ : ∃ qq, (z + m + c) / E24 = qq := ⟨_, rfl⟩
            rw [hrr] at hput hr hmod
            rw [hqq] at hput hq hdiv
            rw [Int.natCast_add, Int.natCast_add] at hr hq
            have e1 : ((k : Int) + (j : Int)).toNat = k + j := by omega
            have hkj : (k : Int) + (j : Int) < (nn : Int) := by have := HNN.out; omega
            have HP := Lib.hid hput
            have HMD := Lib.hid hmod
            have HDV := Lib.hid hdiv
            clear hput hty hv hmod hm hmul hrr hqq hzz hnew hd1 hd2 hpos hset
            go_wp2_with fail
            go_quiet (fail)
            go_wp2_with fail
            go_roundg (n2 - (j + 1))
            case measure => omega
            case rel =>
              exact ⟨j + 1, qq, zs.set (k + j) rr, by omega, rfl, rfl, HDV.out, by go_num, by rw [List.length_set]; exact HZ.out, HZK.out.set _ _ HMD.out, HP.out, ((HB.out.drewN _).set (k + j) (I rr)).cast (set_map _ _ _), (HC.out.drewN _).setCell (.inl (Nat.le_refl _)) _⟩
          · obtain rfl : j = n2 := by omega
            have hpos : k + j < zs.length := by rw [HZ.out, ← HNN.out]; omega
            have hzc : _ = some (I (zs[k + j])) := (HB.out.cell (k + j)).trans (by rw [List.getElem?_map, List.getElem?_eq_getElem hpos]; rfl)
            have hfz := HB.out.frozen (k + j)
            obtain ⟨z, hzz⟩ : ∃ z, zs[k + j] = z := ⟨_, rfl⟩
            rw [hzz] at hzc
            have hfull : vs.take j = vs := List.take_of_length_le (by rw [HM.out]; exact Nat.le_refl _)
            have hend := mul_end zs (k + j) c hpos
            have hv := HZV.out
            rw [hfull] at hv
            rw [hv, ← HW.out, show k + j + 1 = k + 1 + j from by omega, ← Nat.mul_assoc, ← Nat.add_mul, ← HTS.out] at hend
            have HE := Lib.hid hend
            have e1 : ((k : Int) + (j : Int)).toNat = k + j := by omega
            clear hend hv hfull hzz hpos
            go_wp2_with fail
            go_roundg (n1 - (k + 1))
            case measure => omega
            case rel =>
              exact ⟨k + 1, zs.set (k + j) c, by omega, rfl, by go_num, by rw [List.length_set]; exact HZ.out, HZK.out.set _ _ (by unfold E24; exact hc), HE.out, (HB.out.set (k + j) (I c)).cast (set_map _ _ _), HC.out.setCell (.inl (Nat.le_refl _)) _⟩
      · obtain rfl : k = n1 := by omega
        have hev : ev zs = A * B := by
          have h := HZV.out
          rw [List.take_of_length_le (by rw [HZ.out, ← HNN.out]; exact Nat.le_refl _), List.take_of_length_le (by rw [HN.out]; exact Nat.le_refl _), HUA.out, HUB.out] at h
          exact h
        have hnum := rnumber_any (some ⟨Bq, 0, none⟩) nn nn zs wr (di_of_blk HB.out HZK.out nn HZ.out) (by omega)
        rw [hev] at hnum
        have HNUM := Lib.hid hnum
        clear hev hnum
        go_wp2_with fail
        refine HNUM.out.mono ?_
        rintro e w9 ⟨rfl, hC9⟩
        go_wp2_with fail
        go_ret
        exact ⟨rfl, (HCW.out.trans (HC.out.mono HWO.out (fun _ _ q => q))).step0 hC9 (Nat.le_refl _)⟩
theorem rmul_any (a b : List UInt8) (w : World) (ha : a.length ≤ 1000) (hb : b.length ≤ 1000) :
    Calls Tryd.prog 22 #[S a, S b] w (Yld w (S (nb (bv a * bv b)))) := by
  by_cases h1 : bv a < 256 ^ 3
  · by_cases h2 : bv b < 256 ^ 4
    · have s1 : ∀ w, Calls Tryd.prog 47 #[S a, .int .i64 3] w fun e w' => e = .returned (.tuple #[.int .i64 (bv a : Nat), .bool true]) ∧ w' = w := fun w => small_yes a 3 w (by omega) (by omega) h1
      have s2 : ∀ w, Calls Tryd.prog 47 #[S b, .int .i64 4] w fun e w' => e = .returned (.tuple #[.int .i64 (bv b : Nat), .bool true]) ∧ w' = w := fun w => small_yes b 4 w (by omega) (by omega) h2
      have H1 := Lib.hid s1
      have H2 := Lib.hid s2
      clear s1 s2
      have hm : bv a * bv b ≤ 16777215 * 4294967295 := Nat.mul_le_mul (by omega) (by omega)
      obtain ⟨m, hmm⟩ : ∃ m, bv a * bv b = m := ⟨_, rfl⟩
      obtain ⟨A, hA⟩ : ∃ A, bv a = A := ⟨_, rfl⟩
      obtain ⟨B, hB⟩ : ∃ B, bv b = B := ⟨_, rfl⟩
      rw [hmm] at hm ⊢
      rw [hA] at h1 hmm H1
      rw [hB] at h2 hmm H2
      have hmi : (A : Int) * (B : Int) = (m : Int) := by rw [← hmm, Int.natCast_mul]
      have HOF := Lib.hid (fun w => refOf_any (m : Int) w (by omega) (by omega))
      have hA2 : A ≤ 16777215 := by omega
      have hB2 : B ≤ 4294967295 := by omega
      clear h1 h2 hmm hA hB ha hb
      go_enter Tryd.func22, Tryd.ntmps22
      go_wp2_with (first
        | (go_at_call 47; with_reducible refine (H1.out _).mono ?_; rintro e w' ⟨rfl, rfl⟩)
        | (go_at_call 47; with_reducible refine (H2.out _).mono ?_; rintro e w' ⟨rfl, rfl⟩)
        | (go_at_call 29; with_reducible refine (HOF.out _).mono ?_; rintro e w' ⟨rfl, hC⟩))
      go_ret
      exact ⟨rfl, hC⟩
    · exact rmul_gen a b _ _ true false w ha hb (.inr ⟨rfl, rfl⟩) (fun w => small_yes a 3 w (by omega) (by omega) h1) (fun w => small_no b 4 w (by omega) (by omega) h2)
  · by_cases h2 : bv b < 256 ^ 4
    · exact rmul_gen a b _ _ false true w ha hb (.inl rfl) (fun w => small_no a 3 w (by omega) (by omega) h1) (fun w => small_yes b 4 w (by omega) (by omega) h2)
    · exact rmul_gen a b _ _ false false w ha hb (.inl rfl) (fun w => small_no a 3 w (by omega) (by omega) h1) (fun w => small_no b 4 w (by omega) (by omega) h2)
theorem C_rmul {a b l : List UInt8} {n : Nat} (hl : nb n = l) (ha : a.length ≤ 1000) (hb : b.length ≤ 1000) (hn : bv a * bv b = n) : Ans 22 #[S a, S b] (S l) := fun w =>
  (rmul_any a b w ha hb).mono fun _ _ ⟨he, hC⟩ => ⟨by rw [he, hn, hl], hC⟩
end Go.Proofs.YtcghnkdfhiancaaDoor
