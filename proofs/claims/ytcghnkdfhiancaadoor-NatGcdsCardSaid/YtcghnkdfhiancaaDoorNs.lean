/- Contracts of package nat's divide and Quo. -/
import Derived.Test.YtcghnkdfhiancaaDoorNr
import Derived.Deep.RegionWith
namespace Go.Proofs.YtcghnkdfhiancaaDoor
open Go.RowKit
theorem OwnD.nil (w : World) (B : Nat) : OwnD w B (.slice none 0 0) 0 := by
  unfold OwnD
  rw [ds_zero]
  exact World.ownsRow_nil w B _ 1
theorem own_blk {w : World} {B n : Nat} {v : Value} {xs : List Nat} (h : w.ownsRow B 52 1 v n (xs.map U)) (hn : 0 < n) :
    ∃ g cap post, v = .slice (some ⟨g, 0, none⟩) n cap ∧ B ≤ g ∧ Blk w g 52 (xs.map U ++ post) ∧ n + post.length = cap ∧ cap ≤ maxLen := by
  obtain ⟨h1, h2⟩ := h
  rcases h2 with ⟨_, rfl⟩ | ⟨g, cap, cur, rfl, hb, hg, hn', hm, hs, ht⟩
  · omega
  · refine ⟨g, cap, cur.toList.drop n, rfl, hb, ?_, ?_, hm⟩
    · unfold Blk
      rw [← ht, Nat.mul_one, List.take_append_drop]
      simpa using hg
    · rw [List.length_drop, Array.length_toList]; omega
theorem ds_pos_len {N : Nat} (h : 0 < N) : 0 < (ds N).length := by
  rw [ds_pos N (by omega)]; simp
theorem ds_one (N : Nat) (h : (ds N).length = 1) : N < D ∧ (ds N) = [N] := by
  have h1 := (ds_len N 1).1 (by omega)
  rw [Nat.pow_one] at h1
  refine ⟨h1, ?_⟩
  by_cases h0 : N = 0
  · subst h0; rw [ds_zero] at h; simp at h
  · rw [ds_pos N h0, Nat.mod_eq_of_lt h1, Nat.div_eq_of_lt h1, ds_zero]
set_option maxRecDepth 100000 in
set_option maxHeartbeats 3200000 in
theorem divide_any (n m capx capy X Y : Nat) (p q : Option Addr) (w : World) (hx : Dg w p n (ds X)) (hy : Dg w q m (ds Y)) (hn : n ≤ 8796093022208) (hm : m ≤ 8796093022208) (hY : 0 < Y) :
    Calls Tryd.prog 56 #[.slice p n capx, .slice q m capy] w fun e w' => ∃ v1 v2, e = .returned (.tuple #[v1, v2]) ∧ OwnD w' w.heap.size v1 (X / Y) ∧ ((X < Y ∧ v2 = .slice p n capx) ∨ OwnD w' w.heap.size v2 (X % Y)) ∧ Ch w.heap.size none1 w w' := by
  have hxl := hx.len
  have hyl := hy.len
  have hcmp := fun w2 (h1 : Dg w2 p n (ds X)) (h2 : Dg w2 q m (ds Y)) => compare_any p q n m capx capy _ _ w2 h1 h2 (by rw [tlen_ds]; exact hxl) (by rw [tlen_ds]; exact hyl) (by omega) (by omega)
  rw [dv_ds, dv_ds] at hcmp
  have hm0 : 0 < m := by rw [← hyl]; exact ds_pos_len hY
  have hx0 := hx.lt_size
  have hy0 := hy.lt_size
  by_cases hlt : X < Y
  · rw [cmpN_lt hlt] at hcmp
    have HC := Lib.hid (hcmp w hx hy); clear hcmp
    have hq0 : ∀ w B, OwnD w B (.slice none 0 0) (X / Y) := fun w B => by rw [Nat.div_eq_of_lt hlt]; exact OwnD.nil w B
    have HQ := Lib.hid hq0; clear hq0
    have HLT := Lib.hid hlt
    clear hxl hyl hx hy
    go_enter Tryd.func56, Tryd.ntmps56
    go_wp2_with fail
    refine HC.out.mono ?_
    rintro e w1 ⟨rfl, hC1⟩
    go_wp2_with fail
    go_ret2
    exact ⟨_, _, rfl, HQ.out _ _, .inl ⟨HLT.out, rfl⟩, hC1⟩
  · obtain ⟨c, hcc, hc0⟩ := cmpN_ge (show Y ≤ X by omega)
    rw [hcc] at hcmp
    have HC := Lib.hid (hcmp w hx hy); clear hcmp hcc
    have hn0 : 0 < n := by rw [← hxl]; exact ds_pos_len (by omega)
    have hmn : m ≤ n := by
      rw [← hxl, ← hyl]
      exact (ds_len _ _).2 (Nat.lt_of_le_of_lt (show Y ≤ X by omega) ((ds_len _ _).1 (Nat.le_refl _)))
    obtain ⟨gx, ox, rfl⟩ := hx.addr hn0
    obtain ⟨gy, oy, rfl⟩ := hy.addr hm0
    have HXL := Lib.hid hxl; clear hxl
    have HX := Lib.hid hx; clear hx
    have HX0 := Lib.hid hx0; clear hx0
    have HY0 := Lib.hid hy0; clear hy0
    by_cases hm1 : m = 1
    · subst hm1
      obtain ⟨hYD, hYl⟩ := ds_one Y hyl
      have HY := Lib.hid hy; clear hy
      have HYL := Lib.hid hYl; clear hYl hyl
      go_enter Tryd.func56, Tryd.ntmps56
      go_wp2_with fail
      refine HC.out.mono ?_
      rintro e w1 ⟨rfl, hC1⟩
      have hx1 := Dg.ch hC1 HX.out (fun a ha => ⟨HX0.out a ha, fun q => q⟩)
      have hy1 := Dg.ch hC1 HY.out (fun a ha => ⟨HY0.out a ha, fun q => q⟩)
      have HX1 := Lib.hid hx1; clear hx1
      have HY1 := Lib.hid hy1; clear hy1
      go_wp2_with fail
      refine (clone_any gx ox n capx _ _ HX1.out hn0 (by omega)).mono ?_
      rintro e w2 ⟨v, rfl, hown, hC2⟩
      obtain ⟨g, cap, post, rfl, hg, hB, hpl, hcm⟩ := own_blk hown hn0
      have hy2 := Dg.ch hC2 HY1.out (fun a ha => ⟨HY1.out.lt_size a ha, fun q => q⟩)
      have c1 := hy2.get 0 (by omega)
      have hyv : (ds Y)[0]'(by rw [hy2.len]; omega) = Y := by simp [HYL.out]
      rw [hyv, Nat.add_zero] at c1
      have hC := hC1.step0 hC2 (Nat.le_refl _)
      have hsz := hC1.size
      clear hown hy2 hyv
      have hB' : Blk w2 g 52 ([] ++ (ds X).map U ++ post) := hB.cast (by simp)
      clear hB
      go_wp2_with fail
      refine (divideByWord_any n cap Y g 0 _ [] post (ds X) _ (dok_ds X) HXL.out (by omega) hY hYD hB' rfl).mono ?_
      rintro e w3 ⟨zs, rfl, hz, hzl, hzv, hB3, hC3⟩
      rw [dv_ds] at hzv ⊢
      have HZ := Lib.hid hzl; clear hzl
      have HZV := Lib.hid hzv; clear hzv
      have hB4 : Blk w3 g 52 (zs.map U ++ post) := hB3.cast (by simp)
      clear hB3 hB' c1
      have hd4 := dg_of_blk hB4 hz n HZ.out
      have HD4 := Lib.hid hd4; clear hd4
      have hC5 := hC.step hC3 (Nat.le_refl _) (fun j hj q => absurd q (by omega))
      have hrl : X % Y < D := Nat.lt_trans (Nat.mod_lt _ hY) hYD
      obtain ⟨r, hr⟩ : ∃ r, X % Y = r := ⟨_, rfl⟩
      rw [hr] at hrl ⊢
      have HR := Lib.hid hr; clear hr
      go_wp2_with fail
      refine (dtrim_any _ n cap zs _ HD4.out (by omega) hcm).mono ?_
      rintro e w5 ⟨rfl, rfl⟩
      have hnew := Blk.new w5 #[U r] 52
      have hnew' : Blk (w5.alloc (.cells #[U r] 52)) w5.heap.size 52 ([r].map U ++ []) := hnew
      have hrd : Dok [r] := Dok.cons hrl Dok.nil
      have hdr := dg_of_blk hnew' hrd 1 rfl
      have HDR := Lib.hid hdr; clear hdr
      go_wp2_with fail
      refine (dtrim_any _ 1 1 [r] _ HDR.out (Nat.le_refl _) (by decide)).mono ?_
      rintro e w6 ⟨rfl, rfl⟩
      have hB5 := hB4.alloc (.cells #[U r] 52)
      have hsz3 := hC5.size
      have hC6 := hC5.alloc hsz3 (.cells #[U r] 52)
      go_wp2_with fail
      go_ret2
      refine ⟨_, _, rfl, ?_, .inr ?_, hC6⟩
      · have := OwnD.of_blk' (B := w.heap.size) hB5 hz (cap := cap) (by rw [HZ.out]; exact hpl) hcm (by omega)
        rwa [HZV.out] at this
      · have := OwnD.of_blk' (B := w.heap.size) hnew' hrd (cap := 1) rfl (by decide) hsz3
        rw [show dv [r] = r from by simp [dv]] at this
        rw [HR.out]
        exact this
    · have hb1 : (((m : Nat) : Int) == 1) = false := by rw [beq_eq_false_iff_ne]; omega
      have hcy : tlen (ds Y) = m := by rw [tlen_ds]; exact hyl
      have HCY := Lib.hid hcy; clear hcy hyl
      have HY := Lib.hid hy; clear hy
      go_enter Tryd.func56, Tryd.ntmps56
      go_wp2_with fail
      refine HC.out.mono ?_
      rintro e w1 ⟨rfl, hC1⟩
      have hx1 := Dg.ch hC1 HX.out (fun a ha => ⟨HX0.out a ha, fun q => q⟩)
      have hy1 := Dg.ch hC1 HY.out (fun a ha => ⟨HY0.out a ha, fun q => q⟩)
      have HX1 := Lib.hid hx1; clear hx1
      have HY1 := Lib.hid hy1; clear hy1
      go_wp2_with fail
      refine (divideByDigits_any n m capx capy _ _ _ _ _ HX1.out HY1.out hn (by omega) hmn HCY.out).mono ?_
      rintro e w2 ⟨v1, v2, rfl, ho1, ho2, hC2⟩
      rw [dv_ds, dv_ds] at ho1 ho2
      have hC := hC1.step0 hC2 (Nat.le_refl _)
      have hsz := hC1.size
      go_wp2_with fail
      go_ret2
      exact ⟨_, _, rfl, ho1.mono hsz, .inr (ho2.mono hsz), hC⟩
set_option maxRecDepth 100000 in
set_option maxHeartbeats 1600000 in
theorem Quo_no (a b : List UInt8) (w : World) (hb : b.length ≤ LIM) (h : bv b = 0) :
    Calls Tryd.prog 34 #[S a, S b] w fun e w' => e = .returned (.tuple #[S [], S [], .bool false]) ∧ w' = w := by
  have hbm : b.length ≤ maxLen := by unfold LIM at hb; unfold maxLen; omega
  have hc := fun w => cmp_any b [] w hbm (Nat.zero_le _)
  rw [h, bv_nil, cmpN_eq rfl] at hc
  have HC := Lib.hid hc; clear hc
  go_enter Tryd.func34, Tryd.ntmps34
  go_wp2_with fail
  refine (HC.out _).mono ?_
  rintro e w' ⟨rfl, rfl⟩
  go_wp2_with fail
  go_ret3
  exact ⟨rfl, rfl⟩
theorem wordNat_int (z : Int) (w : World) (h0 : 0 ≤ z) (h1 : z ≤ 18446744073709551615) :
    Calls Tryd.prog 38 #[.int .u64 z] w fun e w' => e = .returned (S (nb z.toNat)) ∧ Ch w.heap.size none1 w w' := by
  obtain ⟨m, rfl⟩ := Int.eq_ofNat_of_zero_le h0
  exact wordNat_any m w (by omega)
set_option maxRecDepth 100000 in
set_option maxHeartbeats 1600000 in
theorem Quo_yes (a b : List UInt8) (w : World) (ha : a.length ≤ LIM) (hb : b.length ≤ LIM) (h : 0 < bv b) :
    Calls Tryd.prog 34 #[S a, S b] w fun e w' => e = .returned (.tuple #[S (nb (bv a / bv b)), S (nb (bv a % bv b)), .bool true]) ∧ Ch w.heap.size none1 w w' := by
  have ham : a.length ≤ maxLen := by unfold LIM at ha; unfold maxLen; omega
  have hbm : b.length ≤ maxLen := by unfold LIM at hb; unfold maxLen; omega
  have hc := fun w => cmp_any b [] w hbm (Nat.zero_le _)
  rw [bv_nil, cmpN_gt h] at hc
  have HC := Lib.hid hc; clear hc
  by_cases hw : bv a < 18446744073709551616 ∧ bv b < 18446744073709551616
  · obtain ⟨h1, h2⟩ := hw
    have hbb := nat_ne_bool (show bv b ≠ 0 by omega)
    have hwy := fun w => words_yes a b w ham hbm h1 h2
    have hq1 := u64_div (bv a) (bv b) h1
    have hr1 : ((bv a : Nat) : Int).tmod ((bv b : Nat) : Int) = ((bv a % bv b : Nat) : Int) := by rw [Int.tmod_eq_emod_of_nonneg (by omega)]; exact (Int.natCast_emod _ _).symm
    have hq2 : IntKind.u64.wrap (((bv a : Nat) : Int).tdiv ((bv b : Nat) : Int)) = ((bv a / bv b : Nat) : Int) := by rw [Int.tdiv_eq_ediv_of_nonneg (by omega)]; exact hq1
    have hql := Nat.lt_of_le_of_lt (Nat.div_le_self (bv a) (bv b)) h1
    have hrl := Nat.lt_trans (Nat.mod_lt (bv a) h) h2
    have HW := Lib.hid hwy; clear hwy
    have hql2 : bv a / bv b ≤ 18446744073709551615 := by omega
    have hrl2 : bv a % bv b ≤ 18446744073709551615 := by omega
    clear hql hrl
    generalize bv a / bv b = qq at *
    generalize bv a % bv b = rr at *
    generalize bv a = x at *
    generalize bv b = y at *
    go_enter Tryd.func34, Tryd.ntmps34
    go_wp2_with fail
    refine (HC.out _).mono ?_
    rintro e w' ⟨rfl, rfl⟩
    obtain ⟨w, rfl⟩ : ∃ w : World, w = w' := ⟨_, rfl⟩
    go_wp2_with fail
    refine (HW.out _).mono ?_
    rintro e w' ⟨rfl, rfl⟩
    obtain ⟨w, rfl⟩ : ∃ w : World, w = w' := ⟨_, rfl⟩
    go_wp2_with fail
    go_region_with (go_at_call 38; refine (wordNat_int _ _ (by omega) (by omega)).mono ?_; rintro e w2 ⟨rfl, hC2⟩)
    all_goals go_wp2_with fail
    all_goals go_ret3
    all_goals exact ⟨rfl, (((Ch.refl w.heap.size none1 w).drew).step0 ‹Ch w.drew.heap.size none1 w.drew _› (Nat.le_refl _)).step0 hC2 (Nat.le_refl _)⟩
  · go_enter Tryd.func34, Tryd.ntmps34
    go_wp2_with fail
    refine (HC.out _).mono ?_
    rintro e w' ⟨rfl, rfl⟩
    obtain ⟨w, rfl⟩ : ∃ w : World, w = w' := ⟨_, rfl⟩
    go_wp2_with fail
    refine (words_no a b _ ham hbm hw).mono ?_
    rintro e w' ⟨rfl, rfl⟩
    obtain ⟨w, rfl⟩ : ∃ w : World, w = w' := ⟨_, rfl⟩
    clear hw
    go_wp2_with fail
    refine (digitsOf_any a _ (by unfold LIM at ha; omega)).mono ?_
    rintro e w1 ⟨g1, rfl, hB1, hg1, hC1⟩
    go_wp2_with fail
    refine (digitsOf_any b _ (by unfold LIM at hb; omega)).mono ?_
    rintro e w2 ⟨g2, rfl, hB2, hg2, hC2⟩
    have hlt1 := hB1.lt
    have hB1' := hC2.blk hB1 hlt1 (fun q => q)
    have hC := hC1.step0 hC2 (Nat.le_refl _)
    clear hB1 hC1 hC2
    have hna := ds_lim a ha
    have hnb := ds_lim b hb
    have hd1 := dg_of_blk (post := []) (hB1'.cast (by simp)) (dok_ds (bv a)) _ rfl
    have hd2 := dg_of_blk (post := []) (hB2.cast (by simp)) (dok_ds (bv b)) _ rfl
    have HD1 := Lib.hid hd1
    have HD2 := Lib.hid hd2
    clear hd1 hd2 hB1' hB2
    go_wp2_with fail
    refine (divide_any _ _ _ _ (bv a) (bv b) _ _ _ HD1.out HD2.out hna hnb h).mono ?_
    rintro e w3 ⟨v1, v2, rfl, ho1, ho2, hC3⟩
    have hC4 := hC.step0 hC3 (Nat.le_refl _)
    have hd3 : ∃ p n cap, v2 = .slice p n cap ∧ Dg w3 p n (ds (bv a % bv b)) ∧ n ≤ 8796093022208 := by
      rcases ho2 with ⟨hlt, rfl⟩ | ho2
      · refine ⟨_, _, _, rfl, ?_, hna⟩
        rw [Nat.mod_eq_of_lt hlt]
        exact Dg.ch hC3 HD1.out (fun x hx => ⟨HD1.out.lt_size x hx, fun q => q⟩)
      · obtain ⟨p, cap, rfl, hd, _, _, _⟩ := ho2.dg
        exact ⟨p, _, cap, rfl, hd, Nat.le_trans ((ds_len _ _).2 (Nat.lt_of_lt_of_le (Nat.mod_lt _ h) (Nat.le_of_lt ((ds_len (bv b) _).1 (Nat.le_refl _))))) hnb⟩
    obtain ⟨p1, cap1, rfl, hd1, _, _, _⟩ := ho1.dg
    obtain ⟨p2, n2, cap2, rfl, hd2, hn2⟩ := hd3
    have hn1 : (ds (bv a / bv b)).length ≤ 8796093022208 := Nat.le_trans ((ds_len _ _).2 (Nat.lt_of_le_of_lt (Nat.div_le_self _ _) ((ds_len (bv a) _).1 (Nat.le_refl _)))) hna
    have HD3 := Lib.hid hd1; clear hd1
    have HD4 := Lib.hid hd2; clear hd2 ho1 ho2
    go_wp2_with fail
    refine (natural_any _ _ _ _ _ HD3.out (by omega)).mono ?_
    rintro e w5 ⟨rfl, hC5⟩
    have hd5 := Dg.ch hC5 HD4.out (fun x hx => ⟨HD4.out.lt_size x hx, fun q => q⟩)
    have HD5 := Lib.hid hd5; clear hd5
    go_wp2_with fail
    refine (natural_any _ _ _ _ _ HD5.out (by omega)).mono ?_
    rintro e w6 ⟨rfl, hC6⟩
    go_wp2_with fail
    go_ret3
    refine ⟨?_, (hC4.step0 hC5 (Nat.le_refl _)).step0 hC6 (Nat.le_refl _)⟩
    rw [dv_ds, dv_ds]
    rfl
end Go.Proofs.YtcghnkdfhiancaaDoor
