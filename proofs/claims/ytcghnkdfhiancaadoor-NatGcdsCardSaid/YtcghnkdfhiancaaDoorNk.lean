/- Contracts of package nat's Sub and of products of digits. -/
import Derived.Test.YtcghnkdfhiancaaDoorNj
namespace Go.Proofs.YtcghnkdfhiancaaDoor
open Go.RowKit
set_option maxRecDepth 100000 in
set_option maxHeartbeats 1600000 in
theorem Sub_no (a b : List UInt8) (w : World) (ha : a.length ≤ LIM) (hb : b.length ≤ LIM) (h : bv a < bv b) :
    Calls Tryd.prog 13 #[S a, S b] w fun e w' => e = .returned (.tuple #[S [], .bool false]) ∧ w' = w := by
  have ham : a.length ≤ maxLen := by unfold LIM at ha; unfold maxLen; omega
  have hbm : b.length ≤ maxLen := by unfold LIM at hb; unfold maxLen; omega
  have hc := fun w => cmp_any a b w ham hbm
  rw [cmpN_lt h] at hc
  have HC := Lib.hid hc; clear hc
  go_enter Tryd.func13, Tryd.ntmps13
  go_wp2_with fail
  refine (HC.out _).mono ?_
  rintro e w' ⟨rfl, rfl⟩
  go_wp2_with fail
  go_ret2
  exact ⟨rfl, rfl⟩
theorem cmpN_ge {a b : Nat} (h : b ≤ a) : ∃ c : Int, cmpN a b = c ∧ 0 ≤ c := by
  rcases Nat.lt_or_ge b a with q | q
  · exact ⟨1, cmpN_gt q, by omega⟩
  · exact ⟨0, cmpN_eq (by omega), by omega⟩
set_option maxRecDepth 100000 in
set_option maxHeartbeats 1600000 in
theorem Sub_yes (a b : List UInt8) (w : World) (ha : a.length ≤ LIM) (hb : b.length ≤ LIM) (h : bv b ≤ bv a) :
    Calls Tryd.prog 13 #[S a, S b] w fun e w' => e = .returned (.tuple #[S (nb (bv a - bv b)), .bool true]) ∧ Ch w.heap.size none1 w w' := by
  have ham : a.length ≤ maxLen := by unfold LIM at ha; unfold maxLen; omega
  have hbm : b.length ≤ maxLen := by unfold LIM at hb; unfold maxLen; omega
  have hc := fun w => cmp_any a b w ham hbm
  obtain ⟨c, hcc, hc0⟩ := cmpN_ge h
  rw [hcc] at hc
  have HC := Lib.hid hc; clear hc hcc
  by_cases hw : bv a < 18446744073709551616 ∧ bv b < 18446744073709551616
  · obtain ⟨h1, h2⟩ := hw
    have e1 : ((bv a : Nat) : Int) - ((bv b : Nat) : Int) = ((bv a - bv b : Nat) : Int) := by omega
    have HE := Lib.hid e1; clear e1
    go_enter Tryd.func13, Tryd.ntmps13
    go_wp2_with fail
    refine (HC.out _).mono ?_
    rintro e w' ⟨rfl, rfl⟩
    go_wp2_with fail
    refine (words_yes a b _ ham hbm h1 h2).mono ?_
    rintro e w' ⟨rfl, rfl⟩
    go_wp2_with fail
    rw [HE.out]
    refine (wordNat_any (bv a - bv b) _ (by omega)).mono ?_
    rintro e w2 ⟨rfl, hC⟩
    go_wp2_with fail
    go_ret2
    exact ⟨rfl, hC⟩
  · go_enter Tryd.func13, Tryd.ntmps13
    go_wp2_with fail
    refine (HC.out _).mono ?_
    rintro e w' ⟨rfl, rfl⟩
    go_wp2_with fail
    refine (words_no a b _ ham hbm hw).mono ?_
    rintro e w' ⟨rfl, rfl⟩
    obtain ⟨w, rfl⟩ : ∃ w : World, w = w' := ⟨_, rfl⟩
    clear hw
    go_wp2_with fail
    refine (digitsOf_any a _ (by unfold LIM at ha; omega)).mono ?_
    rintro e w1 ⟨g1, rfl, hB1, hg1, hC1⟩
    go_wp2_with fail
    refine (digitsOf_any b _ (by unfold LIM at hb; omega)).mono ?_
    rintro e w2 ⟨g2, rfl, hB2, hg2, hC2⟩
    have hlt1 := hB1.lt
    have hB1' := hC2.blk hB1 hlt1 (fun q => q)
    have hC := hC1.step0 hC2 (Nat.le_refl _)
    clear hB1 hC1 hC2
    have hXA := dv_ds (bv a)
    have hXB := dv_ds (bv b)
    have hda := dok_ds (bv a)
    have hdb := dok_ds (bv b)
    have hna := ds_lim a ha
    have hnb := ds_lim b hb
    have hmn : (ds (bv b)).length ≤ (ds (bv a)).length := (ds_len _ _).2 (Nat.lt_of_le_of_lt h ((ds_len _ _).1 (Nat.le_refl _)))
    generalize ds (bv a) = xs at *
    generalize ds (bv b) = ys at *
    obtain ⟨n, hn⟩ : ∃ n, xs.length = n := ⟨_, rfl⟩
    obtain ⟨m, hm⟩ : ∃ m, ys.length = m := ⟨_, rfl⟩
    rw [hn] at hna hmn ⊢
    rw [hm] at hnb hmn ⊢
    have HXA := Lib.hid hXA; clear hXA
    have HXB := Lib.hid hXB; clear hXB
    have HN := Lib.hid hn; clear hn
    have HM := Lib.hid hm; clear hm
    go_wp2_with fail
    refine (subtract_any n m n m g1 0 _ _ [] [] xs ys _ hda HN.out (by unfold maxLen; omega) (Nat.le_refl _) hmn (by rw [HXA.out, HXB.out]; exact h) (hB1'.cast (by simp)) rfl (dg_of_blk (hB2.cast (by simp) : Blk _ _ _ (ys.map U ++ [])) hdb m HM.out) (fun q hq => by simp only [Option.some.injEq] at hq; subst hq; show g2 ≠ g1; omega)).mono ?_
    rintro e w3 ⟨zs, rfl, hz, hzl, hzv, hB3, hC3⟩
    have HZ := Lib.hid hzl; clear hzl
    have HV := Lib.hid hzv; clear hzv
    have hB4 : Blk w3 g1 52 (zs.map U ++ []) := hB3.cast (by simp)
    have hd := dg_of_blk hB4 hz n HZ.out
    clear hB3 hB4
    have hC5 := hC.step hC3 (Nat.le_refl _) (fun k hk q => absurd q (by omega))
    go_wp2_with fail
    refine (natural_any _ n n _ _ hd (by omega)).mono ?_
    rintro e w5 ⟨rfl, hC6⟩
    go_wp2_with fail
    go_ret2
    refine ⟨?_, hC5.step0 hC6 (Nat.le_refl _)⟩
    rw [← HXA.out, ← HXB.out, ← HV.out]
    rfl
/-- v is a slice of one's own, from block B on, that holds the digits of N. -/
def OwnD (w : World) (B : Nat) (v : Value) (N : Nat) : Prop := w.ownsRow B 52 1 v (ds N).length ((ds N).map U)
theorem OwnD.dg {w : World} {B N : Nat} {v : Value} (h : OwnD w B v N) : ∃ p cap, v = .slice p (ds N).length cap ∧ Dg w p (ds N).length (ds N) ∧ (ds N).length ≤ cap ∧ cap ≤ maxLen ∧ (∀ a, p = some a → B ≤ a.block ∧ a.off = 0) :=
  dg_of_own h (dok_ds N)
theorem OwnD.ch {B B' N : Nat} {R : Nat → Prop} {v : Value} {w w' : World} (h : OwnD w B v N) (hC : Ch B' R w w') (hB : w.heap.size ≤ B') (hR : ∀ k, B ≤ k → k < w.heap.size → ¬ R k) : OwnD w' B v N := by
  obtain ⟨h1, h2⟩ := h
  refine ⟨h1, ?_⟩
  rcases h2 with q | ⟨g, cap, cur, hv, hb, hg, r⟩
  · exact .inl q
  · have hl : g < w.heap.size := (Array.getElem?_eq_some_iff.1 hg).1
    exact .inr ⟨g, cap, cur, hv, hb, by rw [hC.block g (by omega) (hR g hb hl)]; exact hg, r⟩
theorem OwnD.mono {w : World} {B B' N : Nat} {v : Value} (h : OwnD w B v N) (hB : B' ≤ B) : OwnD w B' v N := by
  obtain ⟨h1, h2⟩ := h
  refine ⟨h1, ?_⟩
  rcases h2 with q | ⟨g, cap, cur, hv, hb, r⟩
  · exact .inl q
  · exact .inr ⟨g, cap, cur, hv, Nat.le_trans hB hb, r⟩
theorem OwnD.of_blk {w : World} {B g cap : Nat} {zs : List Nat} (h : Blk w g 52 (zs.map U)) (hz : Dok zs) (hl : zs.length = cap) (hm : cap ≤ maxLen) (hb : B ≤ g) : OwnD w B (.slice (some ⟨g, 0, none⟩) (tlen zs) cap) (dv zs) := by
  unfold OwnD
  have ht := trimD zs hz
  have hle := tlen_le zs
  have e : (ds (dv zs)).length = tlen zs := by rw [← ht, List.length_take]; omega
  rw [e]
  exact own_of_blk h (by rw [List.length_map]; exact hl) (by omega) hm (by rw [← List.map_take, ht]) hb
theorem mul_bound (B n m : Nat) (x y : Nat) (hx : x < B ^ n) (hy : y < B ^ m) : x * y < B ^ (n + m) := by
  rw [Nat.pow_add]
  have h1 : x * y ≤ x * B ^ m := Nat.mul_le_mul_left _ (Nat.le_of_lt hy)
  have h2 : x * B ^ m < B ^ n * B ^ m := Nat.mul_lt_mul_of_pos_right hx (by omega)
  omega
theorem mul_step' (P Q R zt zd z2 c X Y y T : Nat) (hR : R = P * Q) (h1 : zt + P * zd = X * Y) (h2 : z2 + Q * c = zd + X * y) (hT : T = X * (Y + P * y)) (hlt : T < R) : zt + P * z2 = T := by
  have e : zt + P * z2 + R * c = T := by
    have : P * (z2 + Q * c) = P * (zd + X * y) := by rw [h2]
    subst hR hT
    grind
  have hc : c = 0 := by
    rcases Nat.eq_zero_or_pos c with h | h
    · exact h
    · have := Nat.mul_le_mul_left R h
      omega
  subst hc
  simpa using e
theorem mul_step (zs zs2 xs ys : List Nat) (k n m y c : Nat) (_hz : Dok zs) (hx : Dok xs) (hy : Dok ys) (hzl : zs.length = n + m) (hxl : xs.length = n) (hyl : ys.length = m) (hk : k < m) (h : dv zs = dv xs * dv (ys.take k)) (hyk : dv (ys.take (k + 1)) = dv (ys.take k) + D ^ k * y)
    (h2 : dv zs2 + D ^ (n + m - k) * c = dv (zs.drop k) + dv xs * y) : dv (zs.take k ++ zs2) = dv xs * dv (ys.take (k + 1)) := by
  have h1 := dv_take_drop zs k (by omega)
  have hb := mul_bound D n (k + 1) (dv xs) (dv (ys.take (k + 1))) (by rw [← hxl]; exact dv_lt hx) (by
    have := dv_lt (hy.take (k + 1))
    rwa [List.length_take, Nat.min_eq_left (by omega)] at this)
  have hb2 : D ^ (n + (k + 1)) ≤ D ^ (n + m) := Nat.pow_le_pow_right D_pos (by omega)
  have hR : D ^ (n + m) = D ^ k * D ^ (n + m - k) := by rw [← Nat.pow_add]; congr 1; omega
  rw [dv_append, List.length_take, Nat.min_eq_left (by omega)]
  rw [hyk] at hb ⊢
  exact mul_step' (D ^ k) (D ^ (n + m - k)) (D ^ (n + m)) _ _ _ c (dv xs) (dv (ys.take k)) y _ hR (by rw [← h1, h]) h2 rfl (by omega)
set_option maxRecDepth 100000 in
set_option maxHeartbeats 1600000 in
theorem multiply_any (n m capx capy : Nat) (p q : Option Addr) (xs ys : List Nat) (w : World) (hx : Dg w p n xs) (hy : Dg w q m ys) (hn : n ≤ 8796093022208) (hm : m ≤ 8796093022208) :
    Calls Tryd.prog 52 #[.slice p n capx, .slice q m capy] w fun e w' => ∃ v, e = .returned v ∧ OwnD w' w.heap.size v (dv xs * dv ys) ∧ Ch w.heap.size none1 w w' := by
  obtain ⟨i0, hi, hz0, hz1, hz2⟩ := info_parts Tryd.info52
  have HX := Lib.hid hx; clear hx
  have HY := Lib.hid hy; clear hy
  have HXL := Lib.hid HX.out.len
  have HYL := Lib.hid HY.out.len
  have hnm : ((n : Int) + (m : Int)) = ((n + m : Nat) : Int) := by omega
  have HNM := Lib.hid hnm; clear hnm
  go_enter Tryd.func52, Tryd.ntmps52
  go_wp2_with (refine wpList_make_blk _ rfl _ _ 57 rfl 52 i0 .u64 0 Tryd.underlying57 hi hz0 hz1 .i64 .i64 _ _ (n + m) rfl rfl HNM.out HNM.out (by rw [hz2]; omega) (by unfold maxLen; omega) ?_; intro w1 hB hC)
  obtain ⟨wo, rfl⟩ : ∃ wo : World, wo = w := ⟨_, rfl⟩
  go_loopw [16] (fun i wr => ∃ (k : Nat) (zs : List Nat), k ≤ m ∧ i = .int .i64 k ∧ Dok zs ∧ zs.length = n + m ∧ dv zs = dv xs * dv (ys.take k) ∧ Blk wr wo.heap.size 52 (zs.map U) ∧ Ch wo.heap.size none1 wo wr)
    (fun i _ => m - (intOf i).toNat)
  case atStart => exact ⟨0, List.replicate (n + m) 0, Nat.zero_le _, rfl, Dok.zeros _, by simp, by simp [dv_zeros, dv], hB.cast (by simp), hC⟩
  case round =>
    clear hB hC
    obtain ⟨k, zs, hk, rfl, hz, hzl, hzv, hB', hC'⟩ := hrel
    have HZ := Lib.hid hzl; clear hzl
    have HV := Lib.hid hzv; clear hzv
    by_cases hlt : k < m
    · obtain ⟨gy, oy, rfl⟩ := HY.out.addr (by omega)
      have hky : k < ys.length := by rw [HYL.out]; exact hlt
      have hyg := (Dg.ch hC' HY.out (fun a ha => ⟨HY.out.lt_size a ha, fun q => q⟩)).get k hlt
      have hty := dv_take_succ ys k hky
      have hyb := HY.out.lt _ (List.getElem_mem hky)
      obtain ⟨y, hy1⟩ : ∃ y, ys[k] = y := ⟨_, rfl⟩
      rw [hy1] at hyg hty hyb
      have HTY := Lib.hid hty; clear hty
      clear hy1
      have hxd := Dg.ch hC' HX.out (fun a ha => ⟨HX.out.lt_size a ha, fun q => q⟩)
      have hxs := HX.out.lt_size
      have hB2 : Blk wr wo.heap.size 52 ((zs.take k).map U ++ (zs.drop k).map U ++ []) := hB'.cast (by rw [List.append_nil, ← List.map_append, List.take_append_drop])
      have HXS := Lib.hid hxs; clear hxs
      go_wp2_with fail
      refine (addProduct_any (n + m - k) n (n + m - k) capx wo.heap.size k y _ p _ [] _ xs _ (hz.drop k) (by rw [List.length_drop, HZ.out]) (by unfold maxLen; omega) (Nat.le_refl _) (by omega) hyb hB2 (by rw [List.length_map, List.length_take, HZ.out]; omega) hxd (fun a ha => Nat.ne_of_lt (HXS.out a ha))).mono ?_
      rintro e w2 ⟨c2, zs2, rfl, hz2, hzl2, hzv2, hB3, hC2⟩
      have HZ2 := Lib.hid hzl2; clear hzl2
      have HV2 := Lib.hid hzv2; clear hzv2
      go_wp2_with fail
      go_roundw
      case rel =>
        refine ⟨k + 1, zs.take k ++ zs2, by omega, by go_num, (hz.take k).append hz2, ?_, mul_step zs zs2 xs ys k n m y c2 hz HX.out.lt HY.out.lt HZ.out HXL.out HYL.out hlt HV.out HTY.out HV2.out, hB3.cast (by simp), hC'.step hC2 (Nat.le_refl _) (fun j hj q => absurd q (by omega))⟩
        rw [List.length_append, List.length_take, HZ.out, HZ2.out]; omega
      case measure => simp [intOf]; omega
    · obtain rfl : k = m := by omega
      have hyt : ys.take k = ys := List.take_of_length_le (by rw [HYL.out]; exact Nat.le_refl _)
      have hv2 := HV.out
      rw [hyt] at hv2
      have HV2 := Lib.hid hv2; clear hv2 hyt
      go_wp2_with fail
      refine (dtrim_any _ (n + k) (n + k) zs _ (dg_of_blk (hB'.cast (by simp) : Blk _ _ _ (zs.map U ++ [])) hz _ HZ.out) (Nat.le_refl _) (by unfold maxLen; omega)).mono ?_
      rintro e w' ⟨rfl, rfl⟩
      go_wp2_with fail
      go_ret
      refine ⟨_, rfl, ?_, hC'⟩
      rw [← HV2.out]
      exact OwnD.of_blk hB' hz HZ.out (by unfold maxLen; omega) (Nat.le_refl _)
end Go.Proofs.YtcghnkdfhiancaaDoor
