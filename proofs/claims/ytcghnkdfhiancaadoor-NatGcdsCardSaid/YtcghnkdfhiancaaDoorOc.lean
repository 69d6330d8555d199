/- Contract of package nat's Montgomery product. -/
import Derived.Test.YtcghnkdfhiancaaDoorNr
import Derived.Test.YtcghnkdfhiancaaDoorOa
import Derived.StillTailTactics
namespace Go.Proofs.YtcghnkdfhiancaaDoor
/-- One round: the digit that is made 0, and what is kept. -/
theorem mont_round (_B P M X y t H H2 Yk q : Nat) (hk : H * P = X * Yk + M * q) (h2 : H2 = H + X * y + M * t) : H2 * P = X * (Yk + P * y) + M * (q + P * t) := by
  subst h2
  grind
theorem mont_zero (B M f H1 t : Nat) (_hB : 0 < B) (hf : (M * f + 1) % B = 0) (ht : t = H1 % B * f % B) : (H1 + M * t) % B = 0 := by
  have h1 : (H1 + M * t) % B = (H1 + M * (H1 * f)) % B := by
    subst ht
    rw [Nat.add_mod, Nat.mul_mod M, Nat.mod_mod, Nat.mul_mod (H1 % B), Nat.mod_mod, ← Nat.mul_mod H1 f, ← Nat.mul_mod, ← Nat.add_mod]
  rw [h1, show H1 + M * (H1 * f) = H1 * (M * f + 1) from by grind, Nat.mul_mod, hf, Nat.mul_zero, Nat.zero_mod]
theorem mont_lt (P M X Yk q H : Nat) (_hP : 0 < P) (hX : X < M) (hY : Yk < P) (hq : q < P) (hk : H * P = X * Yk + M * q) : H < 2 * M := by
  refine Nat.lt_of_mul_lt_mul_right (a := P) ?_
  have h1 : X * Yk ≤ M * Yk := Nat.mul_le_mul_right _ (Nat.le_of_lt hX)
  have h2 : M * Yk < M * P := Nat.mul_lt_mul_of_pos_left hY (by omega)
  have h3 : M * q < M * P := Nat.mul_lt_mul_of_pos_left hq (by omega)
  have h4 : 2 * M * P = M * P + M * P := by grind
  omega
theorem mont_lt2 (B M X y t H : Nat) (hX : X < M) (hy : y < B) (ht : t < B) (hH : H < 2 * M) : H + X * y + M * t < 2 * M * B := by
  have h1 : X * y ≤ M * y := Nat.mul_le_mul_right _ (Nat.le_of_lt hX)
  have h2 : M * (y + 1) ≤ M * B := Nat.mul_le_mul_left _ hy
  have h3 : M * (t + 1) ≤ M * B := Nat.mul_le_mul_left _ ht
  have h4 : 2 * M * B = M * B + M * B := by grind
  rw [Nat.mul_add, Nat.mul_one] at h2 h3
  omega
theorem q_next (P B q t : Nat) (hq : q < P) (ht : t < B) : q + P * t < P * B := by
  have := Nat.mul_le_mul_left P (show t + 1 ≤ B from ht)
  rw [Nat.mul_add, Nat.mul_one] at this
  omega
theorem two_pow_room (M n L : Nat) (hM : M < D ^ n) (hL : n + 2 ≤ L) : 2 * M * D < D ^ L := by
  have h1 : D ^ (n + 2) ≤ D ^ L := Nat.pow_le_pow_right D_pos hL
  have h2 : D ^ (n + 2) = D ^ n * (D * D) := by rw [Nat.pow_add, Nat.pow_two]
  have h3 : 2 * D ≤ D * D := Nat.mul_le_mul_right D (by unfold D; omega)
  have h4 : M * (2 * D) < D ^ n * (2 * D) := Nat.mul_lt_mul_of_pos_right hM (Nat.mul_pos (by omega) D_pos)
  have h5 := Nat.mul_le_mul_left (D ^ n) h3
  have h6 : 2 * M * D = M * (2 * D) := by rw [Nat.mul_comm 2 M, Nat.mul_assoc]
  omega
/-- No carry goes beyond the digits. -/
theorem no_carry (z c L V : Nat) (h : z + D ^ L * c = V) (hV : V < D ^ L) : z = V := by
  rcases Nat.eq_zero_or_pos c with h0 | h0
  · subst h0; rw [Nat.mul_zero, Nat.add_zero] at h; exact h
  · have := Nat.mul_le_mul_left (D ^ L) h0
    omega
theorem head_mod (x : Nat) (xs : List Nat) (hx : x < D) : dv (x :: xs) % D = x ∧ dv (x :: xs) = x + D * dv xs := by
  refine ⟨?_, rfl⟩
  rw [dv_cons, Nat.add_mul_mod_self_left, Nat.mod_eq_of_lt hx]
theorem mont_end (P M X Y q H Z : Nat) (hk : H * P = X * Y + M * q) (hZ : Z = H ∨ Z + M = H) : Z * P % M = X * Y % M := by
  rcases hZ with rfl | hZ
  · rw [hk, Nat.add_mul_mod_self_left]
  · have h1 : Z * P + M * P = X * Y + M * q := by rw [← Nat.add_mul, hZ, hk]
    have h2 : (Z * P + M * P) % M = (X * Y + M * q) % M := by rw [h1]
    rw [Nat.add_mul_mod_self_left, Nat.add_mul_mod_self_left] at h2
    exact h2
end Go.Proofs.YtcghnkdfhiancaaDoor
namespace Go.Proofs.YtcghnkdfhiancaaDoor
open Go.RowKit
/-- v is a slice of n digits of the value N, zeros at the end allowed. -/
def RdP (w : World) (v : Value) (n N : Nat) : Prop := ∃ p cap zs, v = .slice p n cap ∧ Dg w p n zs ∧ dv zs = N
theorem RdP.ch {w w' : World} {v : Value} {n N : Nat} (h : RdP w v n N) (hC : Ch w.heap.size none1 w w') : RdP w' v n N := by
  obtain ⟨p, cap, zs, rfl, hd, hv⟩ := h
  exact ⟨p, cap, zs, rfl, Dg.ch hC hd (fun a ha => ⟨hd.lt_size a ha, fun q => q⟩), hv⟩
theorem round_list (a z : List Nat) (k : Nat) (hk : a.length = k) (h0 : dv a = 0) (hz : dv z % D = 0) (hp : 0 < z.length) (hD : Dok z) :
    dv ((a ++ z).take (k + 1)) = 0 ∧ dv ((a ++ z).drop (k + 1)) * D ^ (k + 1) = dv z * D ^ k := by
  rcases z with _ | ⟨s, z⟩
  · simp at hp
  have h := head_mod s z (hD _ (List.mem_cons_self ..))
  rw [h.1] at hz
  subst hz
  constructor
  · rw [List.take_append, hk, List.take_of_length_le (by omega), show k + 1 - k = 1 from by omega, List.take_succ_cons, List.take_zero, dv_append, h0, dv_cons, dv_nil, Nat.mul_zero, Nat.mul_zero]
  · rw [List.drop_append, hk, List.drop_eq_nil_of_le (by omega), show k + 1 - k = 1 from by omega, List.drop_succ_cons, List.drop_zero, List.nil_append, h.2, Nat.zero_add, Nat.pow_succ]
    generalize dv z = a
    generalize D ^ k = b
    generalize D = c
    grind
/-- A slice in a block of words. -/
theorem dg_mid {w : World} {g o : Nat} {t : TypeId} (pre post : List Value) (xs : List Nat) (hB : Blk w g t (pre ++ xs.map U ++ post)) (ho : pre.length = o) (hx : Dok xs) (n : Nat) (hn : xs.length = n) : Dg w (some ⟨g, o, none⟩) n xs :=
  ⟨hn, hx, (by simp), fun a ha => by
    simp only [Option.some.injEq] at ha
    subst ha
    exact ⟨rfl, t, pre, post, hB, ho⟩⟩
theorem dv_take_low (zs : List Nat) (k : Nat) (hl : zs.length = k + 1) (h : dv zs < D ^ k) : dv (zs.take k) = dv zs := by
  have h1 : dv zs = dv (zs.take k) + D ^ k * dv (zs.drop k) := by
    conv => lhs; rw [← List.take_append_drop k zs]
    rw [dv_append, List.length_take, Nat.min_eq_left (by omega)]
  rcases Nat.eq_zero_or_pos (dv (zs.drop k)) with h0 | h0
  · rw [h1, h0, Nat.mul_zero, Nat.add_zero]
  · have := Nat.mul_le_mul_left (D ^ k) h0
    omega
set_option maxRecDepth 100000 in
set_option maxHeartbeats 3200000 in
theorem product_any (n M X Y f : Nat) (vm vx vy : Value) (w : World) (hm : RdD w vm M) (hn : (ds M).length = n) (hM : 0 < M) (hn1 : n ≤ 4398046511104) (hf : (M * f + 1) % D = 0) (_hfD : f < D)
    (hx : RdP w vx n X) (hy : RdP w vy n Y) (hX : X < M) :
    Calls Tryd.prog 85 #[.agg #[vm, .int .u64 (f : Int)], vx, vy] w fun e w' => ∃ v Z, e = .returned v ∧ RdP w' v n Z ∧ Z < M ∧ Z * D ^ n % M = X * Y % M ∧ Ch w.heap.size none1 w w' := by
  obtain ⟨i0, hi, hz0, hz1, hz2⟩ := info_parts Tryd.info52
  obtain ⟨pm, cm, rfl, hdm⟩ := hm
  obtain ⟨px, cx, xs, rfl, hdx, rfl⟩ := hx
  obtain ⟨py, cy, ys, rfl, hdy, rfl⟩ := hy
  rw [hn] at hdm ⊢
  have hMn : M < D ^ n := (ds_len M n).1 (by omega)
  have hn0 : 0 < n := by rw [← hn]; exact ds_pos_len hM
  have HDM := Lib.hid hdm; clear hdm
  have HDX := Lib.hid hdx; clear hdx
  have HDY := Lib.hid hdy; clear hdy
  have HYL := Lib.hid HDY.out.len
  have HN := Lib.hid hn; clear hn
  have HF := Lib.hid hf; clear hf
  have h2n : (2 * (n : Int) + 1) = ((2 * n + 1 : Nat) : Int) := by omega
  have H2N := Lib.hid h2n; clear h2n
  go_enter Tryd.func85, Tryd.ntmps85
  go_wp2_with (refine wpList_make_blk _ rfl _ _ 57 rfl 52 i0 .u64 0 Tryd.underlying57 hi hz0 hz1 .i64 .i64 _ _ (2 * n + 1) rfl rfl H2N.out H2N.out (by rw [hz2]; omega) (by unfold maxLen; omega) ?_; intro w1 hB hC)
  obtain ⟨wo, rfl⟩ : ∃ wo : World, wo = w := ⟨_, rfl⟩
  have hS0 : Blk (wo.alloc (.cells #[.slice pm n cm, .int .u64 (f : Int)] 96)) wo.heap.size 96 [.slice pm n cm, .int .u64 (f : Int)] := Blk.new wo _ _
  have hS := hC.blk hS0 hS0.lt (fun q => q)
  have hC0 : Ch wo.heap.size none1 wo w1 := ((Ch.refl wo.heap.size none1 wo).alloc (Nat.le_refl _) _).trans (hC.mono (by simp) (fun _ _ q => q))
  rw [World.size_alloc] at hB
  clear hS0 hC
  go_loopw [21] (fun i wr => ∃ (k q : Nat) (ss : List Nat), k ≤ n ∧ i = .int .i64 k ∧ Dok ss ∧ ss.length = 2 * n + 1 ∧ dv (ss.take k) = 0 ∧ dv (ss.drop k) * D ^ k = dv xs * dv (ys.take k) + M * q ∧ q < D ^ k ∧
      Blk wr (wo.heap.size + 1) 52 (ss.map U) ∧ Blk wr wo.heap.size 96 [.slice pm n cm, .int .u64 (f : Int)] ∧ Ch wo.heap.size none1 wo wr)
    (fun i _ => n - (intOf i).toNat)
  case atStart =>
    refine ⟨0, 0, List.replicate (2 * n + 1) 0, Nat.zero_le _, rfl, Dok.zeros _, by simp, rfl, ?_, by rw [Nat.pow_zero]; omega, hB.cast (by simp), hS, hC0⟩
    rw [List.drop_zero, dv_zeros, Nat.zero_mul, List.take_zero, dv_nil, Nat.mul_zero, Nat.mul_zero]
  case round =>
    clear hB hS hC0
    obtain ⟨k, q, ss, hk, rfl, hz, hzl, hlow, hinv, hq, hB, hS, hC⟩ := hrel
    have HZ := Lib.hid hzl; clear hzl
    have HLOW := Lib.hid hlow; clear hlow
    have HINV := Lib.hid hinv; clear hinv
    have HQ := Lib.hid hq; clear hq
    by_cases hlt : k < n
    · obtain ⟨gy, oy, rfl⟩ := HDY.out.addr (by omega)
      have hky : k < ys.length := by rw [HYL.out]; exact hlt
      have hyg := (Dg.ch hC HDY.out (fun a ha => ⟨HDY.out.lt_size a ha, fun q => q⟩)).get k hlt
      have hty := dv_take_succ ys k hky
      have hyb := HDY.out.lt _ (List.getElem_mem hky)
      obtain ⟨y, hy1⟩ : ∃ y, ys[k] = y := ⟨_, rfl⟩
      rw [hy1] at hyg hty hyb
      have HTY := Lib.hid hty; clear hty hy1
      have hxd := Dg.ch hC HDX.out (fun a ha => ⟨HDX.out.lt_size a ha, fun q => q⟩)
      have hxs := HDX.out.lt_size
      have hms := HDM.out.lt_size
      have hyk : dv (ys.take k) < D ^ k := by
        have := dv_lt (HDY.out.lt : Dok ys)
        have h2 := dv_lt ((HDY.out.lt : Dok ys) |> fun h => Dok.take h k)
        rwa [List.length_take, Nat.min_eq_left (by omega)] at h2
      have hHlt := mont_lt (D ^ k) M (dv xs) (dv (ys.take k)) q _ (Nat.pow_pos D_pos) hX hyk HQ.out HINV.out
      have HYK := Lib.hid hyk; clear hyk
      have HXS := Lib.hid hxs; clear hxs
      have HMS := Lib.hid hms; clear hms
      have hB2 : Blk wr (wo.heap.size + 1) 52 ((ss.take k).map U ++ (ss.drop k).map U ++ []) := hB.cast (by rw [List.append_nil, ← List.map_append, List.take_append_drop])
      have hrk : ((ss.take k).map U).length = k := by rw [List.length_map, List.length_take, HZ.out]; omega
      have HRK := Lib.hid hrk; clear hrk
      have hsl := hS.lt
      have hbl := hB.lt
      go_wp2_with fail
      refine (addProduct_any (2 * n + 1 - k) n (2 * n + 1 - k) cx (wo.heap.size + 1) k y _ px _ [] _ xs _ (hz.drop k) (by rw [List.length_drop, HZ.out]) (by unfold maxLen; omega) (Nat.le_refl _) (by omega) hyb hB2 HRK.out hxd (fun a ha => by have := HXS.out a ha; omega)).mono ?_
      rintro e w2 ⟨c2, z1, rfl, hz1, hz1l, hz1v, hB3, hC2⟩
      have HZ1 := Lib.hid hz1l; clear hz1l
      have hroom := two_pow_room M n (2 * n + 1 - k) hMn (by omega)
      rcases z1 with _ | ⟨s0, z1⟩
      · have := HZ1.out; simp at this; omega
      have hs0 : s0 < D := hz1 _ (List.mem_cons_self ..)
      have ht := Nat.mod_lt (s0 * f) D_pos
      have hlt2 := mont_lt2 D M (dv xs) y (s0 * f % D) _ hX hyb ht hHlt
      have hz1e := no_carry _ c2 (2 * n + 1 - k) _ hz1v (by omega)
      have HH1 := Lib.hid hz1e; clear hz1e hz1v
      have hzero := mont_zero D M f (dv (s0 :: z1)) (s0 * f % D) D_pos HF.out (by rw [(head_mod s0 z1 hs0).1])
      have hwr : IntKind.u64.wrap ((s0 : Int) * (f : Int)) = ((s0 * f % D : Nat) : Int) := by
        rw [wrap_u, show ((s0 : Int) * (f : Int)) = ((s0 * f : Nat) : Int) from by simp]
        exact (Int.natCast_emod _ _).symm
      obtain ⟨tt, htt⟩ : ∃ tt, s0 * f % D = tt := ⟨_, rfl⟩
      rw [htt] at ht hlt2 hzero hwr
      have HZERO := Lib.hid hzero; clear hzero htt
      have HLT2 := Lib.hid hlt2; clear hlt2 hHlt
      have HROOM := Lib.hid hroom; clear hroom
      have hS2 := hC2.blk hS hsl (fun q => by omega)
      have c0 := hS2.cell 0
      have c1 := hS2.cell 1
      have hmg := mid_get ((ss.take k).map U) [] [] z1 s0 k 0 HRK.out rfl
      rw [List.nil_append] at hmg
      have cs : w2.cell? { block := wo.heap.size + 1, off := k } = some (U s0) := (hB3.cell (k + 0)).trans hmg
      clear hmg
      have hmd := Dg.ch (hC.step hC2 (Nat.le_refl _) (fun j hj q => absurd q (by omega))) HDM.out (fun a ha => ⟨HDM.out.lt_size a ha, fun q => q⟩)
      have HMD := Lib.hid hmd; clear hmd
      have hCC := hC.step hC2 (Nat.le_refl _) (fun j hj q => absurd q (by omega))
      have HT := Lib.hid ht; clear ht
      go_wp2_with fail
      have f1 : (k : Int) ≤ 2 * (n : Int) + 1 := by omega
      have f2 : ¬ (2 * n + 1 = k) := by omega
      have f3 : (k : Int) < 2 * (n : Int) + 1 := by omega
      go_still_tail 12, (by kernel_rfl)
      change wpList _ _ _ _ _ w2.drew
      clear f1 f2 f3
      go_wp2_with (go_at_call 72; refine (addProduct_any (2 * n + 1 - k) n (2 * n + 1 - k) cm (wo.heap.size + 1) k tt _ pm _ [] _ (ds M) _ hz1 HZ1.out (by unfold maxLen; omega) (Nat.le_refl _) (by omega) HT.out hB3.drew HRK.out HMD.out.drew (fun a ha => by have := HMS.out a ha; omega)).mono ?_; rintro e w3 ⟨c3, z2, rfl, hz2, hz2l, hz2v, hB4, hC4⟩)
      have h2e := no_carry _ c3 (2 * n + 1 - k) _ hz2v (by have a1 := HLT2.out; have a2 := HROOM.out; rw [HH1.out, dv_ds]; omega)
      rw [dv_ds] at h2e
      have hz0m := HZERO.out
      rw [← h2e] at hz0m
      have hak : (ss.take k).length = k := by rw [List.length_take, HZ.out]; omega
      have hrl := round_list (ss.take k) z2 k hak HLOW.out hz0m (by omega) hz2
      have hmr := mont_round D (D ^ k) M (dv xs) y tt _ (dv z2) _ q HINV.out (by rw [h2e, HH1.out])
      refine ⟨⟨k + 1, q + D ^ k * tt, ss.take k ++ z2, by omega, by simp, (hz.take k).append hz2, by rw [List.length_append, hak, hz2l]; omega, hrl.1, by rw [hrl.2, hmr, HTY.out], ?_, hB4.cast (by simp), ?_, ?_⟩, by simp [intOf]; omega⟩
      · rw [Nat.pow_succ]; exact q_next _ _ _ _ HQ.out HT.out
      · exact hC4.blk hS2.drew hS2.drew.lt (fun q => by omega)
      · exact hCC.drew.step hC4 (Nat.le_refl _) (fun j hj q => absurd q (by omega))
    · have hkn : k = n := by omega
      subst hkn
      have hfin : dv (ss.drop k) * D ^ k = dv xs * dv ys + M * q := by
        rw [HINV.out, List.take_of_length_le (by rw [HYL.out]; omega)]
      have hyk : dv ys < D ^ k := by
        have := dv_lt (HDY.out.lt : Dok ys)
        rwa [HYL.out] at this
      have hH2 := mont_lt (D ^ k) M (dv xs) (dv ys) q _ (Nat.pow_pos D_pos) hX hyk HQ.out hfin
      have hzd := hz.drop k
      have hzl : (ss.drop k).length = 2 * k + 1 - k := by rw [List.length_drop, HZ.out]
      have hpl : ((ss.take k).map U).length = k := by rw [List.length_map, List.length_take, HZ.out]; omega
      have hBT : Blk wr (wo.heap.size + 1) 52 ((ss.take k).map U ++ (ss.drop k).map U ++ []) := hB.cast (by rw [List.append_nil, ← List.map_append, List.take_append_drop])
      obtain ⟨T, hT⟩ : ∃ T, ss.drop k = T := ⟨_, rfl⟩
      obtain ⟨pre, hpre⟩ : ∃ pre, (ss.take k).map U = pre := ⟨_, rfl⟩
      rw [hT] at hfin hH2 hzd hzl hBT
      rw [hpre] at hpl hBT
      clear hT hpre hB HLOW HINV HZ hz hyk
      have hdr := dg_mid _ _ _ hBT hpl hzd _ hzl
      have htr : Dg wr (some ⟨wo.heap.size + 1, k, none⟩) (tlen T) (ds (dv T)) := by
        rw [← trimD T hzd]
        refine dg_mid pre ((T.drop (tlen T)).map U) _ (t := 52) (hBT.cast ?_) hpl (hzd.take _) _ (by rw [List.length_take, Nat.min_eq_left (tlen_le T)])
        rw [List.append_nil, List.append_assoc, ← List.map_append, List.take_append_drop]
      have htl : tlen (ds (dv T)) = tlen T := by rw [tlen_ds, ← trimD T hzd, List.length_take, Nat.min_eq_left (tlen_le T)]
      have htb := tlen_le T
      have hmd := Dg.ch hC HDM.out (fun a ha => ⟨HDM.out.lt_size a ha, fun q => q⟩)
      have hms := HDM.out.lt_size
      have hcmp := fun w2 (h1 : Dg w2 (some ⟨wo.heap.size + 1, k, none⟩) (tlen T) (ds (dv T))) (h2 : Dg w2 pm k (ds M)) => compare_any _ pm (tlen T) k (2 * k + 1 - k) cm _ _ w2 h1 h2 htl (by rw [tlen_ds]; exact HN.out) (by omega) (by omega)
      simp only [dv_ds] at hcmp
      have c0 := hS.cell 0
      have HCMP := Lib.hid hcmp; clear hcmp
      have HTR := Lib.hid htr; clear htr
      have HDR := Lib.hid hdr; clear hdr
      have HMD := Lib.hid hmd; clear hmd
      have HMS := Lib.hid hms; clear hms
      have HFIN := Lib.hid hfin; clear hfin
      have HPL := Lib.hid hpl; clear hpl
      have HZL := Lib.hid hzl; clear hzl
      have HTL := Lib.hid htl; clear htl
      have hsl := hS.lt
      have hbl := hBT.lt
      have hgs := hC.size
      obtain ⟨H, hH⟩ : ∃ H, dv T = H := ⟨_, rfl⟩
      rw [hH] at HCMP HTR HFIN hH2
      have HH := Lib.hid hH; clear hH
      obtain ⟨c, hc⟩ : ∃ c, cmpN H M = c := ⟨_, rfl⟩
      rw [hc] at HCMP
      have HCC := Lib.hid hc; clear hc
      go_wp2_with fail
      rcases Nat.lt_or_ge H M with hlt | hge
      · have hcm : c = -1 := by rw [← HCC.out, cmpN_lt hlt]
        subst hcm
        go_region_with (first
          | (go_at_call 73; refine (dtrim_any _ (2 * k + 1 - k) (2 * k + 1 - k) T _ HDR.out.drew (Nat.le_refl _) (by unfold maxLen; omega)).mono ?_; rintro e w2 ⟨rfl, rfl⟩)
          | (go_at_call 74; refine (HCMP.out _ HTR.out.drew HMD.out.drew).mono ?_; rintro e w3 ⟨rfl, hC3⟩))
        all_goals
          have hB3 := hC3.blk hBT.drew hBT.drew.lt (fun q => q)
          have hC := hC.drew.step0 hC3 (Nat.le_refl _)
          go_wp2_with fail
          go_ret
          refine ⟨_, H, rfl, ⟨_, _, T.take k, rfl, dg_mid pre ((T.drop k).map U) _ (t := 52) (hB3.cast (by rw [List.append_nil, List.append_assoc, ← List.map_append, List.take_append_drop])) HPL.out (hzd.take _) _ (by rw [List.length_take, HZL.out]; omega), ?_⟩, hlt, mont_end _ _ _ _ q H H HFIN.out (.inl rfl), ?_⟩
          · rw [dv_take_low T k (by rw [HZL.out]; omega) (by rw [HH.out]; omega), HH.out]
          · exact hC
      · have hcm : 0 ≤ c := by
          rw [← HCC.out]
          rcases Nat.eq_or_lt_of_le hge with e | e
          · rw [cmpN_eq e.symm]; decide
          · rw [cmpN_gt e]; decide
        go_region_with (first
          | (go_at_call 73; refine (dtrim_any _ (2 * k + 1 - k) (2 * k + 1 - k) T _ HDR.out.drew (Nat.le_refl _) (by unfold maxLen; omega)).mono ?_; rintro e w2 ⟨rfl, rfl⟩)
          | (go_at_call 74; refine (HCMP.out _ HTR.out.drew HMD.out.drew).mono ?_; rintro e w3 ⟨rfl, hC3⟩))
        all_goals
          have hB3 := hC3.blk hBT.drew hBT.drew.lt (fun q => q)
          have hS3 := hC3.blk hS.drew hS.drew.lt (fun q => q)
          have hC4 := hC.drew.step0 hC3 (Nat.le_refl _)
          have hmd := Dg.ch hC4 HDM.out (fun a ha => ⟨HDM.out.lt_size a ha, fun q => q⟩)
          have HMD3 := Lib.hid hmd
          clear hmd
          have c0 := hS3.cell 0
          go_wp2_with fail
          refine (subtract_any (2 * k + 1 - k) k (2 * k + 1 - k) cm (wo.heap.size + 1) k _ pm pre [] T (ds M) _ hzd HZL.out (by unfold maxLen; omega) (Nat.le_refl _) (by omega) (by rw [dv_ds, HH.out]; exact hge) hB3 HPL.out HMD3.out (fun a ha => by have := HMS.out a ha; omega)).mono ?_
          rintro e w5 ⟨zs, rfl, hz5, hz5l, hz5v, hB5, hC5⟩
          rw [dv_ds, HH.out] at hz5v
          have HZ5 := Lib.hid hz5l; clear hz5l
          have hC6 := hC4.step hC5 (by omega) (fun j hj q => absurd q (by omega))
          go_wp2_with fail
          go_ret
          refine ⟨_, H - M, rfl, ⟨_, _, zs.take k, rfl, dg_mid pre ((zs.drop k).map U) _ (t := 52) (hB5.cast (by rw [List.append_nil, List.append_assoc, ← List.map_append, List.take_append_drop])) HPL.out (hz5.take _) _ (by rw [List.length_take, HZ5.out]; omega), ?_⟩, by omega, mont_end _ _ _ _ q H (H - M) HFIN.out (.inr (by omega)), ?_⟩
          · rw [dv_take_low zs k (by rw [HZ5.out]; omega) (by omega), hz5v]
          · exact hC6
end Go.Proofs.YtcghnkdfhiancaaDoor
