/- Contracts of package nat's division of digits. -/
import Derived.Test.YtcghnkdfhiancaaDoorNq
namespace Go.Proofs.YtcghnkdfhiancaaDoor
open Go.RowKit
theorem OwnD.of_blk' {w : World} {B g cap : Nat} {zs : List Nat} {post : List Value} (h : Blk w g 52 (zs.map U ++ post)) (hz : Dok zs) (hl : zs.length + post.length = cap) (hm : cap ≤ maxLen) (hb : B ≤ g) : OwnD w B (.slice (some ⟨g, 0, none⟩) (tlen zs) cap) (dv zs) := by
  unfold OwnD
  have ht := trimD zs hz
  have hle := tlen_le zs
  have e : (ds (dv zs)).length = tlen zs := by rw [← ht, List.length_take]; omega
  rw [e]
  refine own_of_blk h (by rw [List.length_append, List.length_map]; exact hl) (by omega) hm ?_ hb
  rw [List.take_append_of_le_length (by rw [List.length_map]; exact hle), ← List.map_take, ht]
/-- The slice of digits from place k on, m + 1 of them. -/
theorem three (rs : List Nat) (k m : Nat) : rs = rs.take k ++ ((rs.drop k).take (m + 1) ++ rs.drop (k + (m + 1))) := by
  rw [← List.drop_drop, List.take_append_drop, List.take_append_drop]
theorem high_zero (_B : Nat) (A P Q h V : Nat) (_hB : 0 < P) (h1 : A + P * Q * h < V * P) (hV : V ≤ Q) : h = 0 := by
  rcases Nat.eq_zero_or_pos h with q | q
  · exact q
  · have h2 := Nat.mul_le_mul_left (P * Q) q
    have h3 := Nat.mul_le_mul_right P hV
    rw [Nat.mul_comm Q P] at h3
    omega
theorem div_step' (B P V low mid q r X Q : Nat) (hX : X = V * (P * B) * Q + (low + P * mid)) (hm : V * q + r = mid) : X = V * P * (q + B * Q) + (low + P * r) := by
  subst hX hm
  grind
theorem div_small (P V low r : Nat) (hl : low < P) (hr : r < V) : low + P * r < V * P := by
  have := Nat.mul_le_mul_left P (show r + 1 ≤ V from hr)
  rw [Nat.mul_add, Nat.mul_comm P V] at this
  omega
theorem mid_small (B P V low mid : Nat) (h : low + P * mid < V * (P * B)) (_hP : 0 < P) : mid < B * V := by
  refine Nat.lt_of_mul_lt_mul_left (a := P) ?_
  rw [← Nat.mul_assoc, Nat.mul_comm (P * B) V]
  omega
/-- What is needed of one step of the long division. -/
theorem long_step (rs qs : List Nat) (k m N V X : Nat) (hr : Dok rs) (hrl : rs.length = N + 1) (hk : k + m ≤ N) (hX : X = V * D ^ (k + 1) * dv qs + dv rs) (hlt : dv rs < V * D ^ (k + 1)) (hV : V < D ^ m) :
    dv ((rs.drop k).take (m + 1)) < D * V ∧ dv (rs.drop (k + (m + 1))) = 0 ∧
    (∀ zs : List Nat, Dok zs → zs.length = m + 1 → dv zs = dv ((rs.drop k).take (m + 1)) % V → 0 < V →
      X = V * D ^ k * dv (dv ((rs.drop k).take (m + 1)) / V :: qs) + dv (rs.take k ++ (zs ++ rs.drop (k + (m + 1)))) ∧ dv (rs.take k ++ (zs ++ rs.drop (k + (m + 1)))) < V * D ^ k) := by
  have e := three rs k m
  have h1 := dv_append (rs.take k) ((rs.drop k).take (m + 1) ++ rs.drop (k + (m + 1)))
  rw [← e, List.length_take, Nat.min_eq_left (by omega)] at h1
  have h2 := dv_append ((rs.drop k).take (m + 1)) (rs.drop (k + (m + 1)))
  have hml : ((rs.drop k).take (m + 1)).length = m + 1 := by rw [List.length_take, List.length_drop]; omega
  rw [hml] at h2
  have hlow := dv_lt (hr.take k)
  rw [List.length_take, Nat.min_eq_left (by omega)] at hlow
  have hPk : 0 < D ^ k := Nat.pow_pos D_pos
  have hsuc : D ^ (k + 1) = D ^ k * D := Nat.pow_succ D k
  have hsm : D ^ (m + 1) = D * D ^ m := by rw [Nat.pow_succ, Nat.mul_comm]
  have hz : dv (rs.drop (k + (m + 1))) = 0 := by
    rw [h1, h2, hsuc, hsm] at hlt
    generalize dv ((rs.drop k).take (m + 1)) = md at *
    generalize dv (rs.drop (k + (m + 1))) = hh at *
    generalize dv (rs.take k) = lo at *
    refine high_zero D (lo + D ^ k * md) (D ^ k * D) (D ^ m) hh V (Nat.mul_pos hPk D_pos) ?_ (Nat.le_of_lt hV)
    have : D ^ k * (md + D * D ^ m * hh) = D ^ k * md + D ^ k * D * D ^ m * hh := by rw [Nat.mul_add, ← Nat.mul_assoc, ← Nat.mul_assoc]
    omega
  rw [hz, Nat.mul_zero, Nat.add_zero] at h2
  rw [h2] at h1
  rw [h1, hsuc] at hX hlt
  have hmid := mid_small D (D ^ k) V _ _ hlt hPk
  refine ⟨hmid, hz, fun zs hzd hzl hzv hV0 => ?_⟩
  have h3 : dv (rs.take k ++ (zs ++ rs.drop (k + (m + 1)))) = dv (rs.take k) + D ^ k * dv zs := by
    rw [dv_append, dv_append, hz, Nat.mul_zero, Nat.add_zero, List.length_take, Nat.min_eq_left (by omega)]
  rw [h3, dv_cons]
  constructor
  · exact div_step' D (D ^ k) V _ _ _ _ X _ hX (by rw [hzv]; exact Nat.div_add_mod _ _)
  · exact div_small (D ^ k) V _ _ hlow (by rw [hzv]; exact Nat.mod_lt _ hV0)
theorem top_pos (ys : List Nat) (m : Nat) (hl : ys.length = m) (hm : 0 < m) (ht : tlen ys = m) : 0 < ys[m - 1]'(by omega) := by
  rcases Nat.eq_zero_or_pos (ys[m - 1]'(by omega)) with h | h
  · have := tlen_step ys (m - 1) (by omega) h (by omega)
    omega
  · exact h
theorem norm_top (ys : List Nat) (m s : Nat) (hy : Dok ys) (hl : ys.length = m) (hm : 0 < m) (hs : (ys[m - 1]'(by omega)) * 2 ^ s < D) (hs64 : s < 64) : dv ys * 2 ^ s < D ^ m := by
  have h3 := dv_take_succ ys (m - 1) (by omega)
  rw [show m - 1 + 1 = m from by omega, List.take_of_length_le (by omega)] at h3
  have h4 := dv_lt (hy.take (m - 1))
  rw [List.length_take, Nat.min_eq_left (by omega)] at h4
  have hP : D ^ m = D ^ (m - 1) * D := by rw [← Nat.pow_succ]; congr 1; omega
  generalize ys[m - 1]'(by omega) = c at *
  have hD : D = 2 ^ (64 - s) * 2 ^ s := by rw [← Nat.pow_add, show 64 - s + s = 64 by omega]; rfl
  have hc : c < 2 ^ (64 - s) := by rw [hD] at hs; exact Nat.lt_of_mul_lt_mul_right hs
  have h5 : (c + 1) * 2 ^ s ≤ D := by rw [hD]; exact Nat.mul_le_mul_right _ hc
  rw [hP, h3]
  have h6 := Nat.mul_le_mul_left (D ^ (m - 1)) h5
  have h7 : dv (ys.take (m - 1)) + D ^ (m - 1) * c < D ^ (m - 1) * (c + 1) := by rw [Nat.mul_add, Nat.mul_one]; omega
  have h8 := Nat.mul_lt_mul_of_pos_right h7 (Nat.two_pow_pos s)
  rw [Nat.mul_assoc (D ^ (m - 1))] at h8
  omega
theorem low_bound (ys : List Nat) (m : Nat) (hl : ys.length = m) (hm : 0 < m) (ht : 0 < ys[m - 1]'(by omega)) : D ^ (m - 1) ≤ dv ys := by
  have h3 := dv_take_succ ys (m - 1) (by omega)
  rw [show m - 1 + 1 = m from by omega, List.take_of_length_le (by omega)] at h3
  have := Nat.mul_le_mul_left (D ^ (m - 1)) ht
  omega
theorem start_bound (X V0 n m s : Nat) (hX : X < D ^ n) (hV : D ^ (m - 1) ≤ V0) (hm : 0 < m) (hmn : m ≤ n) : X * 2 ^ s < V0 * 2 ^ s * D ^ (n + 1 - m) := by
  have h1 : D ^ n = D ^ (m - 1) * D ^ (n + 1 - m) := by rw [← Nat.pow_add]; congr 1; omega
  have h2 := Nat.mul_le_mul_right (D ^ (n + 1 - m)) hV
  have h3 : X < V0 * D ^ (n + 1 - m) := by omega
  rw [Nat.mul_right_comm]
  exact Nat.mul_lt_mul_of_pos_right h3 (Nat.two_pow_pos s)
theorem end_quo (X V0 s Q R : Nat) (hV : 0 < V0) (h : X * 2 ^ s = V0 * 2 ^ s * Q + R) (hR : R < V0 * 2 ^ s) : Q = X / V0 ∧ R / 2 ^ s = X % V0 := by
  have hS := Nat.two_pow_pos s
  have hVS : 0 < V0 * 2 ^ s := Nat.mul_pos hV hS
  constructor
  · have : X * 2 ^ s / (V0 * 2 ^ s) = Q := by rw [h, Nat.mul_add_div hVS, Nat.div_eq_of_lt hR, Nat.add_zero]
    rw [Nat.mul_div_mul_right _ _ hS] at this
    exact this.symm
  · have : X * 2 ^ s % (V0 * 2 ^ s) = R := by rw [h, Nat.mul_add_mod, Nat.mod_eq_of_lt hR]
    rw [Nat.mul_mod_mul_right] at this
    rw [← this, Nat.mul_div_cancel _ hS]
theorem take_low (z : List Nat) (m : Nat) (hm : m ≤ z.length) (h : dv z < D ^ m) : dv (z.take m) = dv z := by
  have h1 := dv_take_drop z m hm
  have h2 : dv (z.drop m) = 0 := by
    rcases Nat.eq_zero_or_pos (dv (z.drop m)) with q | q
    · exact q
    · have := Nat.mul_le_mul_left (D ^ m) q
      omega
  rw [h2, Nat.mul_zero, Nat.add_zero] at h1
  exact h1.symm
theorem blk_three {w : World} {g : Nat} {t : TypeId} {rs : List Nat} (k m : Nat) (h : Blk w g t (rs.map U)) : Blk w g t ((rs.take k).map U ++ ((rs.drop k).take (m + 1)).map U ++ (rs.drop (k + (m + 1))).map U) :=
  h.cast (by rw [List.append_assoc, ← List.map_append, ← List.map_append, ← three])
set_option maxRecDepth 100000 in
set_option maxHeartbeats 3200000 in
theorem divideByDigits_any (n m capx capy : Nat) (p q : Option Addr) (xs ys : List Nat) (w : World) (hx : Dg w p n xs) (hy : Dg w q m ys) (hn : n ≤ 8796093022208) (hm2 : 2 ≤ m) (hmn : m ≤ n) (cy : tlen ys = m) :
    Calls Tryd.prog 81 #[.slice p n capx, .slice q m capy] w fun e w' => ∃ v1 v2, e = .returned (.tuple #[v1, v2]) ∧ OwnD w' w.heap.size v1 (dv xs / dv ys) ∧ OwnD w' w.heap.size v2 (dv xs % dv ys) ∧ Ch w.heap.size none1 w w' := by
  obtain ⟨i0, hi, hz0, hz1, hz2⟩ := info_parts Tryd.info52
  obtain ⟨gy, oy, rfl⟩ := hy.addr (by omega)
  have htop := top_pos ys m hy.len (by omega) cy
  have c3 := hy.get (m - 1) (by omega)
  have hyb : ys[m - 1]'(by rw [hy.len]; omega) < D := hy.lt _ (List.getElem_mem _)
  obtain ⟨hs64, hY1, hY2⟩ := lz_facts _ hyb htop
  have hnt := norm_top ys m _ hy.lt hy.len (by omega) hY2 hs64
  have hlb := low_bound ys m hy.len (by omega) htop
  have hlz := fun w => lz_any (ys[m - 1]'(by rw [hy.len]; omega)) w hyb
  generalize ys[m - 1]'(by rw [hy.len]; omega) = yt at *
  generalize lz yt = s at *
  have hxlt := dv_lt hx.lt
  rw [hx.len] at hxlt
  have hsb := start_bound (dv xs) (dv ys) n m s hxlt hlb (by omega) hmn
  have hV0 : 0 < dv ys := Nat.lt_of_lt_of_le (Nat.pow_pos D_pos) hlb
  have hVS : 0 < dv ys * 2 ^ s := Nat.mul_pos hV0 (Nat.two_pow_pos s)
  have HLZ := Lib.hid hlz; clear hlz hY1 hY2 htop hyb hxlt hlb cy
  have HSB := Lib.hid hsb; clear hsb
  have HNT := Lib.hid hnt; clear hnt
  have HX := Lib.hid hx; clear hx
  have HY := Lib.hid hy; clear hy
  go_enter Tryd.func81, Tryd.ntmps81
  go_wp2_with fail
  refine (HLZ.out _).mono ?_
  rintro e w' ⟨rfl, rfl⟩
  obtain ⟨w, rfl⟩ : ∃ w : World, w = w' := ⟨_, rfl⟩
  go_wp2_with fail
  refine (shiftedLeft_any _ m capy s ys _ HY.out (by omega) hs64).mono ?_
  rintro e w1 ⟨g1, z1, rfl, hg1, hB1, hz1d, hz1l, hz1v, hC1⟩
  have hx1 := Dg.ch hC1 HX.out (fun a ha => ⟨HX.out.lt_size a ha, fun q => q⟩)
  have HX1 := Lib.hid hx1; clear hx1
  have HZ1 := Lib.hid hz1l; clear hz1l
  have HV1 := Lib.hid hz1v; clear hz1v
  go_wp2_with fail
  refine (shiftedLeft_any p n capx s xs _ HX1.out (by omega) hs64).mono ?_
  rintro e w2 ⟨g2, z2, rfl, hg2, hB2, hz2d, hz2l, hz2v, hC2⟩
  have HZ2 := Lib.hid hz2l; clear hz2l
  have HV2 := Lib.hid hz2v; clear hz2v
  have hlt1 := hB1.lt
  have hB1' := hC2.blk hB1 hlt1 (fun q => q)
  have hC := hC1.step0 hC2 (Nat.le_refl _)
  have hnm : ((n : Int) + 1 - (m : Int)) = ((n + 1 - m : Nat) : Int) := by omega
  have HNM := Lib.hid hnm; clear hnm hB1 hC1 hC2
  have hsz := hC.size
  go_wp2_with (refine wpList_make_blk _ rfl _ _ 57 rfl 52 i0 .u64 0 Tryd.underlying57 hi hz0 hz1 .i64 .i64 _ _ (n + 1 - m) rfl rfl HNM.out HNM.out (by rw [hz2]; omega) (by unfold maxLen; omega) ?_; intro w3 hB3 hC3)
  have hlt2 := hB2.lt
  have hB1a := hC3.blk hB1' (Nat.lt_of_lt_of_le hB1'.lt (Nat.le_refl _)) (fun q => q)
  have hB2a := hC3.blk hB2 hlt2 (fun q => q)
  have hCa := hC.step0 hC3 (Nat.le_refl _)
  have hg12 : g1 < g2 := by omega
  have hg23 : g2 < w2.heap.size := hlt2
  clear hB1' hB2 hC hC3
  obtain ⟨g3, hg3⟩ : ∃ g3, w2.heap.size = g3 := ⟨_, rfl⟩
  rw [hg3] at hB3 hg23 ⊢
  have hg3w : w.heap.size ≤ g3 := by omega
  clear hg3
  obtain ⟨V, hVe⟩ : ∃ V, dv ys * 2 ^ s = V := ⟨_, rfl⟩
  have hnt := HNT.out
  have hsb := HSB.out
  have hv1 := HV1.out
  have hv2 := HV2.out
  rw [hVe] at hnt hsb hv1 hVS
  have htl := take_low z1 m (by rw [HZ1.out]; omega) (by rw [hv1]; exact hnt)
  rw [hv1] at htl
  have htd : Dok (z1.take m) := hz1d.take m
  have htll : (z1.take m).length = m := by rw [List.length_take, HZ1.out]; omega
  have hdvs : ∀ wr, Blk wr g1 52 (z1.map U) → Dg wr (some ⟨g1, 0, none⟩) m (z1.take m) := fun wr hb =>
    dg_of_blk (post := (z1.drop m).map U) (hb.cast (by rw [← List.map_append, List.take_append_drop])) htd m htll
  have HDV := Lib.hid hdvs; clear hdvs
  have HTL := Lib.hid htl; clear htl
  have HN1 := Lib.hid hnt; clear hnt
  have HVE := Lib.hid hVe; clear hVe hv1
  clear htll HSB HNT
  go_wp2_with fail
  go_loopw [7] (fun i wr => ∃ (k : Nat) (rs qs : List Nat), k ≤ n + 1 - m ∧ i = .int .i64 ((k : Int) - 1) ∧ Dok rs ∧ rs.length = n + 1 ∧ Dok qs ∧ qs.length = n + 1 - m - k ∧ dv xs * 2 ^ s = V * D ^ k * dv qs + dv rs ∧ dv rs < V * D ^ k ∧
      Blk wr g2 52 (rs.map U) ∧ Blk wr g3 52 ([] ++ (List.replicate k 0 ++ qs).map U ++ []) ∧ Blk wr g1 52 (z1.map U) ∧ Ch w.heap.size none1 w wr)
    (fun i _ => (intOf i + 1).toNat)
  case atStart =>
    refine ⟨n + 1 - m, z2, [], Nat.le_refl _, by go_num, hz2d, HZ2.out, Dok.nil, by simp, ?_, ?_, hB2a, hB3.cast (by simp), hB1a, hCa⟩
    · rw [hv2, dv_nil, Nat.mul_zero, Nat.zero_add]
    · rw [hv2]; exact hsb
  case round =>
    clear hB2a hB3 hB1a hCa hv2 hsb
    obtain ⟨k, rs, qs, hk, rfl, hr, hrl, hq, hql, hX, hXl, hB2, hB3, hB1, hC⟩ := hrel
    have HRL := Lib.hid hrl; clear hrl
    have HQL := Lib.hid hql; clear hql
    rcases k with _ | k
    · rw [Nat.pow_zero, Nat.mul_one] at hX hXl
      have htk := take_low rs m (by rw [HRL.out]; omega) (Nat.lt_trans hXl HN1.out)
      have he := end_quo (dv xs) (dv ys) s (dv qs) (dv rs) hV0 (by rw [HVE.out]; exact hX) (by rw [HVE.out]; exact hXl)
      have HE := Lib.hid he; clear he hX hXl
      have HTK := Lib.hid htk; clear htk
      have hB2' : Blk wr g2 52 ([] ++ (rs.take m).map U ++ (rs.drop m).map U) := hB2.cast (by rw [List.nil_append, ← List.map_append, List.take_append_drop])
      have hq3 := hB3.lt
      go_wp2_with fail
      refine (shiftRight_any m (n + 1) s g2 0 _ [] _ (rs.take m) _ (hr.take m) (by rw [List.length_take, HRL.out]; omega) (by omega) hs64 hB2' rfl).mono ?_
      rintro e w4 ⟨zs, rfl, hz, hzl, hzv, hB4, hC4⟩
      have HZ := Lib.hid hzl; clear hzl
      rw [HTK.out] at hzv
      have HV := Lib.hid hzv; clear hzv
      have hB3' := hC4.blk hB3 hq3 (fun q => by omega)
      have hB4' : Blk w4 g2 52 (zs.map U ++ (rs.drop m).map U) := hB4.cast (by simp)
      have hB3'' : Blk w4 g3 52 (qs.map U ++ []) := hB3'.cast (by simp)
      have hC5 := hC.step hC4 (Nat.le_refl _) (fun j hj q => absurd q (by omega))
      clear hB4 hB3' hB3 hC
      have hd3 := dg_of_blk hB3'' hq (n + 1 - m) (by rw [HQL.out]; omega)
      have hd4 := dg_of_blk hB4' hz m HZ.out
      have HD3 := Lib.hid hd3; clear hd3
      have HD4 := Lib.hid hd4; clear hd4
      go_wp2_with fail
      refine (dtrim_any _ (n + 1 - m) (n + 1 - m) qs _ HD3.out (Nat.le_refl _) (by unfold maxLen; omega)).mono ?_
      rintro e w5 ⟨rfl, rfl⟩
      go_wp2_with fail
      refine (dtrim_any _ m (n + 1) zs _ HD4.out (by omega) (by unfold maxLen; omega)).mono ?_
      rintro e w6 ⟨rfl, rfl⟩
      go_wp2_with fail
      go_ret2
      refine ⟨_, _, rfl, ?_, ?_, hC5⟩
      · have := OwnD.of_blk' (B := w.heap.size) hB3'' hq (cap := n + 1 - m) (by rw [HQL.out]; simp) (by unfold maxLen; omega) (by omega)
        rwa [HE.out.1] at this
      · have := OwnD.of_blk' (B := w.heap.size) hB4' hz (cap := n + 1) (by rw [HZ.out, List.length_map, List.length_drop, HRL.out]; omega) (by unfold maxLen; omega) (by omega)
        rwa [HV.out, HE.out.2] at this
    · obtain ⟨l1, _, l3⟩ := long_step rs qs k m n V (dv xs * 2 ^ s) hr HRL.out (by omega) hX hXl HN1.out
      have L3 := Lib.hid l3; clear l3 hX hXl
      have hB2' := blk_three k m hB2
      have hmd : Dok ((rs.drop k).take (m + 1)) := (hr.drop k).take _
      have hmdl : ((rs.drop k).take (m + 1)).length = m + 1 := by rw [List.length_take, List.length_drop, HRL.out]; omega
      have HMDL := Lib.hid hmdl; clear hmdl
      have hddv := HDV.out wr hB1
      have HDDV := Lib.hid hddv; clear hddv
      have hq3 := hB3.lt
      have hq1 := hB1.lt
      have hrk : ((rs.take k).map U).length = k := by rw [List.length_map, List.length_take, HRL.out]; omega
      have HRK := Lib.hid hrk; clear hrk
      go_wp2_with fail
      rw [show k + m + 1 - k = m + 1 from by omega]
      refine (divideStep_any m (n + 1 - k) (m + 1) g2 k g1 0 _ _ _ ((rs.drop k).take (m + 1)) (z1.take m) _ hmd HMDL.out (by omega) (by omega) (by omega) hB2' HRK.out HDDV.out (by omega) (by rw [HTL.out]; exact hVS) (by rw [HTL.out]; exact l1)).mono ?_
      rintro e w4 ⟨zs, rfl, hz, hzl, hzv, hB4, hC4⟩
      rw [HTL.out] at hzv ⊢
      have hst := L3.out zs hz hzl hzv hVS
      have hqd := step_bound V _ m (dv ((rs.drop k).take (m + 1)) / V) hVS l1 rfl
      generalize dv ((rs.drop k).take (m + 1)) / V = qd at *
      have HST := Lib.hid hst; clear hst hzv l1
      have HZ := Lib.hid hzl; clear hzl
      have hB3' := hC4.blk hB3 hq3 (fun q => by omega)
      have hB1' := hC4.blk hB1 hq1 (fun q => by omega)
      have hC5 := hC.step hC4 (Nat.le_refl _) (fun j hj q => absurd q (by omega))
      clear hB3 hB1 hC
      have hB3'' : Blk w4 g3 52 ([] ++ (List.replicate k 0 ++ 0 :: qs).map U ++ []) := hB3'.cast (by rw [List.replicate_succ']; simp)
      clear hB3'
      have c1 := hB3''.cell (0 + k)
      rw [mid_get [] [] (List.replicate k 0) qs 0 0 k rfl (by simp), Nat.zero_add] at c1
      have f1 := hB3''.frozen k
      go_wp2_with fail
      go_roundw
      case rel =>
        refine ⟨k, rs.take k ++ (zs ++ rs.drop (k + (m + 1))), qd :: qs, by omega, by go_num, (hr.take k).append (hz.append (hr.drop _)), ?_, Dok.cons hqd hq, by rw [List.length_cons, HQL.out]; omega, HST.out.1, HST.out.2, ?_, ?_, hB1'.set_other (by omega) _ _, hC5.setCell (.inl (by omega)) _⟩
        · rw [List.length_append, List.length_append, List.length_take, List.length_drop, HRL.out, HZ.out]; omega
        · exact (hB4.set_other (by omega) _ _).cast (by simp)
        · have := (hB3''.set (0 + k) (U qd)).cast (mid_set [] [] (List.replicate k 0) qs 0 qd 0 k rfl (by simp))
          rw [Nat.zero_add] at this
          exact this.cast (by simp)
      case measure => simp [intOf]
end Go.Proofs.YtcghnkdfhiancaaDoor
