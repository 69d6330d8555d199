/- The reference model of layer 2: Common; what Common of both packages answers. -/
import Derived.Test.YtbpoghgokkpckaaGreatDoorYa
import Derived.Test.YtbpoghgokkpckaaGreatDoorQq
namespace Go.Proofs.YtbpoghgokkpckaaGreatDoor
open Go.RowKit Go.Shelf
/-- Whether the numbers of a list have a common denominator; which; and the numerators. -/
def comOk (l : List T3) : Bool := !(bad l || negs l)
def comD (l : List T3) : List UInt8 := if comOk l then nb (dens l) else []
def comN (l : List T3) : List (List UInt8) := if comOk l then l.map fun t => nb (bv t.2.1 * (dens l / bv t.2.2)) else []
def Yc (w : World) (l : List T3) (e : Ending) (w' : World) : Prop := ∃ p n c, e = .returned (.tuple #[S (comD l), .slice p n c, .bool (comOk l)]) ∧ Vs w' p n ((comN l).map S) ∧ Ch w.heap.size none1 w w'
theorem com_no {l : List T3} (h : bad l = true ∨ negs l = true) : comOk l = false ∧ comD l = [] ∧ comN l = [] := by
  have : comOk l = false := by unfold comOk; rcases h with h | h <;> rw [h] <;> simp
  exact ⟨this, by unfold comD; rw [if_neg (by rw [this]; simp)], by unfold comN; rw [if_neg (by rw [this]; simp)]⟩
theorem com_yes {l : List T3} (h : bad l = false) (h' : negs l = false) : comOk l = true ∧ comD l = nb (dens l) ∧ comN l = l.map fun t => nb (bv t.2.1 * (dens l / bv t.2.2)) := by
  have : comOk l = true := by unfold comOk; rw [h, h']; rfl
  exact ⟨this, by unfold comD; rw [if_pos this], by unfold comN; rw [if_pos this]⟩
theorem Yc.no {w w' : World} {l : List T3} {e : Ending} (h : bad l = true ∨ negs l = true) (he : e = .returned (.tuple #[S [], .slice none 0 0, .bool false])) (hC : Ch w.heap.size none1 w w') : Yc w l e w' := by
  obtain ⟨h1, h2, h3⟩ := com_no h
  exact ⟨none, 0, 0, by rw [he, h1, h2], by rw [h3]; exact ⟨rfl, fun _ => rfl, fun a ha => by simp at ha⟩, hC⟩
theorem dens_take {l : List T3} {k : Nat} {t : T3} (h : l[k]? = some t) : dens (l.take (k + 1)) = Nat.lcm (dens (l.take k)) (bv t.2.2) := by
  unfold dens
  rw [List.take_add_one, h, List.map_append, lcms_append]
  show Nat.lcm _ (Nat.lcm (bv t.2.2) 1) = _
  rw [Nat.lcm_one_right]
theorem lcm_step (a b : Nat) : Nat.lcm a b = a * (b / Nat.gcd a b) := by
  unfold Nat.lcm
  rw [Nat.mul_div_assoc _ (Nat.gcd_dvd_right a b)]
theorem dens_lt (K : Nat) (l : List T3) (h : ∀ t ∈ l, 0 < bv t.2.2 ∧ t.2.2.length ≤ K) : 0 < dens l ∧ dens l ≤ 256 ^ (l.length * K) := by
  have h1 : ∀ x ∈ l.map fun t => bv t.2.2, 0 < x ∧ x < 256 ^ K := fun x hx => by
    obtain ⟨t, ht, rfl⟩ := List.mem_map.1 hx
    exact ⟨(h t ht).1, bv_b (h t ht).2⟩
  have h2 := lcms_lt K _ h1
  rw [List.length_map] at h2
  exact ⟨lcms_pos _ fun x hx => (h1 x hx).1, h2⟩
theorem good_of_take {l : List T3} {k : Nat} (hb : bad (l.take k) = false) : ∀ t ∈ l.take k, Rt t.2.1 ∧ Rt t.2.2 ∧ 0 < bv t.2.2 := fun t ht => by
  obtain ⟨h1, h2, h3⟩ := good_at _ hb t ht
  exact ⟨h1, h2, rt_pos h2 h3⟩
theorem bad_mem {l : List T3} {k : Nat} {t : T3} (h : l[k]? = some t) (hr : rightR t.1 t.2.1 t.2.2 = false) : bad l = true := by
  unfold bad
  rw [List.any_eq_true]
  exact ⟨t, List.mem_of_getElem? h, by rw [hr]; rfl⟩
theorem nat_news (W : World) (s : List UInt8) : ∀ (j : Nat) (u : Value), [S s][j]? = some u → (W.alloc (.cells #[S s] 23 (0, 0))).cell? ((⟨W.heap.size, 0, none⟩ : Addr).add j) = some u := by
  intro j u h
  exact (Blk.new W #[S s] 23).adds j u h
theorem nat_one (s : List UInt8) : ∀ u ∈ [S s], u.oneCell' = true := by
  intro u hu
  obtain rfl := List.mem_singleton.1 hu
  rfl
theorem map_S_append (l : List (List UInt8)) (s : List UInt8) : (l ++ [s]).map S = l.map S ++ [S s] := by rw [List.map_append]; rfl
set_option maxRecDepth 100000 in
set_option maxHeartbeats 8000000 in
theorem rCommon_any (L : List T3) (p : Option Addr) (n c : Nat) (w : World) (hv : Rs w p n L) (hn : n ≤ 13) (hsz : ∀ t ∈ L, t.2.1.length ≤ 16 ∧ t.2.2.length ≤ 16) :
    Calls Tryz.prog 7 #[.slice p n c] w (Yc w L) := by
  have HV := Lib.hid hv
  have HS := Lib.hid hsz
  have H1 := Lib.hid C_one
  clear hv hsz
  obtain ⟨i0, hi0, hz0, hz1, hz2⟩ := info_parts nat_info
  obtain ⟨G, hG⟩ : ∃ G, w.heap.size = G := ⟨_, rfl⟩
  have HG := Lib.hid hG
  clear hG
  go_enter Tryz.func7, Tryz.ntmps7
  go_wp2_with fail
  refine (H1.out _).mono ?_
  rintro e w1 ⟨rfl, hC⟩
  have HC1 := Lib.hid (HG.out ▸ hC : Ch G none1 w w1)
  clear hC H1
  go_wp2_with fail
  go_loopw [5, 6] (fun d b wr => ∃ (k : Nat) (D : List UInt8), k ≤ n ∧ b = .int .i64 k ∧ d = S D ∧ nb (dens (L.take k)) = D ∧ (bad (L.take k) = false ∧ negs (L.take k) = false) ∧ Ch G none1 w wr) (fun _ b _ => n - (intOf b).toNat)
  case atStart => exact ⟨0, [1], Nat.zero_le _, rfl, rfl, nb_one, ⟨rfl, rfl⟩, HC1.out⟩
  case round =>
    obtain ⟨k, D, hk, rfl, rfl, hD, hbn, hC⟩ := hrel
    have HC := Lib.hid hC
    have HB := Lib.hid hbn
    have HD := Lib.hid hD
    have HWS := Lib.hid (show G ≤ wr.heap.size by have := hC.size; rw [HG.out] at this; exact this)
    have HVR := Lib.hid (HV.out.ch (by rw [HG.out]; exact hC))
    have hbd := dens_lt 16 (L.take k) (fun t ht => ⟨(good_of_take hbn.1 t ht).2.2, (HS.out t (List.mem_of_mem_take ht)).2⟩)
    have hlk : (L.take k).length = k := by rw [List.length_take, HV.out.len]; omega
    rw [hlk] at hbd
    obtain ⟨M, hM⟩ : ∃ M, M = 209 := ⟨_, rfl⟩
    have hDl : D.length ≤ 209 := by
      have h9 : dens (L.take k) < 256 ^ M := Nat.lt_of_le_of_lt hbd.2 (Nat.pow_lt_pow_right (by decide) (by omega))
      have := nbl' M hD h9
      omega
    have hvD : bv D = dens (L.take k) := by rw [← hD, bv_nb]
    clear hC hbn hD HC1 hlk
    by_cases hlt : k < n
    · obtain ⟨g, o, rfl⟩ := HVR.out.addr (by omega)
      obtain ⟨t, ht⟩ : ∃ t, L[k]? = some t := ⟨L[k]'(by rw [HVR.out.len]; exact hlt), List.getElem?_eq_getElem _⟩
      have HGET := Lib.hid (show ∀ W, Ch wr.heap.size none1 wr W → W.cell? ⟨g, o + k * 3, none⟩ = some (.bool t.1) ∧ W.cell? ⟨g, o + k * 3 + 1, none⟩ = some (S t.2.1) ∧ W.cell? ⟨g, o + k * 3 + 2, none⟩ = some (S t.2.2) from fun W hC => (HVR.out.ch hC).get ht)
      have hs := HS.out t (List.mem_of_getElem? ht)
      have HT := Lib.hid ht
      have hdt := dens_take ht
      obtain ⟨s0, n0, d0⟩ := t
      simp only at hs hdt
      simp only at HGET
      obtain ⟨r, hr⟩ : ∃ r, rightR s0 n0 d0 = r := ⟨_, rfl⟩
      have H2 := Lib.hid (C_rRight (s := s0) (n := n0) (d := d0) (by omega) (by omega) hr)
      have HRR := Lib.hid hr
      clear hr ht
      obtain ⟨c0, c1, c2⟩ := HGET.out _ (Ch.refl _ _ _)
      rcases r with _ | _
      · have HNO := Lib.hid (show bad L = true ∨ negs L = true from .inl (bad_mem HT.out HRR.out))
        clear hdt
        go_wp2_with fail
        refine (H2.out _).mono ?_
        rintro e wa ⟨rfl, hCa⟩
        have HCa := Lib.hid (HC.out.trans (hCa.mono HWS.out (fun _ _ q => q)))
        clear hCa
        go_wp2_with fail
        go_ret3
        exact Yc.no HNO.out rfl (by rw [HG.out]; exact HCa.out)
      · rcases s0 with _ | _
        · obtain ⟨k1, k2, k3, _⟩ := (rightR_iff _ _ _).1 HRR.out
          have h0 : 0 < bv d0 := rt_pos k2 k3
          have hneg : negs (L.take (k + 1)) = false := by rw [negs_take _ _ _ HT.out, HB.out.2]; rfl
          have hbad : bad (L.take (k + 1)) = false := by rw [bad_take _ _ _ HT.out, HB.out.1]; simp only [HRR.out]; rfl
          have HN := Lib.hid (And.intro hbad hneg)
          obtain ⟨gg, eg, vg⟩ := has_nb (Nat.gcd (bv D) (bv d0))
          have hg0 : 0 < Nat.gcd (bv D) (bv d0) := Nat.gcd_pos_of_pos_right _ h0
          have lg : gg.length ≤ 16 := by
            obtain ⟨M, hM⟩ : ∃ M, M = 16 := ⟨_, rfl⟩
            have h9 : Nat.gcd (bv D) (bv d0) < 256 ^ M := Nat.lt_of_le_of_lt (Nat.gcd_le_right _ h0) (bv_b (by omega))
            have := nbl' M eg h9
            omega
          obtain ⟨qq, eq, vq⟩ := has_nb (bv d0 / Nat.gcd (bv D) (bv d0))
          have lq : qq.length ≤ 16 := by
            obtain ⟨M, hM⟩ : ∃ M, M = 16 := ⟨_, rfl⟩
            have h9 : bv d0 / Nat.gcd (bv D) (bv d0) < 256 ^ M := div_lt' (bv_b (by omega))
            have := nbl' M eq h9
            omega
          obtain ⟨D2, hD2⟩ : ∃ D2, nb (dens (L.take (k + 1))) = D2 := ⟨_, rfl⟩
          obtain ⟨rr, hrr⟩ : ∃ rr, nb (bv d0 % Nat.gcd (bv D) (bv d0)) = rr := ⟨_, rfl⟩
          have H3 := Lib.hid (C_rgcd eg (by omega) (by omega) rfl)
          have H4 := Lib.hid (C_rquo (a := d0) (b := gg) eq hrr (by omega) (by omega) (by rw [vg]; exact hg0) (by rw [vg]) (by rw [vg]))
          have H5 := Lib.hid (C_rmul (a := D) (b := qq) hD2 (by omega) (by omega) (by rw [vq, hdt, ← hvD, lcm_step]))
          have HD2 := Lib.hid hD2
          clear hdt eg vg hg0 eq vq hrr hD2 hbad hneg k1 k2 k3 h0 hvD hbd
          go_wp2_with fail
          refine (H2.out _).mono ?_
          rintro e wa ⟨rfl, hCa⟩
          have HCa := Lib.hid hCa
          clear hCa c0 c1 c2
          obtain ⟨c0, c1, c2⟩ := HGET.out _ HCa.out
          go_wp2_with fail
          refine (H3.out _).mono ?_
          rintro e wb ⟨rfl, hCb⟩
          have HCb := Lib.hid (HCa.out.step0 hCb (Nat.le_refl _))
          clear hCb c0 c1 c2 HCa
          obtain ⟨c0, c1, c2⟩ := HGET.out _ HCb.out
          go_wp2_with fail
          refine (H4.out _).mono ?_
          rintro e wc ⟨rfl, hCc⟩
          have HCc := Lib.hid (HCb.out.step0 hCc (Nat.le_refl _))
          clear hCc c0 c1 c2 HCb
          go_wp2_with fail
          refine (H5.out _).mono ?_
          rintro e wd ⟨rfl, hCd⟩
          have HCd := Lib.hid (HC.out.trans ((HCc.out.step0 hCd (Nat.le_refl _)).mono HWS.out (fun _ _ q => q)))
          clear hCd HCc
          go_wp2_with fail
          go_roundw
          case rel => exact ⟨k + 1, D2, by omega, by go_num, rfl, HD2.out, HN.out, HCd.out⟩
          case measure => simp [intOf]; omega
        · have HNO := Lib.hid (show bad L = true ∨ negs L = true from .inr (negs_mem L k _ HT.out rfl))
          clear hdt
          go_wp2_with fail
          refine (H2.out _).mono ?_
          rintro e wa ⟨rfl, hCa⟩
          have HCa := Lib.hid hCa
          clear hCa c0 c1 c2
          obtain ⟨c0, c1, c2⟩ := HGET.out _ HCa.out
          have HCb := Lib.hid (HC.out.trans (HCa.out.mono HWS.out (fun _ _ q => q)))
          go_wp2_with fail
          go_ret3
          exact Yc.no HNO.out rfl (by rw [HG.out]; exact HCb.out)
    · obtain rfl : k = n := by omega
      have htk : L.take k = L := List.take_of_length_le (by rw [HV.out.len]; exact Nat.le_refl _)
      rw [htk] at HB HD hvD
      obtain ⟨y1, y2, y3⟩ := com_yes HB.out.1 HB.out.2
      have HY1 := Lib.hid y1
      have HY2 := Lib.hid (y2.trans HD.out)
      have HY3 := Lib.hid y3
      have HGD := Lib.hid (good_of_take (k := k) (by rw [htk]; exact HB.out.1))
      rw [htk] at HGD
      clear y1 y2 y3 htk hbd hk
      go_wp2_with fail
      go_loopw [12, 13] (fun v b wr => ∃ (j : Nat) (l : List (List UInt8)), j ≤ k ∧ b = .int .i64 j ∧ wr.ownsRow G 23 1 v l.length (l.map S) ∧ Ch G none1 w wr ∧ ((L.take j).map fun t => nb (bv t.2.1 * (dens L / bv t.2.2))) = l) (fun _ b _ => k - (intOf b).toNat)
      case atStart => exact ⟨0, [], Nat.zero_le _, rfl, own_nil _ _ _ _, HC.out, rfl⟩
      case round =>
        obtain ⟨j, l, hj, rfl, hown, hC, hl⟩ := hrel
        have HO := Lib.hid hown
        have HC2 := Lib.hid hC
        have HL := Lib.hid hl
        have HW2 := Lib.hid (show G ≤ wr.heap.size by have := hC.size; rw [HG.out] at this; exact this)
        have hll : l.length ≤ 13 := by rw [← hl, List.length_map, List.length_take]; omega
        clear hown hC hl
        by_cases hlt2 : j < k
        · have HVI := Lib.hid (HV.out.ch (by rw [HG.out]; exact HC2.out))
          obtain ⟨g, o, rfl⟩ := HVI.out.addr (by omega)
          obtain ⟨t, ht⟩ : ∃ t, L[j]? = some t := ⟨L[j]'(by rw [HVI.out.len]; exact hlt2), List.getElem?_eq_getElem _⟩
          have HGET := Lib.hid (show ∀ W, Ch wr.heap.size none1 wr W → W.cell? ⟨g, o + j * 3, none⟩ = some (.bool t.1) ∧ W.cell? ⟨g, o + j * 3 + 1, none⟩ = some (S t.2.1) ∧ W.cell? ⟨g, o + j * 3 + 2, none⟩ = some (S t.2.2) from fun W hC => (HVI.out.ch hC).get ht)
          have hs := HS.out t (List.mem_of_getElem? ht)
          obtain ⟨_, _, h0⟩ := HGD.out t (List.mem_of_getElem? ht)
          have hmd : ((L.take (j + 1)).map fun t => nb (bv t.2.1 * (dens L / bv t.2.2))) = ((L.take j).map fun t => nb (bv t.2.1 * (dens L / bv t.2.2))) ++ [nb (bv t.2.1 * (dens L / bv t.2.2))] := by rw [List.take_add_one, ht]; simp
          obtain ⟨s0, n0, d0⟩ := t
          simp only at hs h0 hmd
          simp only at HGET
          obtain ⟨qq, eq, vq⟩ := has_nb (bv D / bv d0)
          have lq : qq.length ≤ 209 := by
            obtain ⟨M, hM⟩ : ∃ M, M = 209 := ⟨_, rfl⟩
            have h9 : bv D / bv d0 < 256 ^ M := div_lt' (bv_b (by omega))
            have := nbl' M eq h9
            omega
          obtain ⟨rr, hrr⟩ : ∃ rr, nb (bv D % bv d0) = rr := ⟨_, rfl⟩
          obtain ⟨x, hx⟩ : ∃ x, nb (bv n0 * (dens L / bv d0)) = x := ⟨_, rfl⟩
          have H4 := Lib.hid (C_rquo (a := D) (b := d0) eq hrr (by omega) (by omega) h0 rfl rfl)
          have H5 := Lib.hid (C_rmul (a := n0) (b := qq) hx (by omega) (by omega) (by rw [vq, hvD]))
          rw [hx, HL.out] at hmd
          have HMD := Lib.hid hmd
          clear eq vq hrr hx hmd h0 ht
          obtain ⟨c0, c1, c2⟩ := HGET.out _ (Ch.refl _ _ _)
          go_wp2_with fail
          refine (H4.out _).mono ?_
          rintro e wa ⟨rfl, hCa⟩
          have HCa := Lib.hid hCa
          clear hCa c0 c1 c2
          obtain ⟨c0, c1, c2⟩ := HGET.out _ HCa.out
          go_wp2_with fail
          refine (H5.out _).mono ?_
          rintro e wb ⟨rfl, hCb⟩
          have hCC := HCa.out.step0 hCb (Nat.le_refl _)
          have HCb := Lib.hid (HC2.out.trans (hCC.mono HW2.out (fun _ _ q => q)))
          have HOb := Lib.hid (own_ch HO.out hCC (Nat.le_refl _))
          have HWb := Lib.hid (Nat.le_trans HW2.out hCC.size)
          clear hCb hCC c0 c1 c2 HCa
          go_wp2_with (at_builtin; refine wpList_append_own _ rfl _ _ 30 rfl G 23 i0 (S []) 1 16 Tryz.underlying30 hi0 hz0 hz1 hz2 rfl (by decide) u12 l.length (l.map S) rfl (own_ch HOb.out ((Ch.refl _ _ _).alloc (Nat.le_refl _) _) (Nat.le_refl _)) ⟨wb.heap.size, 0, none⟩ 1 1 [S x] rfl rfl (nat_news wb x) (nat_one x) (by unfold maxLen; omega) (by omega) (by have := HWb.out; simp; omega) ?_; intro v' w2 hown' hgr hnil)
          have HO1 := Lib.hid hown'
          have HC3 := Lib.hid ((HCb.out.alloc HWb.out (.cells #[S x] 23)).trans (ch_own (by have := HWb.out; simp; omega) (own_ch HOb.out ((Ch.refl _ _ _).alloc (Nat.le_refl _) _) (Nat.le_refl _)) hgr))
          clear hown' hgr hnil
          go_wp2_with fail
          go_roundw
          case rel =>
            refine ⟨j + 1, l ++ [x], by omega, by go_num, ?_, HC3.out, HMD.out⟩
            rw [List.length_append, map_S_append]
            exact HO1.out
          case measure => simp [intOf]; omega
        · obtain rfl : j = k := by omega
          obtain ⟨pp, cc, rfl⟩ := own_val HO.out
          obtain ⟨_, HR⟩ := Vs.own HO.out
          have HRR := Lib.hid HR
          have HF := Lib.hid (show comN L = l by rw [HY3.out, ← HL.out, List.take_of_length_le (by rw [HV.out.len]; exact Nat.le_refl _)])
          clear HR
          go_wp2_with fail
          go_ret3
          exact ⟨pp, _, cc, by rw [HY1.out, HY2.out]; rfl, by rw [HF.out]; exact HRR.out, by rw [HG.out]; exact HC2.out⟩
theorem wholes_S {D : List UInt8} {l : List T3} (h : nb (dens l) = D) : wholes D l = (l.map fun t => nb (bv t.2.1 * (dens l / bv t.2.2))).map S := by
  unfold wholes
  rw [List.map_map]
  refine List.map_congr_left fun t _ => ?_
  show S (nb (bv t.2.1 * (bv D / bv t.2.2))) = S (nb (bv t.2.1 * (dens l / bv t.2.2)))
  rw [← h, bv_nb]
theorem Common_any (L : List T3) (p : Option Addr) (n c : Nat) (w : World) (hv : Rs w p n L) (ht : Tb w) (hn : n ≤ 13) (hsz : ∀ t ∈ L, t.2.1.length ≤ 16 ∧ t.2.2.length ≤ 16) :
    Calls Tryz.prog 6 #[.slice p n c] w (Yc w L) := by
  rcases hb : bad L with _ | _
  · rcases hg : negs L with _ | _
    · obtain ⟨y1, y2, y3⟩ := com_yes hb hg
      refine (C_Common 16 w p n c L (nb (dens L)) hv ht (by omega) (by omega) (by omega) hsz hb hg rfl).mono ?_
      rintro e w' ⟨g, rfl, _, hB, hC⟩
      refine ⟨some ⟨g, 0, none⟩, n, n, by rw [y1, y2], ?_, hC⟩
      rw [y3, ← wholes_S rfl]
      exact Vs.blk hB (by unfold wholes; rw [List.length_map]; exact hv.len)
    · refine (C_Common_no 16 w p n c L hv ht (by omega) (by omega) hsz (.inr (by rw [good_same L hb]; exact hg))).mono ?_
      rintro e w' ⟨he, hC⟩
      exact Yc.no (.inr hg) he hC
  · refine (C_Common_no 16 w p n c L hv ht (by omega) (by omega) hsz (.inl hb)).mono ?_
    rintro e w' ⟨he, hC⟩
    exact Yc.no (.inl hb) he hC
end Go.Proofs.YtbpoghgokkpckaaGreatDoor
