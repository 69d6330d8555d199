/- RatioCommon: mathematics and the walk. -/
import Derived.Test.YtbpoghgokkpckaaGreatDoorYb
import Derived.Test.YtbpoghgokkpckaaGreatDoorLa
import Derived.Test.YtbpoghgokkpckaaGreatDoorLh
import Derived.BigQuiet
import Derived.Deep.QuietTactic
namespace Go.Proofs.YtbpoghgokkpckaaGreatDoor
open Go.RowKit Go.Shelf
def absT (t : T3) : T3 := (false, t.2.1, t.2.2)
theorem abs_right {t : T3} (h : rightR t.1 t.2.1 t.2.2 = true) : rightR (absT t).1 (absT t).2.1 (absT t).2.2 = true := by
  rw [rightR_iff] at h ⊢
  obtain ⟨h1, h2, h3, h4⟩ := h
  refine ⟨h1, h2, h3, ?_⟩
  show if t.2.1 = [] then false = false ∧ t.2.2 = [1] else _
  split
  · next e => rw [if_pos e] at h4; exact ⟨rfl, h4.2⟩
  · next e => rw [if_neg e] at h4; exact h4
theorem made3_right {xs : List (Int × Int × Int)} {t : T3} (h : t ∈ made3 xs) : rightR t.1 t.2.1 t.2.2 = true ∧ t.2.1.length ≤ 16 ∧ t.2.2.length ≤ 16 := by
  unfold made3 at h
  obtain ⟨x, _, rfl⟩ := List.mem_map.1 h
  exact ⟨rightR_of (pt_is _), mdq_len _ _ _⟩
def goods (xs : List (Int × Int × Int)) : List T3 := (made3 xs).map absT
theorem goods_right {xs : List (Int × Int × Int)} {t : T3} (h : t ∈ goods xs) : t.1 = false ∧ rightR t.1 t.2.1 t.2.2 = true ∧ t.2.1.length ≤ 16 ∧ t.2.2.length ≤ 16 := by
  unfold goods at h
  obtain ⟨x, hx, rfl⟩ := List.mem_map.1 h
  obtain ⟨h1, h2⟩ := made3_right hx
  exact ⟨rfl, abs_right h1, h2⟩
theorem goods_ok (xs : List (Int × Int × Int)) : bad (goods xs) = false ∧ negs (goods xs) = false := by
  constructor
  · unfold bad
    rw [List.any_eq_false]
    intro t ht
    rw [(goods_right ht).2.1]
    simp
  · unfold negs
    rw [List.any_eq_false]
    intro t ht
    rw [(goods_right ht).1]
    simp
theorem lcms_dvd {x : Nat} : ∀ {l : List Nat}, x ∈ l → x ∣ lcms l
  | y :: l, h => by
    rcases List.mem_cons.1 h with rfl | h
    · exact Nat.dvd_lcm_left _ _
    · exact Nat.dvd_trans (lcms_dvd h) (Nat.dvd_lcm_right _ _)
theorem dens_dvd {l : List T3} {t : T3} (h : t ∈ l) : bv t.2.2 ∣ dens l := lcms_dvd (List.mem_map.2 ⟨t, h, rfl⟩)
theorem is_of_right {t : T3} (h : rightR t.1 t.2.1 t.2.2 = true) : Is (rof t) t.1 t.2.1 t.2.2 := rightR_is h
/-- A numerator over the common denominator is the number. -/
theorem whole_is {l : List T3} {n d : List UInt8} (h : (false, n, d) ∈ l) (hr : rightR false n d = true) (h0 : 0 < dens l) : Is (mq false (bv (nb (bv n * (dens l / bv d)))) (bv (nb (dens l)))) false n d := by
  have hi := rightR_is hr
  unfold ratOf at hi
  rw [if_pos hr] at hi
  have hd := dens_dvd h
  simp only at hd
  obtain ⟨k, hk⟩ := hd
  have hb : 0 < bv d := by
    rcases Nat.eq_zero_or_pos (bv d) with q | q
    · rw [q, Nat.zero_mul] at hk; omega
    · exact q
  have hk0 : k ≠ 0 := fun q => by rw [q, Nat.mul_zero] at hk; omega
  rw [bv_nb, bv_nb, hk, Nat.mul_div_cancel_left _ hb]
  have : mq false (bv n * k) (bv d * k) = mq false (bv n) (bv d) := by
    show mkRat (((bv n * k : Nat)) : Int) (bv d * k) = mkRat ((bv n : Nat) : Int) (bv d)
    rw [Nat.mul_comm (bv n) k, Nat.mul_comm (bv d) k]
    have := Rat.mkRat_mul_left (n := (bv n : Int)) (d := bv d) (a := k) hk0
    simpa using this
  rw [this]
  exact hi
theorem rsum_take {l : List T3} {k : Nat} {t : T3} (h : l[k]? = some t) : rsum ((l.take (k + 1)).map rof) = rsum ((l.take k).map rof) + rof t := by
  rw [List.take_add_one, h, List.map_append, rsum_append]
  show _ + (rof t + 0) = _
  rw [Rat.add_zero]
theorem sum_len {l : List T3} (k : Nat) (hk : k ≤ 12) (h : ∀ t ∈ l, t.2.1.length ≤ 16 ∧ t.2.2.length ≤ 16) : (pt (rsum ((l.take k).map rof))).2.1.length ≤ 205 ∧ (pt (rsum ((l.take k).map rof))).2.2.length ≤ 205 := by
  have h1 := rsum_size 16 ((l.take k).map rof) (fun q hq => by
    obtain ⟨t, ht, rfl⟩ := List.mem_map.1 hq
    exact Szq.rof (by omega) (h t (List.mem_of_mem_take ht)))
  have h2 : ((l.take k).map rof).length * (16 + 1) + 1 ≤ 205 := by rw [List.length_map, List.length_take]; omega
  exact (h1.mono h2).len (pt_is _)
theorem cut10 (l : List UInt8) : (ByteArray.mk l.toArray).extract 0 (min (l.length : Int) 10).toNat = ByteArray.mk (l.take 10).toArray := by
  apply ByteArray.ext
  rw [ByteArray.data_extract]
  apply Array.toList_inj.1
  simp
  omega
theorem Kq.cut2 {w W : World} {a : Nat} {t : TypeId} {x0 x1 x2 : Value} (u1 u2 : Value) (h : Kq w W [(a, t, [x0, x1, x2])]) (ha : w.heap.size ≤ a) :
    Kq w ((W.setCell ⟨a, 1, none⟩ u1).setCell ⟨a, 2, none⟩ u2) [(a, t, [x0, u1, u2])] :=
  ⟨(h.ch.setCell (p := ⟨a, 1, none⟩) (.inl ha) u1).setCell (p := ⟨a, 2, none⟩) (.inl ha) u2, fun p hp => by
    obtain rfl := List.mem_singleton.1 hp
    exact ((h.row _ (.head _)).set 1 u1).set 2 u2⟩
/-- 'append' of a slice, nil or not, to a slice of one's own, at a step of a region that draws its order. -/
theorem step_append2 {P : Program} (w : World) {ops : Array Oper} {o : Oper} {a : Act} {K : Act → World → Prop} {Q : Exit → Act → World → Prop} {E : Prop} (hgd : o.guard = none) (s x : Operand) (t : TypeId)
    (ho : o.op = .call { callee := .builtin .append, args := #[s, x], argTypes := #[t, t] })
    (base : Nat) (e : TypeId) (i : TypeInfo) (z : Value) (size bytes : Nat) (ht : P.underlying t = some (.slice e)) (hi : P.info? e = some i) (hz : i.zero = some z)
    (hsize : i.size = size) (hby : i.bytes = bytes) (hzs : z.cells.size = size) (hsz : 0 < size)
    (v : Value) (n : Nat) (xs : List Value) (hs : a.eval s = v) (hown : w.ownsRow base e size v n xs)
    (ao : Option Addr) (m c : Nat) (news : List Value) (hx : a.eval x = .slice ao m c) (hl : news.length = m * size) (hnone : ao = none → m = 0) (hnews : ∀ ad, ao = some ad → ∀ j u, news[j]? = some u → w.cell? (ad.add j) = some u) (h1 : ∀ u ∈ news, u.oneCell' = true)
    (h63 : n + m ≤ maxLen) (hbytes : (n + m) * bytes ≤ 140737488355328) (hbase : base ≤ w.heap.size)
    (h : ∀ v' w', w'.ownsRow base e size v' (n + m) (xs ++ news) → w.grownBy w' v.ownBlock → K (a.put o.dst v') w') :
    if Region.wanted o (yielded ops a.tmps) = true then Oper.wp P o a w K Q else E := by
  have hw : Region.wanted o (yielded ops a.tmps) = true := by simp [Region.wanted, hgd]
  rw [if_pos hw]
  cases ao with
  | some ad => exact wp_append_own w s x t ho base e i z size bytes ht hi hz hsize hby hzs hsz v n xs hs hown ad m c news hx hl (hnews ad rfl) h1 h63 hbytes hbase fun v' w' h2 h3 _ => h v' w' h2 h3
  | none =>
    obtain rfl := hnone rfl
    have hnews' : news = [] := List.eq_nil_of_length_eq_zero (by omega)
    subst hnews'
    have hrun : (Builtin.append_ #[t, t] o.type #[v, .slice none 0 c]).run P w = .ok v w := by
      rcases hown.2 with ⟨rfl, rfl⟩ | ⟨g, cap, cur, rfl, _, _, hnc, _⟩
      · simp [Builtin.append_, run_underlying ht, sizeOf, typeInfo, hi, Builtin.lenOf, Builtin.firstCells]
      · simp [Builtin.append_, run_underlying ht, sizeOf, typeInfo, hi, Builtin.lenOf, Builtin.firstCells, hnc, storeCells]
    unfold Oper.wp
    simp [execOp, ho, resolve, invoke, builtin, hs, hx, hrun, Result.andThen]
    exact h v w (by simpa using hown) (World.grownBy.refl _ _)
theorem yc_plain (g o j : Nat) : (⟨g, o, none⟩ : Addr).add j = ⟨g, o + j, none⟩ := by simp [Addr.add]
/-- The cells of a slice of numbers, in a row. -/
theorem rs_flat {w : World} {p : Option Addr} {n : Nat} {l : List T3} (h : Rs w p n l) : ∀ ad, p = some ad → ∀ (j : Nat) (u : Value), (rcs l)[j]? = some u → w.cell? (ad.add j) = some u := by
  rintro ⟨g, o, s⟩ rfl j u hj
  obtain ⟨hs, ty, pre, post, hb, hl⟩ := h.at' _ rfl
  obtain rfl : s = none := hs
  have hlt := (List.getElem?_eq_some_iff.1 hj).1
  have hc := hb.cell (o + j)
  simp only at hl
  rw [List.append_assoc, List.getElem?_append_right (by omega), List.getElem?_append_left (by omega), show o + j - pre.length = j by omega, hj] at hc
  rw [yc_plain]
  exact hc
theorem blk_grown {w w' : World} {g : Nat} {t : TypeId} {cs : List Value} (h : Blk w g t cs) {b : Option Nat} (hg : w.grownBy w' b) (hne : b ≠ some g) : Blk w' g t cs := by
  unfold Blk
  rw [hg.block g h.lt (fun q => hne q.symm)]
  exact h
theorem lit_ne {w : World} {B g0 g : Nat} {e t : TypeId} {c : Value} {cs : List Value} (ho : w.ownsRow B e 3 (.slice (some ⟨g0, 0, none⟩) 0 0) 0 []) (h : Blk w g t (c :: cs)) : Value.ownBlock (.slice (some ⟨g0, 0, none⟩) 0 0) ≠ some g := fun q => by
  obtain rfl : g0 = g := Option.some.inj q
  rcases ho.2 with ⟨hv, _⟩ | ⟨g2, cap, cur, hv, _, hh, _, _, hs, _⟩
  · cases hv
  · simp only [Value.slice.injEq, Option.some.injEq, Addr.mk.injEq, and_true, true_and] at hv
    obtain ⟨rfl, rfl⟩ := hv
    unfold Blk at h
    rw [hh] at h
    have h0 : cur = #[] := Array.eq_empty_of_size_eq_zero (by omega)
    rw [h0] at h
    simp at h
theorem type_ne {w : World} {B n g : Nat} {e t : TypeId} {v : Value} {xs cs : List Value} (ho : w.ownsRow B e 3 v n xs) (h : Blk w g t cs) (hne : e ≠ t) : v.ownBlock ≠ some g := fun q => by
  rcases ho.2 with ⟨hv, _⟩ | ⟨g2, cap, cur, hv, _, hh, _⟩
  · rw [hv] at q; cases q
  · rw [hv] at q
    obtain rfl : g2 = g := Option.some.inj q
    unfold Blk at h
    rw [hh] at h
    simp at h
    exact hne h.2
theorem own_set3 {w : World} {B n g : Nat} {e t : TypeId} {v : Value} {xs cs : List Value} (ho : w.ownsRow B e 3 v n xs) (hb : Blk w g t cs) (hne : e ≠ t) (a b c : Value) : (((w.setCell ⟨g, 0, none⟩ a).setCell ⟨g, 1, none⟩ b).setCell ⟨g, 2, none⟩ c).ownsRow B e 3 v n xs :=
  own_keep ho fun k hk => by
    have h : k ≠ g := fun q => type_ne ho hb hne (by rw [hk, q])
    rw [Below.heap_setCell _ _ _ _ h, Below.heap_setCell _ _ _ _ h, Below.heap_setCell _ _ _ _ h]
theorem rat_zero : ratOf false [] [1] = 0 := ratOf_is Is.zero
set_option maxRecDepth 100000 in
set_option maxHeartbeats 8000000 in
theorem common_core (xs : List (Int × Int × Int)) (px : Option Addr) (nx cx : Nat) (sr : Bool) (rn rd : List UInt8) (w : World) (hx : Ti w px nx xs) (hnx : nx ≤ 9223372036854775807) (hrn : rn.length ≤ 9223372036854775807) (hrd : rd.length ≤ 9223372036854775807) (ht : Tb w) :
    Calls Tryz.prog 3 #[.slice px nx cx, Rv sr rn rd] w (Yld w (.bool true)) := by
  have HX := Lib.hid hx
  have HT := Lib.hid ht
  have H0 := Lib.hid sanity_true
  clear hx ht
  obtain ⟨i0, hi0, hz0, hz1, hz2⟩ := info_parts rat_info
  obtain ⟨mn, hmn⟩ : ∃ l, rn.take 10 = l := ⟨_, rfl⟩
  obtain ⟨md, hmd⟩ : ∃ l, rd.take 10 = l := ⟨_, rfl⟩
  have q1 := cut10 rn
  have q2 := cut10 rd
  rw [hmn] at q1
  rw [hmd] at q2
  have lmn : mn.length ≤ 10 := by rw [← hmn, List.length_take]; omega
  have lmd : md.length ≤ 10 := by rw [← hmd, List.length_take]; omega
  have k1 : (0 : Int) ≤ min (rn.length : Int) 10 := by omega
  have k2 : min (rn.length : Int) 10 ≤ (rn.length : Int) := by omega
  have k3 : (0 : Int) ≤ min (rd.length : Int) 10 := by omega
  have k4 : min (rd.length : Int) 10 ≤ (rd.length : Int) := by omega
  clear hmn hmd
  have HK := Lib.hid ((Kq.nil w).new #[.bool sr, S rn, S rd] 25)
  obtain ⟨B, hB⟩ : ∃ B, w.heap.size = B := ⟨_, rfl⟩
  rw [hB] at HK
  have HBB := Lib.hid hB
  go_enter Tryz.func3, Tryz.ntmps3
  go_wp2_with fail
  clear hB
  refine (H0.out _ (HT.out.ch HK.out.ch)).mono ?_
  rintro e w1 ⟨rfl, hC⟩
  have HK2 := Lib.hid (HK.out.on hC)
  clear hC HK
  have HK := HK2
  clear HK2
  have hrow := HK.out.row _ (.head _)
  have c0 := hrow.cell 0
  have c1 := hrow.cell 1
  have c2 := hrow.cell 2
  have f1 := hrow.frozen 1
  have f2 := hrow.frozen 2
  simp only [List.getElem?_cons_zero, List.getElem?_cons_succ] at c0 c1 c2
  clear hrow
  go_wp2_with fail
  have HK2 := Lib.hid (HK.out.cut2 (S mn) (S md) (by rw [HBB.out]; exact Nat.le_refl _))
  obtain ⟨w2, hW⟩ : ∃ W, ((w1.setCell ⟨B, 1, none⟩ (S mn)).setCell ⟨B, 2, none⟩ (S md)) = W := ⟨_, rfl⟩
  rw [hW] at HK2 ⊢
  clear hW HK f1 f2 c0 c1 c2 q1 q2 k1 k2 k3 k4
  have HK := HK2
  clear HK2
  refine (rList_any xs px nx cx w2 (HX.out.ch HK.out.ch) hnx).mono ?_
  rintro e V1 ⟨pa, na, ca, rfl, hr, hC⟩
  have HK2 := Lib.hid (HK.out.on hC)
  have HA := Lib.hid hr
  have hna : na ≤ 12 := by rw [← hr.len]; exact made3_len xs
  clear hC hr HK
  have HK := HK2
  clear HK2
  obtain ⟨G, hG⟩ : ∃ G, V1.heap.size = G := ⟨_, rfl⟩
  have HG := Lib.hid hG
  clear hG
  go_wp2_with fail
  go_loopw [7, 8] (fun v b wr => ∃ (k : Nat) (l : List T3), k ≤ na ∧ b = .int .i64 k ∧ wr.ownsRow G 25 3 v l.length (rcs l) ∧ Ch G none1 V1 wr ∧ ((made3 xs).take k).map absT = l) (fun _ b _ => na - (intOf b).toNat)
  case atStart => exact ⟨0, [], Nat.zero_le _, rfl, own_nil _ _ _ _, Ch.refl _ _ _, rfl⟩
  case round =>
    obtain ⟨k, l, hk, rfl, hown, hC, hl⟩ := hrel
    have HO := Lib.hid hown
    have HC := Lib.hid hC
    have HL := Lib.hid hl
    have HWS := Lib.hid (show G ≤ wr.heap.size by have := hC.size; rw [HG.out] at this; exact this)
    have hll : l.length ≤ 12 := by rw [← hl, List.length_map, List.length_take]; omega
    clear hown hC hl
    by_cases hlt : k < na
    · have HAR := Lib.hid (HA.out.ch (by rw [HG.out]; exact HC.out))
      obtain ⟨g, o, rfl⟩ := HAR.out.addr (by omega)
      obtain ⟨t, ht⟩ : ∃ t, (made3 xs)[k]? = some t := ⟨(made3 xs)[k]'(by rw [HAR.out.len]; exact hlt), List.getElem?_eq_getElem _⟩
      obtain ⟨c0, c1, c2⟩ := HAR.out.get ht
      have hmd : ((made3 xs).take (k + 1)).map absT = ((made3 xs).take k).map absT ++ [absT t] := by rw [List.take_add_one, ht]; simp
      obtain ⟨s0, n0, d0⟩ := t
      simp only at c0 c1 c2
      have HMD := Lib.hid (show ((made3 xs).take (k + 1)).map absT = l ++ [(false, n0, d0)] by rw [hmd, HL.out]; rfl)
      clear hmd ht
      have hbx := Blk.new wr #[.bool s0, S n0, S d0] 25
      have x0 := hbx.cell 0
      have x1 := hbx.cell 1
      have x2 := hbx.cell 2
      have y0 := hbx.frozen 0
      simp only [List.getElem?_cons_zero, List.getElem?_cons_succ] at x0 x1 x2
      clear hbx
      have HC2 := Lib.hid ((HC.out.alloc HWS.out (.cells #[.bool false, S n0, S d0] 25)).alloc (show G ≤ (wr.alloc (.cells #[.bool false, S n0, S d0] 25)).heap.size by have := HWS.out; rw [World.size_alloc]; omega) (.cells #[.bool false, S n0, S d0] 25))
      have HO2 := Lib.hid (own_ch (own_ch HO.out ((Ch.refl _ _ _).alloc (Nat.le_refl _) (.cells #[.bool false, S n0, S d0] 25)) (Nat.le_refl _)) ((Ch.refl _ _ _).alloc (Nat.le_refl _) (.cells #[.bool false, S n0, S d0] 25)) (Nat.le_refl _))
      have hnw := rat_news (wr.alloc (.cells #[.bool false, S n0, S d0] 25)) (false, n0, d0)
      rw [World.size_alloc] at hnw
      have HNW := Lib.hid hnw
      clear hnw
      have HB3 := Lib.hid (show G ≤ ((wr.alloc (.cells #[.bool false, S n0, S d0] 25)).alloc (.cells #[.bool false, S n0, S d0] 25)).heap.size by have := HWS.out; rw [World.size_alloc, World.size_alloc]; omega)
      go_wp2_with (at_builtin; refine wpList_append_own _ rfl _ _ 27 rfl G 25 i0 (.agg #[.bool false, S [], S []]) 3 40 Tryz.underlying27 hi0 hz0 hz1 hz2 rfl (by decide) u7 l.length (rcs l) rfl HO2.out ⟨wr.heap.size + 1, 0, none⟩ 1 1 (rc (false, n0, d0)) rfl rfl HNW.out (rc_one (false, n0, d0)) (by unfold maxLen; omega) (by omega) HB3.out ?_; intro v' w3 hown' hgr hnil)
      have HO1 := Lib.hid hown'
      have HC1 := Lib.hid (HC2.out.trans (ch_own HB3.out HO2.out hgr))
      clear hown' hgr hnil
      go_wp2_with fail
      go_roundw
      case rel =>
        refine ⟨k + 1, l ++ [(false, n0, d0)], by omega, by go_num, ?_, HC1.out, HMD.out⟩
        rw [List.length_append, rcs_append]
        exact HO1.out
      case measure => simp [intOf]; omega
    · obtain rfl : k = na := by omega
      have hgl : l = (goods xs) := by rw [← HL.out]; unfold goods; rw [List.take_of_length_le (by rw [HA.out.len]; exact Nat.le_refl _)]
      have hlk : l.length = k := by rw [← HL.out, List.length_map, List.length_take, HA.out.len]; omega
      obtain ⟨pg, cg, rfl⟩ := own_val HO.out
      have hro := (Rs.own HO.out rfl).2
      rw [hlk, hgl] at hro
      rw [hlk]
      have HGG := Lib.hid hro
      have HA2 := Lib.hid (HA.out.ch (by rw [HG.out]; exact HC.out))
      have HK2 := Lib.hid (HK.out.on (by rw [HG.out]; exact HC.out))
      clear hro hgl hlk HO HL HK HA HWS hlt HC
      obtain ⟨Bs, hBs⟩ : ∃ A, wr.heap.size = A := ⟨_, rfl⟩
      have HBSS := Lib.hid hBs
      have hbl : B < Bs := by rw [← hBs]; exact (HK2.out.row _ (.head _)).lt
      clear hBs
      have HKS := Lib.hid (show ∀ W, Ch Bs none1 wr W → W.cell? ⟨B, 0, none⟩ = some (.bool sr) ∧ W.cell? ⟨B, 1, none⟩ = some (S mn) ∧ W.cell? ⟨B, 2, none⟩ = some (S md) from fun W hC => ⟨(hC.blk (HK2.out.row _ (.head _)) hbl (fun q => q)).cell 0, (hC.blk (HK2.out.row _ (.head _)) hbl (fun q => q)).cell 1, (hC.blk (HK2.out.row _ (.head _)) hbl (fun q => q)).cell 2⟩)
      have HKG := Lib.hid (show ∀ W, Ch Bs none1 wr W → Rs W pg k (goods xs) from fun W hC => HGG.out.ch (by rw [HBSS.out]; exact hC))
      have HKA := Lib.hid (show ∀ W, Ch Bs none1 wr W → Rs W pa k (made3 xs) from fun W hC => HA2.out.ch (by rw [HBSS.out]; exact hC))
      have HFN := Lib.hid (show ∀ W, Ch Bs none1 wr W → Ch w.heap.size none1 w W from fun W hC => (HK2.out.on (by rw [HBSS.out]; exact hC)).ch)
      clear HK2 HGG HA2
      go_upto_region 12 with fail
      go_cut [10] from 59 to 67 (fun f wx => ∃ (g : Nat) (p : Option Addr) (c : Nat), f = .pointer (some ⟨g, 0, none⟩) ∧ Blk wx g 29 [.slice pa k ca, .slice pg k cg, .slice p (k + 1) c] ∧ Rs wx p (k + 1) ((goods xs) ++ [(sr, mn, md)]) ∧ Ch Bs none1 wr wx)
      case first =>
        have HC := Lib.hid (show Ch Bs none1 wr wr.drew from (Ch.refl _ _ _).drew)
        have HBS := Lib.hid (show Bs ≤ wr.drew.heap.size by rw [← HBSS.out]; exact Nat.le_refl _)
        refine wp_region_held_drew (S := fun w' => w'.cell? ⟨B, 0, none⟩ = some (.bool sr) ∧ w'.cell? ⟨B, 1, none⟩ = some (S mn) ∧ w'.cell? ⟨B, 2, none⟩ = some (S md)) (by kernel_rfl) ?_ (fun hHeld => ?_)
        · (try dsimp only); exact HKS.out _ HC.out
        obtain ⟨W0, hW0⟩ : ∃ X, wr.drew = X := ⟨_, rfl⟩
        rw [hW0] at HC HBS hHeld ⊢
        clear hW0
        refine tk 0 (v := ?_) hHeld ?_ ?_
        rotate_left 1
        · intro _ hw; (try dsimp only at hw); go_simp; try with_reducible rfl
        (try simp only [Act.put, List.setIfInBounds_toArray, List.set_cons_zero, List.set_cons_succ])
        refine tk 1 (v := ?_) hHeld ?_ ?_
        rotate_left 1
        · intro _ hw; (try dsimp only at hw); go_simp; try with_reducible rfl
        (try simp only [Act.put, List.setIfInBounds_toArray, List.set_cons_zero, List.set_cons_succ])
        refine tk 3 (v := ?_) hHeld ?_ ?_
        rotate_left 1
        · intro _ hw; (try dsimp only at hw); go_simp; try with_reducible rfl
        (try simp only [Act.put, List.setIfInBounds_toArray, List.set_cons_zero, List.set_cons_succ])
        refine tk 5 (v := ?_) hHeld ?_ ?_
        rotate_left 1
        · intro _ hw; (try dsimp only at hw); go_simp; try with_reducible rfl
        (try simp only [Act.put, List.setIfInBounds_toArray, List.set_cons_zero, List.set_cons_succ])
        refine wpAnyH_ready (rs := [2, 6, 9]) (by kernel_rfl) (by simp) ?_
        refine AllReadyH.cons (at_list rfl) (fun K hK => ?_) (AllReadyH.cons (at_list rfl) (fun K hK => ?_) (AllReadyH.cons (at_list rfl) (fun K hK => ?_) (AllReadyH.nil)))
        · go_simp
          have HC2 := Lib.hid (HC.out.alloc HBS.out (.cells #[] 25 (0, 0)))
          have HBS2 := Lib.hid (show Bs ≤ (W0.alloc (.cells #[] 25 (0, 0))).heap.size by have := HBS.out; rw [World.size_alloc]; omega)
          have HST := Lib.hid ((Ch.refl W0.heap.size none1 W0).alloc (Nat.le_refl _) (.cells #[] 25 (0, 0)))
          have HOW := Lib.hid (World.ownsRow_lit (base := Bs) (e := 25) (size := 3) W0 #[] 0 HBS.out (by unfold maxLen; omega) rfl)
          clear HST
          obtain ⟨x1, hW⟩ : ∃ X, W0.alloc (.cells #[] 25 (0, 0)) = X := ⟨_, rfl⟩
          rw [hW] at HC2 HBS2 HOW ⊢
          clear hW
          obtain ⟨G1, hG⟩ : ∃ A, W0.heap.size = A := ⟨_, rfl⟩
          rw [hG] at HOW ⊢
          clear hG
          clear HC HBS
          have HC := HC2
          have HBS := HBS2
          clear HC2 HBS2
          clear hHeld
          refine hK.out _ _ ?_ (fun hHeld => ?_)
          · (try dsimp only); exact HKS.out _ HC.out
          clear hK K
          (try simp only [Act.put, List.setIfInBounds_toArray, List.set_cons_zero, List.set_cons_succ])
          refine wpAnyH_ready (rs := [4, 6, 9]) (by kernel_rfl) (by simp) ?_
          refine AllReadyH.cons (at_list rfl) (fun K hK => ?_) (AllReadyH.cons (at_list rfl) (fun K hK => ?_) (AllReadyH.cons (at_list rfl) (fun K hK => ?_) (AllReadyH.nil)))
          · refine step_append2 x1 (by rfl) _ _ 27 (by rfl) Bs 25 i0 (.agg #[.bool false, S [], S []]) 3 40 Tryz.underlying27 hi0 hz0 hz1 hz2 rfl (by decide) (.slice (some ⟨G1, 0, none⟩) 0 0) 0 [] (by rfl) HOW.out pg k cg (rcs (goods xs)) (by rfl) (by rw [rcs_len, (HKG.out _ HC.out).len]) (fun h => (HKG.out _ HC.out).nil h) (rs_flat (HKG.out _ HC.out)) (rcs_one _) (by unfold maxLen; omega) (by omega) HBS.out ?_
            intro u2 x2 hown hgr
            rw [Nat.zero_add, List.nil_append] at hown
            have HOW2 := Lib.hid hown
            have HC2 := Lib.hid (HC.out.trans (ch_own HBS.out HOW.out hgr))
            have HBS2 := Lib.hid (Nat.le_trans HBS.out hgr.size)
            clear hown hgr
            clear HOW
            have HOW := HOW2
            clear HOW2
            clear HC HBS
            have HC := HC2
            have HBS := HBS2
            clear HC2 HBS2
            clear hHeld
            refine hK.out _ _ ?_ (fun hHeld => ?_)
            · (try dsimp only); exact HKS.out _ HC.out
            clear hK K
            (try simp only [Act.put, List.setIfInBounds_toArray, List.set_cons_zero, List.set_cons_succ])
            refine wpAnyH_ready (rs := [6, 9]) (by kernel_rfl) (by simp) ?_
            refine AllReadyH.cons (at_list rfl) (fun K hK => ?_) (AllReadyH.cons (at_list rfl) (fun K hK => ?_) (AllReadyH.nil))
            · go_simp
              have HC2 := Lib.hid (HC.out.alloc HBS.out (.cells #[.bool sr, S mn, S md] 25 (0, 0)))
              have HBS2 := Lib.hid (show Bs ≤ (x2.alloc (.cells #[.bool sr, S mn, S md] 25 (0, 0))).heap.size by have := HBS.out; rw [World.size_alloc]; omega)
              have HST := Lib.hid ((Ch.refl x2.heap.size none1 x2).alloc (Nat.le_refl _) (.cells #[.bool sr, S mn, S md] 25 (0, 0)))
              have HOW2 := Lib.hid (own_ch HOW.out HST.out (Nat.le_refl _))
              clear HOW
              have HOW := HOW2
              clear HOW2
              have HSR := Lib.hid (Blk.new x2 #[.bool sr, S mn, S md] 25)
              clear HST
              obtain ⟨x3, hW⟩ : ∃ X, x2.alloc (.cells #[.bool sr, S mn, S md] 25 (0, 0)) = X := ⟨_, rfl⟩
              rw [hW] at HC2 HBS2 HOW HSR ⊢
              clear hW
              obtain ⟨G3, hG⟩ : ∃ A, x2.heap.size = A := ⟨_, rfl⟩
              rw [hG] at HSR ⊢
              clear hG
              clear HC HBS
              have HC := HC2
              have HBS := HBS2
              clear HC2 HBS2
              clear hHeld
              refine hK.out _ _ ?_ (fun hHeld => ?_)
              · (try dsimp only); exact HKS.out _ HC.out
              clear hK K
              (try simp only [Act.put, List.setIfInBounds_toArray, List.set_cons_zero, List.set_cons_succ])
              refine wpAnyH_ready (rs := [7, 9]) (by kernel_rfl) (by simp) ?_
              refine AllReadyH.cons (at_list rfl) (fun K hK => ?_) (AllReadyH.cons (at_list rfl) (fun K hK => ?_) (AllReadyH.nil))
              · refine step_append2 x3 (by rfl) _ _ 27 (by rfl) Bs 25 i0 (.agg #[.bool false, S [], S []]) 3 40 Tryz.underlying27 hi0 hz0 hz1 hz2 rfl (by decide) u2 k (rcs (goods xs)) (by rfl) HOW.out (some ⟨G3, 0, none⟩) 1 1 (rcs [(sr, mn, md)]) (by rfl) rfl (fun h => by cases h) (rs_flat (Rs.blk HSR.out rfl)) (rcs_one _) (by unfold maxLen; omega) (by omega) HBS.out ?_
                intro u4 x4 hown hgr
                have HC2 := Lib.hid (HC.out.trans (ch_own HBS.out HOW.out hgr))
                have HBS2 := Lib.hid (Nat.le_trans HBS.out hgr.size)
                rw [← rcs_append] at hown
                obtain ⟨po, co, rfl⟩ := own_val hown
                have HRO := Lib.hid hown
                clear HOW HSR hown hgr
                clear HC HBS
                have HC := HC2
                have HBS := HBS2
                clear HC2 HBS2
                clear hHeld
                refine hK.out _ _ ?_ (fun hHeld => ?_)
                · (try dsimp only); exact HKS.out _ HC.out
                clear hK K
                (try simp only [Act.put, List.setIfInBounds_toArray, List.set_cons_zero, List.set_cons_succ])
                refine tk 8 (v := ?_) hHeld ?_ ?_
                rotate_left 1
                · intro _ hw; (try dsimp only at hw); go_simp; try with_reducible rfl
                (try simp only [Act.put, List.setIfInBounds_toArray, List.set_cons_zero, List.set_cons_succ])
                refine wpAnyH_ready (rs := [9]) (by kernel_rfl) (by simp) ?_
                refine AllReadyH.cons (at_list rfl) (fun K hK => ?_) AllReadyH.nil
                go_simp
                have HC2 := Lib.hid (HC.out.alloc HBS.out (.cells #[.slice none 0 0, .slice none 0 0, .slice none 0 0] 29 (0, 0)))
                have HBS2 := Lib.hid (show Bs ≤ (x4.alloc (.cells #[.slice none 0 0, .slice none 0 0, .slice none 0 0] 29 (0, 0))).heap.size by have := HBS.out; rw [World.size_alloc]; omega)
                have HST := Lib.hid ((Ch.refl x4.heap.size none1 x4).alloc (Nat.le_refl _) (.cells #[.slice none 0 0, .slice none 0 0, .slice none 0 0] 29 (0, 0)))
                have HRO2 := Lib.hid (own_ch HRO.out HST.out (Nat.le_refl _))
                clear HRO
                have HRO := HRO2
                clear HRO2
                have HLB := Lib.hid (Blk.new x4 #[.slice none 0 0, .slice none 0 0, .slice none 0 0] 29)
                clear HST
                obtain ⟨x5, hW⟩ : ∃ X, x4.alloc (.cells #[.slice none 0 0, .slice none 0 0, .slice none 0 0] 29 (0, 0)) = X := ⟨_, rfl⟩
                rw [hW] at HC2 HBS2 HRO HLB ⊢
                clear hW
                obtain ⟨G5, hG⟩ : ∃ A, x4.heap.size = A := ⟨_, rfl⟩
                rw [hG] at HLB ⊢
                have HGB := Lib.hid (show Bs ≤ G5 by rw [← hG]; exact HBS.out)
                clear hG
                clear HC HBS
                have HC := HC2
                have HBS := HBS2
                clear HC2 HBS2
                clear hHeld
                refine hK.out _ _ ?_ (fun hHeld => ?_)
                · (try dsimp only); exact HKS.out _ HC.out
                clear hK K
                (try simp only [Act.put, List.setIfInBounds_toArray, List.set_cons_zero, List.set_cons_succ])
                refine wpAnyH_ready (rs := [10]) (by kernel_rfl) (by simp) ?_
                refine AllReadyH.cons (at_list rfl) (fun K hK => ?_) AllReadyH.nil
                have e0 := HLB.out.cell 0
                have e1 := HLB.out.cell 1
                have e2 := HLB.out.cell 2
                have f0 := HLB.out.frozen 0
                have f1 := HLB.out.frozen 1
                have f2 := HLB.out.frozen 2
                simp only [List.getElem?_cons_zero, List.getElem?_cons_succ] at e0 e1 e2
                go_simp
                clear hHeld e0 e1 e2 f0 f1 f2
                have HB3 := Lib.hid (((HLB.out.set 0 (.slice pa k ca)).set 1 (.slice pg k cg)).set 2 (.slice po (k + 1) co))
                have HC3 := Lib.hid (((HC.out.setCell (p := ⟨G5, 0, none⟩) (.inl HGB.out) (.slice pa k ca)).setCell (p := ⟨G5, 1, none⟩) (.inl HGB.out) (.slice pg k cg)).setCell (p := ⟨G5, 2, none⟩) (.inl HGB.out) (.slice po (k + 1) co))
                have HR3 := Lib.hid (Rs.own (own_set3 HRO.out HLB.out (by decide) (.slice pa k ca) (.slice pg k cg) (.slice po (k + 1) co)) (by rw [List.length_append, (HKG.out _ HC.out).len]; rfl)).2
                refine hK.out _ _ ?_ (fun hHeld => ?_)
                · (try dsimp only); exact HKS.out _ HC3.out
                clear hK K
                (try simp only [Act.put, List.setIfInBounds_toArray, List.set_cons_zero, List.set_cons_succ])
                refine wpAnyH_done (by kernel_rfl) ?_ _
                clear hHeld
                go_wp2_with fail
                go_meet
                exact ⟨_, po, co, rfl, HB3.out, HR3.out, HC3.out⟩
              · go_simp
                have HC2 := Lib.hid (HC.out.alloc HBS.out (.cells #[.slice none 0 0, .slice none 0 0, .slice none 0 0] 29 (0, 0)))
                have HBS2 := Lib.hid (show Bs ≤ (x3.alloc (.cells #[.slice none 0 0, .slice none 0 0, .slice none 0 0] 29 (0, 0))).heap.size by have := HBS.out; rw [World.size_alloc]; omega)
                have HST := Lib.hid ((Ch.refl x3.heap.size none1 x3).alloc (Nat.le_refl _) (.cells #[.slice none 0 0, .slice none 0 0, .slice none 0 0] 29 (0, 0)))
                have HOW2 := Lib.hid (own_ch HOW.out HST.out (Nat.le_refl _))
                clear HOW
                have HOW := HOW2
                clear HOW2
                have HSR2 := Lib.hid (HSR.out.alloc (.cells #[.slice none 0 0, .slice none 0 0, .slice none 0 0] 29 (0, 0)))
                clear HSR
                have HSR := HSR2
                clear HSR2
                have HLB := Lib.hid (Blk.new x3 #[.slice none 0 0, .slice none 0 0, .slice none 0 0] 29)
                clear HST
                obtain ⟨x6, hW⟩ : ∃ X, x3.alloc (.cells #[.slice none 0 0, .slice none 0 0, .slice none 0 0] 29 (0, 0)) = X := ⟨_, rfl⟩
                rw [hW] at HC2 HBS2 HOW HSR HLB ⊢
                clear hW
                obtain ⟨G6, hG⟩ : ∃ A, x3.heap.size = A := ⟨_, rfl⟩
                rw [hG] at HLB ⊢
                have HGB := Lib.hid (show Bs ≤ G6 by rw [← hG]; exact HBS.out)
                clear hG
                clear HC HBS
                have HC := HC2
                have HBS := HBS2
                clear HC2 HBS2
                clear hHeld
                refine hK.out _ _ ?_ (fun hHeld => ?_)
                · (try dsimp only); exact HKS.out _ HC.out
                clear hK K
                (try simp only [Act.put, List.setIfInBounds_toArray, List.set_cons_zero, List.set_cons_succ])
                refine wpAnyH_ready (rs := [7]) (by kernel_rfl) (by simp) ?_
                refine AllReadyH.cons (at_list rfl) (fun K hK => ?_) AllReadyH.nil
                refine step_append2 x6 (by rfl) _ _ 27 (by rfl) Bs 25 i0 (.agg #[.bool false, S [], S []]) 3 40 Tryz.underlying27 hi0 hz0 hz1 hz2 rfl (by decide) u2 k (rcs (goods xs)) (by rfl) HOW.out (some ⟨G3, 0, none⟩) 1 1 (rcs [(sr, mn, md)]) (by rfl) rfl (fun h => by cases h) (rs_flat (Rs.blk HSR.out rfl)) (rcs_one _) (by unfold maxLen; omega) (by omega) HBS.out ?_
                intro u7 x7 hown hgr
                have HC2 := Lib.hid (HC.out.trans (ch_own HBS.out HOW.out hgr))
                have HBS2 := Lib.hid (Nat.le_trans HBS.out hgr.size)
                have HLB2 := Lib.hid (blk_grown HLB.out hgr (type_ne HOW.out HLB.out (by decide)))
                clear HLB
                have HLB := HLB2
                clear HLB2
                rw [← rcs_append] at hown
                obtain ⟨po, co, rfl⟩ := own_val hown
                have HRO := Lib.hid hown
                clear HOW HSR hown hgr
                clear HC HBS
                have HC := HC2
                have HBS := HBS2
                clear HC2 HBS2
                clear hHeld
                refine hK.out _ _ ?_ (fun hHeld => ?_)
                · (try dsimp only); exact HKS.out _ HC.out
                clear hK K
                (try simp only [Act.put, List.setIfInBounds_toArray, List.set_cons_zero, List.set_cons_succ])
                refine tk 8 (v := ?_) hHeld ?_ ?_
                rotate_left 1
                · intro _ hw; (try dsimp only at hw); go_simp; try with_reducible rfl
                (try simp only [Act.put, List.setIfInBounds_toArray, List.set_cons_zero, List.set_cons_succ])
                refine wpAnyH_ready (rs := [10]) (by kernel_rfl) (by simp) ?_
                refine AllReadyH.cons (at_list rfl) (fun K hK => ?_) AllReadyH.nil
                have e0 := HLB.out.cell 0
                have e1 := HLB.out.cell 1
                have e2 := HLB.out.cell 2
                have f0 := HLB.out.frozen 0
                have f1 := HLB.out.frozen 1
                have f2 := HLB.out.frozen 2
                simp only [List.getElem?_cons_zero, List.getElem?_cons_succ] at e0 e1 e2
                go_simp
                clear hHeld e0 e1 e2 f0 f1 f2
                have HB3 := Lib.hid (((HLB.out.set 0 (.slice pa k ca)).set 1 (.slice pg k cg)).set 2 (.slice po (k + 1) co))
                have HC3 := Lib.hid (((HC.out.setCell (p := ⟨G6, 0, none⟩) (.inl HGB.out) (.slice pa k ca)).setCell (p := ⟨G6, 1, none⟩) (.inl HGB.out) (.slice pg k cg)).setCell (p := ⟨G6, 2, none⟩) (.inl HGB.out) (.slice po (k + 1) co))
                have HR3 := Lib.hid (Rs.own (own_set3 HRO.out HLB.out (by decide) (.slice pa k ca) (.slice pg k cg) (.slice po (k + 1) co)) (by rw [List.length_append, (HKG.out _ HC.out).len]; rfl)).2
                refine hK.out _ _ ?_ (fun hHeld => ?_)
                · (try dsimp only); exact HKS.out _ HC3.out
                clear hK K
                (try simp only [Act.put, List.setIfInBounds_toArray, List.set_cons_zero, List.set_cons_succ])
                refine wpAnyH_done (by kernel_rfl) ?_ _
                clear hHeld
                go_wp2_with fail
                go_meet
                exact ⟨_, po, co, rfl, HB3.out, HR3.out, HC3.out⟩
            · go_simp
              have HC2 := Lib.hid (HC.out.alloc HBS.out (.cells #[.slice none 0 0, .slice none 0 0, .slice none 0 0] 29 (0, 0)))
              have HBS2 := Lib.hid (show Bs ≤ (x2.alloc (.cells #[.slice none 0 0, .slice none 0 0, .slice none 0 0] 29 (0, 0))).heap.size by have := HBS.out; rw [World.size_alloc]; omega)
              have HST := Lib.hid ((Ch.refl x2.heap.size none1 x2).alloc (Nat.le_refl _) (.cells #[.slice none 0 0, .slice none 0 0, .slice none 0 0] 29 (0, 0)))
              have HOW2 := Lib.hid (own_ch HOW.out HST.out (Nat.le_refl _))
              clear HOW
              have HOW := HOW2
              clear HOW2
              have HLB := Lib.hid (Blk.new x2 #[.slice none 0 0, .slice none 0 0, .slice none 0 0] 29)
              clear HST
              obtain ⟨x8, hW⟩ : ∃ X, x2.alloc (.cells #[.slice none 0 0, .slice none 0 0, .slice none 0 0] 29 (0, 0)) = X := ⟨_, rfl⟩
              rw [hW] at HC2 HBS2 HOW HLB ⊢
              clear hW
              obtain ⟨G8, hG⟩ : ∃ A, x2.heap.size = A := ⟨_, rfl⟩
              rw [hG] at HLB ⊢
              have HGB := Lib.hid (show Bs ≤ G8 by rw [← hG]; exact HBS.out)
              clear hG
              clear HC HBS
              have HC := HC2
              have HBS := HBS2
              clear HC2 HBS2
              clear hHeld
              refine hK.out _ _ ?_ (fun hHeld => ?_)
              · (try dsimp only); exact HKS.out _ HC.out
              clear hK K
              (try simp only [Act.put, List.setIfInBounds_toArray, List.set_cons_zero, List.set_cons_succ])
              refine wpAnyH_ready (rs := [6]) (by kernel_rfl) (by simp) ?_
              refine AllReadyH.cons (at_list rfl) (fun K hK => ?_) AllReadyH.nil
              go_simp
              have HC2 := Lib.hid (HC.out.alloc HBS.out (.cells #[.bool sr, S mn, S md] 25 (0, 0)))
              have HBS2 := Lib.hid (show Bs ≤ (x8.alloc (.cells #[.bool sr, S mn, S md] 25 (0, 0))).heap.size by have := HBS.out; rw [World.size_alloc]; omega)
              have HST := Lib.hid ((Ch.refl x8.heap.size none1 x8).alloc (Nat.le_refl _) (.cells #[.bool sr, S mn, S md] 25 (0, 0)))
              have HOW2 := Lib.hid (own_ch HOW.out HST.out (Nat.le_refl _))
              clear HOW
              have HOW := HOW2
              clear HOW2
              have HLB2 := Lib.hid (HLB.out.alloc (.cells #[.bool sr, S mn, S md] 25 (0, 0)))
              clear HLB
              have HLB := HLB2
              clear HLB2
              have HSR := Lib.hid (Blk.new x8 #[.bool sr, S mn, S md] 25)
              clear HST
              obtain ⟨x9, hW⟩ : ∃ X, x8.alloc (.cells #[.bool sr, S mn, S md] 25 (0, 0)) = X := ⟨_, rfl⟩
              rw [hW] at HC2 HBS2 HOW HLB HSR ⊢
              clear hW
              obtain ⟨G9, hG⟩ : ∃ A, x8.heap.size = A := ⟨_, rfl⟩
              rw [hG] at HSR ⊢
              clear hG
              clear HC HBS
              have HC := HC2
              have HBS := HBS2
              clear HC2 HBS2
              clear hHeld
              refine hK.out _ _ ?_ (fun hHeld => ?_)
              · (try dsimp only); exact HKS.out _ HC.out
              clear hK K
              (try simp only [Act.put, List.setIfInBounds_toArray, List.set_cons_zero, List.set_cons_succ])
              refine wpAnyH_ready (rs := [7]) (by kernel_rfl) (by simp) ?_
              refine AllReadyH.cons (at_list rfl) (fun K hK => ?_) AllReadyH.nil
              refine step_append2 x9 (by rfl) _ _ 27 (by rfl) Bs 25 i0 (.agg #[.bool false, S [], S []]) 3 40 Tryz.underlying27 hi0 hz0 hz1 hz2 rfl (by decide) u2 k (rcs (goods xs)) (by rfl) HOW.out (some ⟨G9, 0, none⟩) 1 1 (rcs [(sr, mn, md)]) (by rfl) rfl (fun h => by cases h) (rs_flat (Rs.blk HSR.out rfl)) (rcs_one _) (by unfold maxLen; omega) (by omega) HBS.out ?_
              intro u10 x10 hown hgr
              have HC2 := Lib.hid (HC.out.trans (ch_own HBS.out HOW.out hgr))
              have HBS2 := Lib.hid (Nat.le_trans HBS.out hgr.size)
              have HLB2 := Lib.hid (blk_grown HLB.out hgr (type_ne HOW.out HLB.out (by decide)))
              clear HLB
              have HLB := HLB2
              clear HLB2
              rw [← rcs_append] at hown
              obtain ⟨po, co, rfl⟩ := own_val hown
              have HRO := Lib.hid hown
              clear HOW HSR hown hgr
              clear HC HBS
              have HC := HC2
              have HBS := HBS2
              clear HC2 HBS2
              clear hHeld
              refine hK.out _ _ ?_ (fun hHeld => ?_)
              · (try dsimp only); exact HKS.out _ HC.out
              clear hK K
              (try simp only [Act.put, List.setIfInBounds_toArray, List.set_cons_zero, List.set_cons_succ])
              refine tk 8 (v := ?_) hHeld ?_ ?_
              rotate_left 1
              · intro _ hw; (try dsimp only at hw); go_simp; try with_reducible rfl
              (try simp only [Act.put, List.setIfInBounds_toArray, List.set_cons_zero, List.set_cons_succ])
              refine wpAnyH_ready (rs := [10]) (by kernel_rfl) (by simp) ?_
              refine AllReadyH.cons (at_list rfl) (fun K hK => ?_) AllReadyH.nil
              have e0 := HLB.out.cell 0
              have e1 := HLB.out.cell 1
              have e2 := HLB.out.cell 2
              have f0 := HLB.out.frozen 0
              have f1 := HLB.out.frozen 1
              have f2 := HLB.out.frozen 2
              simp only [List.getElem?_cons_zero, List.getElem?_cons_succ] at e0 e1 e2
              go_simp
              clear hHeld e0 e1 e2 f0 f1 f2
              have HB3 := Lib.hid (((HLB.out.set 0 (.slice pa k ca)).set 1 (.slice pg k cg)).set 2 (.slice po (k + 1) co))
              have HC3 := Lib.hid (((HC.out.setCell (p := ⟨G8, 0, none⟩) (.inl HGB.out) (.slice pa k ca)).setCell (p := ⟨G8, 1, none⟩) (.inl HGB.out) (.slice pg k cg)).setCell (p := ⟨G8, 2, none⟩) (.inl HGB.out) (.slice po (k + 1) co))
              have HR3 := Lib.hid (Rs.own (own_set3 HRO.out HLB.out (by decide) (.slice pa k ca) (.slice pg k cg) (.slice po (k + 1) co)) (by rw [List.length_append, (HKG.out _ HC.out).len]; rfl)).2
              refine hK.out _ _ ?_ (fun hHeld => ?_)
              · (try dsimp only); exact HKS.out _ HC3.out
              clear hK K
              (try simp only [Act.put, List.setIfInBounds_toArray, List.set_cons_zero, List.set_cons_succ])
              refine wpAnyH_done (by kernel_rfl) ?_ _
              clear hHeld
              go_wp2_with fail
              go_meet
              exact ⟨_, po, co, rfl, HB3.out, HR3.out, HC3.out⟩
          · go_simp
            have HC2 := Lib.hid (HC.out.alloc HBS.out (.cells #[.bool sr, S mn, S md] 25 (0, 0)))
            have HBS2 := Lib.hid (show Bs ≤ (x1.alloc (.cells #[.bool sr, S mn, S md] 25 (0, 0))).heap.size by have := HBS.out; rw [World.size_alloc]; omega)
            have HST := Lib.hid ((Ch.refl x1.heap.size none1 x1).alloc (Nat.le_refl _) (.cells #[.bool sr, S mn, S md] 25 (0, 0)))
            have HOW2 := Lib.hid (own_ch HOW.out HST.out (Nat.le_refl _))
            clear HOW
            have HOW := HOW2
            clear HOW2
            have HSR := Lib.hid (Blk.new x1 #[.bool sr, S mn, S md] 25)
            clear HST
            obtain ⟨x11, hW⟩ : ∃ X, x1.alloc (.cells #[.bool sr, S mn, S md] 25 (0, 0)) = X := ⟨_, rfl⟩
            rw [hW] at HC2 HBS2 HOW HSR ⊢
            clear hW
            obtain ⟨G11, hG⟩ : ∃ A, x1.heap.size = A := ⟨_, rfl⟩
            rw [hG] at HSR ⊢
            clear hG
            clear HC HBS
            have HC := HC2
            have HBS := HBS2
            clear HC2 HBS2
            clear hHeld
            refine hK.out _ _ ?_ (fun hHeld => ?_)
            · (try dsimp only); exact HKS.out _ HC.out
            clear hK K
            (try simp only [Act.put, List.setIfInBounds_toArray, List.set_cons_zero, List.set_cons_succ])
            refine wpAnyH_ready (rs := [4, 9]) (by kernel_rfl) (by simp) ?_
            refine AllReadyH.cons (at_list rfl) (fun K hK => ?_) (AllReadyH.cons (at_list rfl) (fun K hK => ?_) (AllReadyH.nil))
            · refine step_append2 x11 (by rfl) _ _ 27 (by rfl) Bs 25 i0 (.agg #[.bool false, S [], S []]) 3 40 Tryz.underlying27 hi0 hz0 hz1 hz2 rfl (by decide) (.slice (some ⟨G1, 0, none⟩) 0 0) 0 [] (by rfl) HOW.out pg k cg (rcs (goods xs)) (by rfl) (by rw [rcs_len, (HKG.out _ HC.out).len]) (fun h => (HKG.out _ HC.out).nil h) (rs_flat (HKG.out _ HC.out)) (rcs_one _) (by unfold maxLen; omega) (by omega) HBS.out ?_
              intro u12 x12 hown hgr
              rw [Nat.zero_add, List.nil_append] at hown
              have HOW2 := Lib.hid hown
              have HC2 := Lib.hid (HC.out.trans (ch_own HBS.out HOW.out hgr))
              have HBS2 := Lib.hid (Nat.le_trans HBS.out hgr.size)
              have HSR2 := Lib.hid (blk_grown HSR.out hgr (lit_ne HOW.out HSR.out))
              clear HSR
              have HSR := HSR2
              clear HSR2
              clear hown hgr
              clear HOW
              have HOW := HOW2
              clear HOW2
              clear HC HBS
              have HC := HC2
              have HBS := HBS2
              clear HC2 HBS2
              clear hHeld
              refine hK.out _ _ ?_ (fun hHeld => ?_)
              · (try dsimp only); exact HKS.out _ HC.out
              clear hK K
              (try simp only [Act.put, List.setIfInBounds_toArray, List.set_cons_zero, List.set_cons_succ])
              refine wpAnyH_ready (rs := [7, 9]) (by kernel_rfl) (by simp) ?_
              refine AllReadyH.cons (at_list rfl) (fun K hK => ?_) (AllReadyH.cons (at_list rfl) (fun K hK => ?_) (AllReadyH.nil))
              · refine step_append2 x12 (by rfl) _ _ 27 (by rfl) Bs 25 i0 (.agg #[.bool false, S [], S []]) 3 40 Tryz.underlying27 hi0 hz0 hz1 hz2 rfl (by decide) u12 k (rcs (goods xs)) (by rfl) HOW.out (some ⟨G11, 0, none⟩) 1 1 (rcs [(sr, mn, md)]) (by rfl) rfl (fun h => by cases h) (rs_flat (Rs.blk HSR.out rfl)) (rcs_one _) (by unfold maxLen; omega) (by omega) HBS.out ?_
                intro u13 x13 hown hgr
                have HC2 := Lib.hid (HC.out.trans (ch_own HBS.out HOW.out hgr))
                have HBS2 := Lib.hid (Nat.le_trans HBS.out hgr.size)
                rw [← rcs_append] at hown
                obtain ⟨po, co, rfl⟩ := own_val hown
                have HRO := Lib.hid hown
                clear HOW HSR hown hgr
                clear HC HBS
                have HC := HC2
                have HBS := HBS2
                clear HC2 HBS2
                clear hHeld
                refine hK.out _ _ ?_ (fun hHeld => ?_)
                · (try dsimp only); exact HKS.out _ HC.out
                clear hK K
                (try simp only [Act.put, List.setIfInBounds_toArray, List.set_cons_zero, List.set_cons_succ])
                refine tk 8 (v := ?_) hHeld ?_ ?_
                rotate_left 1
                · intro _ hw; (try dsimp only at hw); go_simp; try with_reducible rfl
                (try simp only [Act.put, List.setIfInBounds_toArray, List.set_cons_zero, List.set_cons_succ])
                refine wpAnyH_ready (rs := [9]) (by kernel_rfl) (by simp) ?_
                refine AllReadyH.cons (at_list rfl) (fun K hK => ?_) AllReadyH.nil
                go_simp
                have HC2 := Lib.hid (HC.out.alloc HBS.out (.cells #[.slice none 0 0, .slice none 0 0, .slice none 0 0] 29 (0, 0)))
                have HBS2 := Lib.hid (show Bs ≤ (x13.alloc (.cells #[.slice none 0 0, .slice none 0 0, .slice none 0 0] 29 (0, 0))).heap.size by have := HBS.out; rw [World.size_alloc]; omega)
                have HST := Lib.hid ((Ch.refl x13.heap.size none1 x13).alloc (Nat.le_refl _) (.cells #[.slice none 0 0, .slice none 0 0, .slice none 0 0] 29 (0, 0)))
                have HRO2 := Lib.hid (own_ch HRO.out HST.out (Nat.le_refl _))
                clear HRO
                have HRO := HRO2
                clear HRO2
                have HLB := Lib.hid (Blk.new x13 #[.slice none 0 0, .slice none 0 0, .slice none 0 0] 29)
                clear HST
                obtain ⟨x14, hW⟩ : ∃ X, x13.alloc (.cells #[.slice none 0 0, .slice none 0 0, .slice none 0 0] 29 (0, 0)) = X := ⟨_, rfl⟩
                rw [hW] at HC2 HBS2 HRO HLB ⊢
                clear hW
                obtain ⟨G14, hG⟩ : ∃ A, x13.heap.size = A := ⟨_, rfl⟩
                rw [hG] at HLB ⊢
                have HGB := Lib.hid (show Bs ≤ G14 by rw [← hG]; exact HBS.out)
                clear hG
                clear HC HBS
                have HC := HC2
                have HBS := HBS2
                clear HC2 HBS2
                clear hHeld
                refine hK.out _ _ ?_ (fun hHeld => ?_)
                · (try dsimp only); exact HKS.out _ HC.out
                clear hK K
                (try simp only [Act.put, List.setIfInBounds_toArray, List.set_cons_zero, List.set_cons_succ])
                refine wpAnyH_ready (rs := [10]) (by kernel_rfl) (by simp) ?_
                refine AllReadyH.cons (at_list rfl) (fun K hK => ?_) AllReadyH.nil
                have e0 := HLB.out.cell 0
                have e1 := HLB.out.cell 1
                have e2 := HLB.out.cell 2
                have f0 := HLB.out.frozen 0
                have f1 := HLB.out.frozen 1
                have f2 := HLB.out.frozen 2
                simp only [List.getElem?_cons_zero, List.getElem?_cons_succ] at e0 e1 e2
                go_simp
                clear hHeld e0 e1 e2 f0 f1 f2
                have HB3 := Lib.hid (((HLB.out.set 0 (.slice pa k ca)).set 1 (.slice pg k cg)).set 2 (.slice po (k + 1) co))
                have HC3 := Lib.hid (((HC.out.setCell (p := ⟨G14, 0, none⟩) (.inl HGB.out) (.slice pa k ca)).setCell (p := ⟨G14, 1, none⟩) (.inl HGB.out) (.slice pg k cg)).setCell (p := ⟨G14, 2, none⟩) (.inl HGB.out) (.slice po (k + 1) co))
                have HR3 := Lib.hid (Rs.own (own_set3 HRO.out HLB.out (by decide) (.slice pa k ca) (.slice pg k cg) (.slice po (k + 1) co)) (by rw [List.length_append, (HKG.out _ HC.out).len]; rfl)).2
                refine hK.out _ _ ?_ (fun hHeld => ?_)
                · (try dsimp only); exact HKS.out _ HC3.out
                clear hK K
                (try simp only [Act.put, List.setIfInBounds_toArray, List.set_cons_zero, List.set_cons_succ])
                refine wpAnyH_done (by kernel_rfl) ?_ _
                clear hHeld
                go_wp2_with fail
                go_meet
                exact ⟨_, po, co, rfl, HB3.out, HR3.out, HC3.out⟩
              · go_simp
                have HC2 := Lib.hid (HC.out.alloc HBS.out (.cells #[.slice none 0 0, .slice none 0 0, .slice none 0 0] 29 (0, 0)))
                have HBS2 := Lib.hid (show Bs ≤ (x12.alloc (.cells #[.slice none 0 0, .slice none 0 0, .slice none 0 0] 29 (0, 0))).heap.size by have := HBS.out; rw [World.size_alloc]; omega)
                have HST := Lib.hid ((Ch.refl x12.heap.size none1 x12).alloc (Nat.le_refl _) (.cells #[.slice none 0 0, .slice none 0 0, .slice none 0 0] 29 (0, 0)))
                have HOW2 := Lib.hid (own_ch HOW.out HST.out (Nat.le_refl _))
                clear HOW
                have HOW := HOW2
                clear HOW2
                have HSR2 := Lib.hid (HSR.out.alloc (.cells #[.slice none 0 0, .slice none 0 0, .slice none 0 0] 29 (0, 0)))
                clear HSR
                have HSR := HSR2
                clear HSR2
                have HLB := Lib.hid (Blk.new x12 #[.slice none 0 0, .slice none 0 0, .slice none 0 0] 29)
                clear HST
                obtain ⟨x15, hW⟩ : ∃ X, x12.alloc (.cells #[.slice none 0 0, .slice none 0 0, .slice none 0 0] 29 (0, 0)) = X := ⟨_, rfl⟩
                rw [hW] at HC2 HBS2 HOW HSR HLB ⊢
                clear hW
                obtain ⟨G15, hG⟩ : ∃ A, x12.heap.size = A := ⟨_, rfl⟩
                rw [hG] at HLB ⊢
                have HGB := Lib.hid (show Bs ≤ G15 by rw [← hG]; exact HBS.out)
                clear hG
                clear HC HBS
                have HC := HC2
                have HBS := HBS2
                clear HC2 HBS2
                clear hHeld
                refine hK.out _ _ ?_ (fun hHeld => ?_)
                · (try dsimp only); exact HKS.out _ HC.out
                clear hK K
                (try simp only [Act.put, List.setIfInBounds_toArray, List.set_cons_zero, List.set_cons_succ])
                refine wpAnyH_ready (rs := [7]) (by kernel_rfl) (by simp) ?_
                refine AllReadyH.cons (at_list rfl) (fun K hK => ?_) AllReadyH.nil
                refine step_append2 x15 (by rfl) _ _ 27 (by rfl) Bs 25 i0 (.agg #[.bool false, S [], S []]) 3 40 Tryz.underlying27 hi0 hz0 hz1 hz2 rfl (by decide) u12 k (rcs (goods xs)) (by rfl) HOW.out (some ⟨G11, 0, none⟩) 1 1 (rcs [(sr, mn, md)]) (by rfl) rfl (fun h => by cases h) (rs_flat (Rs.blk HSR.out rfl)) (rcs_one _) (by unfold maxLen; omega) (by omega) HBS.out ?_
                intro u16 x16 hown hgr
                have HC2 := Lib.hid (HC.out.trans (ch_own HBS.out HOW.out hgr))
                have HBS2 := Lib.hid (Nat.le_trans HBS.out hgr.size)
                have HLB2 := Lib.hid (blk_grown HLB.out hgr (type_ne HOW.out HLB.out (by decide)))
                clear HLB
                have HLB := HLB2
                clear HLB2
                rw [← rcs_append] at hown
                obtain ⟨po, co, rfl⟩ := own_val hown
                have HRO := Lib.hid hown
                clear HOW HSR hown hgr
                clear HC HBS
                have HC := HC2
                have HBS := HBS2
                clear HC2 HBS2
                clear hHeld
                refine hK.out _ _ ?_ (fun hHeld => ?_)
                · (try dsimp only); exact HKS.out _ HC.out
                clear hK K
                (try simp only [Act.put, List.setIfInBounds_toArray, List.set_cons_zero, List.set_cons_succ])
                refine tk 8 (v := ?_) hHeld ?_ ?_
                rotate_left 1
                · intro _ hw; (try dsimp only at hw); go_simp; try with_reducible rfl
                (try simp only [Act.put, List.setIfInBounds_toArray, List.set_cons_zero, List.set_cons_succ])
                refine wpAnyH_ready (rs := [10]) (by kernel_rfl) (by simp) ?_
                refine AllReadyH.cons (at_list rfl) (fun K hK => ?_) AllReadyH.nil
                have e0 := HLB.out.cell 0
                have e1 := HLB.out.cell 1
                have e2 := HLB.out.cell 2
                have f0 := HLB.out.frozen 0
                have f1 := HLB.out.frozen 1
                have f2 := HLB.out.frozen 2
                simp only [List.getElem?_cons_zero, List.getElem?_cons_succ] at e0 e1 e2
                go_simp
                clear hHeld e0 e1 e2 f0 f1 f2
                have HB3 := Lib.hid (((HLB.out.set 0 (.slice pa k ca)).set 1 (.slice pg k cg)).set 2 (.slice po (k + 1) co))
                have HC3 := Lib.hid (((HC.out.setCell (p := ⟨G15, 0, none⟩) (.inl HGB.out) (.slice pa k ca)).setCell (p := ⟨G15, 1, none⟩) (.inl HGB.out) (.slice pg k cg)).setCell (p := ⟨G15, 2, none⟩) (.inl HGB.out) (.slice po (k + 1) co))
                have HR3 := Lib.hid (Rs.own (own_set3 HRO.out HLB.out (by decide) (.slice pa k ca) (.slice pg k cg) (.slice po (k + 1) co)) (by rw [List.length_append, (HKG.out _ HC.out).len]; rfl)).2
                refine hK.out _ _ ?_ (fun hHeld => ?_)
                · (try dsimp only); exact HKS.out _ HC3.out
                clear hK K
                (try simp only [Act.put, List.setIfInBounds_toArray, List.set_cons_zero, List.set_cons_succ])
                refine wpAnyH_done (by kernel_rfl) ?_ _
                clear hHeld
                go_wp2_with fail
                go_meet
                exact ⟨_, po, co, rfl, HB3.out, HR3.out, HC3.out⟩
            · go_simp
              have HC2 := Lib.hid (HC.out.alloc HBS.out (.cells #[.slice none 0 0, .slice none 0 0, .slice none 0 0] 29 (0, 0)))
              have HBS2 := Lib.hid (show Bs ≤ (x11.alloc (.cells #[.slice none 0 0, .slice none 0 0, .slice none 0 0] 29 (0, 0))).heap.size by have := HBS.out; rw [World.size_alloc]; omega)
              have HST := Lib.hid ((Ch.refl x11.heap.size none1 x11).alloc (Nat.le_refl _) (.cells #[.slice none 0 0, .slice none 0 0, .slice none 0 0] 29 (0, 0)))
              have HOW2 := Lib.hid (own_ch HOW.out HST.out (Nat.le_refl _))
              clear HOW
              have HOW := HOW2
              clear HOW2
              have HSR2 := Lib.hid (HSR.out.alloc (.cells #[.slice none 0 0, .slice none 0 0, .slice none 0 0] 29 (0, 0)))
              clear HSR
              have HSR := HSR2
              clear HSR2
              have HLB := Lib.hid (Blk.new x11 #[.slice none 0 0, .slice none 0 0, .slice none 0 0] 29)
              clear HST
              obtain ⟨x17, hW⟩ : ∃ X, x11.alloc (.cells #[.slice none 0 0, .slice none 0 0, .slice none 0 0] 29 (0, 0)) = X := ⟨_, rfl⟩
              rw [hW] at HC2 HBS2 HOW HSR HLB ⊢
              clear hW
              obtain ⟨G17, hG⟩ : ∃ A, x11.heap.size = A := ⟨_, rfl⟩
              rw [hG] at HLB ⊢
              have HGB := Lib.hid (show Bs ≤ G17 by rw [← hG]; exact HBS.out)
              clear hG
              clear HC HBS
              have HC := HC2
              have HBS := HBS2
              clear HC2 HBS2
              clear hHeld
              refine hK.out _ _ ?_ (fun hHeld => ?_)
              · (try dsimp only); exact HKS.out _ HC.out
              clear hK K
              (try simp only [Act.put, List.setIfInBounds_toArray, List.set_cons_zero, List.set_cons_succ])
              refine wpAnyH_ready (rs := [4]) (by kernel_rfl) (by simp) ?_
              refine AllReadyH.cons (at_list rfl) (fun K hK => ?_) AllReadyH.nil
              refine step_append2 x17 (by rfl) _ _ 27 (by rfl) Bs 25 i0 (.agg #[.bool false, S [], S []]) 3 40 Tryz.underlying27 hi0 hz0 hz1 hz2 rfl (by decide) (.slice (some ⟨G1, 0, none⟩) 0 0) 0 [] (by rfl) HOW.out pg k cg (rcs (goods xs)) (by rfl) (by rw [rcs_len, (HKG.out _ HC.out).len]) (fun h => (HKG.out _ HC.out).nil h) (rs_flat (HKG.out _ HC.out)) (rcs_one _) (by unfold maxLen; omega) (by omega) HBS.out ?_
              intro u18 x18 hown hgr
              rw [Nat.zero_add, List.nil_append] at hown
              have HOW2 := Lib.hid hown
              have HC2 := Lib.hid (HC.out.trans (ch_own HBS.out HOW.out hgr))
              have HBS2 := Lib.hid (Nat.le_trans HBS.out hgr.size)
              have HSR2 := Lib.hid (blk_grown HSR.out hgr (lit_ne HOW.out HSR.out))
              clear HSR
              have HSR := HSR2
              clear HSR2
              have HLB2 := Lib.hid (blk_grown HLB.out hgr (lit_ne HOW.out HLB.out))
              clear HLB
              have HLB := HLB2
              clear HLB2
              clear hown hgr
              clear HOW
              have HOW := HOW2
              clear HOW2
              clear HC HBS
              have HC := HC2
              have HBS := HBS2
              clear HC2 HBS2
              clear hHeld
              refine hK.out _ _ ?_ (fun hHeld => ?_)
              · (try dsimp only); exact HKS.out _ HC.out
              clear hK K
              (try simp only [Act.put, List.setIfInBounds_toArray, List.set_cons_zero, List.set_cons_succ])
              refine wpAnyH_ready (rs := [7]) (by kernel_rfl) (by simp) ?_
              refine AllReadyH.cons (at_list rfl) (fun K hK => ?_) AllReadyH.nil
              refine step_append2 x18 (by rfl) _ _ 27 (by rfl) Bs 25 i0 (.agg #[.bool false, S [], S []]) 3 40 Tryz.underlying27 hi0 hz0 hz1 hz2 rfl (by decide) u18 k (rcs (goods xs)) (by rfl) HOW.out (some ⟨G11, 0, none⟩) 1 1 (rcs [(sr, mn, md)]) (by rfl) rfl (fun h => by cases h) (rs_flat (Rs.blk HSR.out rfl)) (rcs_one _) (by unfold maxLen; omega) (by omega) HBS.out ?_
              intro u19 x19 hown hgr
              have HC2 := Lib.hid (HC.out.trans (ch_own HBS.out HOW.out hgr))
              have HBS2 := Lib.hid (Nat.le_trans HBS.out hgr.size)
              have HLB2 := Lib.hid (blk_grown HLB.out hgr (type_ne HOW.out HLB.out (by decide)))
              clear HLB
              have HLB := HLB2
              clear HLB2
              rw [← rcs_append] at hown
              obtain ⟨po, co, rfl⟩ := own_val hown
              have HRO := Lib.hid hown
              clear HOW HSR hown hgr
              clear HC HBS
              have HC := HC2
              have HBS := HBS2
              clear HC2 HBS2
              clear hHeld
              refine hK.out _ _ ?_ (fun hHeld => ?_)
              · (try dsimp only); exact HKS.out _ HC.out
              clear hK K
              (try simp only [Act.put, List.setIfInBounds_toArray, List.set_cons_zero, List.set_cons_succ])
              refine tk 8 (v := ?_) hHeld ?_ ?_
              rotate_left 1
              · intro _ hw; (try dsimp only at hw); go_simp; try with_reducible rfl
              (try simp only [Act.put, List.setIfInBounds_toArray, List.set_cons_zero, List.set_cons_succ])
              refine wpAnyH_ready (rs := [10]) (by kernel_rfl) (by simp) ?_
              refine AllReadyH.cons (at_list rfl) (fun K hK => ?_) AllReadyH.nil
              have e0 := HLB.out.cell 0
              have e1 := HLB.out.cell 1
              have e2 := HLB.out.cell 2
              have f0 := HLB.out.frozen 0
              have f1 := HLB.out.frozen 1
              have f2 := HLB.out.frozen 2
              simp only [List.getElem?_cons_zero, List.getElem?_cons_succ] at e0 e1 e2
              go_simp
              clear hHeld e0 e1 e2 f0 f1 f2
              have HB3 := Lib.hid (((HLB.out.set 0 (.slice pa k ca)).set 1 (.slice pg k cg)).set 2 (.slice po (k + 1) co))
              have HC3 := Lib.hid (((HC.out.setCell (p := ⟨G17, 0, none⟩) (.inl HGB.out) (.slice pa k ca)).setCell (p := ⟨G17, 1, none⟩) (.inl HGB.out) (.slice pg k cg)).setCell (p := ⟨G17, 2, none⟩) (.inl HGB.out) (.slice po (k + 1) co))
              have HR3 := Lib.hid (Rs.own (own_set3 HRO.out HLB.out (by decide) (.slice pa k ca) (.slice pg k cg) (.slice po (k + 1) co)) (by rw [List.length_append, (HKG.out _ HC.out).len]; rfl)).2
              refine hK.out _ _ ?_ (fun hHeld => ?_)
              · (try dsimp only); exact HKS.out _ HC3.out
              clear hK K
              (try simp only [Act.put, List.setIfInBounds_toArray, List.set_cons_zero, List.set_cons_succ])
              refine wpAnyH_done (by kernel_rfl) ?_ _
              clear hHeld
              go_wp2_with fail
              go_meet
              exact ⟨_, po, co, rfl, HB3.out, HR3.out, HC3.out⟩
          · go_simp
            have HC2 := Lib.hid (HC.out.alloc HBS.out (.cells #[.slice none 0 0, .slice none 0 0, .slice none 0 0] 29 (0, 0)))
            have HBS2 := Lib.hid (show Bs ≤ (x1.alloc (.cells #[.slice none 0 0, .slice none 0 0, .slice none 0 0] 29 (0, 0))).heap.size by have := HBS.out; rw [World.size_alloc]; omega)
            have HST := Lib.hid ((Ch.refl x1.heap.size none1 x1).alloc (Nat.le_refl _) (.cells #[.slice none 0 0, .slice none 0 0, .slice none 0 0] 29 (0, 0)))
            have HOW2 := Lib.hid (own_ch HOW.out HST.out (Nat.le_refl _))
            clear HOW
            have HOW := HOW2
            clear HOW2
            have HLB := Lib.hid (Blk.new x1 #[.slice none 0 0, .slice none 0 0, .slice none 0 0] 29)
            clear HST
            obtain ⟨x20, hW⟩ : ∃ X, x1.alloc (.cells #[.slice none 0 0, .slice none 0 0, .slice none 0 0] 29 (0, 0)) = X := ⟨_, rfl⟩
            rw [hW] at HC2 HBS2 HOW HLB ⊢
            clear hW
            obtain ⟨G20, hG⟩ : ∃ A, x1.heap.size = A := ⟨_, rfl⟩
            rw [hG] at HLB ⊢
            have HGB := Lib.hid (show Bs ≤ G20 by rw [← hG]; exact HBS.out)
            clear hG
            clear HC HBS
            have HC := HC2
            have HBS := HBS2
            clear HC2 HBS2
            clear hHeld
            refine hK.out _ _ ?_ (fun hHeld => ?_)
            · (try dsimp only); exact HKS.out _ HC.out
            clear hK K
            (try simp only [Act.put, List.setIfInBounds_toArray, List.set_cons_zero, List.set_cons_succ])
            refine wpAnyH_ready (rs := [4, 6]) (by kernel_rfl) (by simp) ?_
            refine AllReadyH.cons (at_list rfl) (fun K hK => ?_) (AllReadyH.cons (at_list rfl) (fun K hK => ?_) (AllReadyH.nil))
            · refine step_append2 x20 (by rfl) _ _ 27 (by rfl) Bs 25 i0 (.agg #[.bool false, S [], S []]) 3 40 Tryz.underlying27 hi0 hz0 hz1 hz2 rfl (by decide) (.slice (some ⟨G1, 0, none⟩) 0 0) 0 [] (by rfl) HOW.out pg k cg (rcs (goods xs)) (by rfl) (by rw [rcs_len, (HKG.out _ HC.out).len]) (fun h => (HKG.out _ HC.out).nil h) (rs_flat (HKG.out _ HC.out)) (rcs_one _) (by unfold maxLen; omega) (by omega) HBS.out ?_
              intro u21 x21 hown hgr
              rw [Nat.zero_add, List.nil_append] at hown
              have HOW2 := Lib.hid hown
              have HC2 := Lib.hid (HC.out.trans (ch_own HBS.out HOW.out hgr))
              have HBS2 := Lib.hid (Nat.le_trans HBS.out hgr.size)
              have HLB2 := Lib.hid (blk_grown HLB.out hgr (lit_ne HOW.out HLB.out))
              clear HLB
              have HLB := HLB2
              clear HLB2
              clear hown hgr
              clear HOW
              have HOW := HOW2
              clear HOW2
              clear HC HBS
              have HC := HC2
              have HBS := HBS2
              clear HC2 HBS2
              clear hHeld
              refine hK.out _ _ ?_ (fun hHeld => ?_)
              · (try dsimp only); exact HKS.out _ HC.out
              clear hK K
              (try simp only [Act.put, List.setIfInBounds_toArray, List.set_cons_zero, List.set_cons_succ])
              refine wpAnyH_ready (rs := [6]) (by kernel_rfl) (by simp) ?_
              refine AllReadyH.cons (at_list rfl) (fun K hK => ?_) AllReadyH.nil
              go_simp
              have HC2 := Lib.hid (HC.out.alloc HBS.out (.cells #[.bool sr, S mn, S md] 25 (0, 0)))
              have HBS2 := Lib.hid (show Bs ≤ (x21.alloc (.cells #[.bool sr, S mn, S md] 25 (0, 0))).heap.size by have := HBS.out; rw [World.size_alloc]; omega)
              have HST := Lib.hid ((Ch.refl x21.heap.size none1 x21).alloc (Nat.le_refl _) (.cells #[.bool sr, S mn, S md] 25 (0, 0)))
              have HOW2 := Lib.hid (own_ch HOW.out HST.out (Nat.le_refl _))
              clear HOW
              have HOW := HOW2
              clear HOW2
              have HLB2 := Lib.hid (HLB.out.alloc (.cells #[.bool sr, S mn, S md] 25 (0, 0)))
              clear HLB
              have HLB := HLB2
              clear HLB2
              have HSR := Lib.hid (Blk.new x21 #[.bool sr, S mn, S md] 25)
              clear HST
              obtain ⟨x22, hW⟩ : ∃ X, x21.alloc (.cells #[.bool sr, S mn, S md] 25 (0, 0)) = X := ⟨_, rfl⟩
              rw [hW] at HC2 HBS2 HOW HLB HSR ⊢
              clear hW
              obtain ⟨G22, hG⟩ : ∃ A, x21.heap.size = A := ⟨_, rfl⟩
              rw [hG] at HSR ⊢
              clear hG
              clear HC HBS
              have HC := HC2
              have HBS := HBS2
              clear HC2 HBS2
              clear hHeld
              refine hK.out _ _ ?_ (fun hHeld => ?_)
              · (try dsimp only); exact HKS.out _ HC.out
              clear hK K
              (try simp only [Act.put, List.setIfInBounds_toArray, List.set_cons_zero, List.set_cons_succ])
              refine wpAnyH_ready (rs := [7]) (by kernel_rfl) (by simp) ?_
              refine AllReadyH.cons (at_list rfl) (fun K hK => ?_) AllReadyH.nil
              refine step_append2 x22 (by rfl) _ _ 27 (by rfl) Bs 25 i0 (.agg #[.bool false, S [], S []]) 3 40 Tryz.underlying27 hi0 hz0 hz1 hz2 rfl (by decide) u21 k (rcs (goods xs)) (by rfl) HOW.out (some ⟨G22, 0, none⟩) 1 1 (rcs [(sr, mn, md)]) (by rfl) rfl (fun h => by cases h) (rs_flat (Rs.blk HSR.out rfl)) (rcs_one _) (by unfold maxLen; omega) (by omega) HBS.out ?_
              intro u23 x23 hown hgr
              have HC2 := Lib.hid (HC.out.trans (ch_own HBS.out HOW.out hgr))
              have HBS2 := Lib.hid (Nat.le_trans HBS.out hgr.size)
              have HLB2 := Lib.hid (blk_grown HLB.out hgr (type_ne HOW.out HLB.out (by decide)))
              clear HLB
              have HLB := HLB2
              clear HLB2
              rw [← rcs_append] at hown
              obtain ⟨po, co, rfl⟩ := own_val hown
              have HRO := Lib.hid hown
              clear HOW HSR hown hgr
              clear HC HBS
              have HC := HC2
              have HBS := HBS2
              clear HC2 HBS2
              clear hHeld
              refine hK.out _ _ ?_ (fun hHeld => ?_)
              · (try dsimp only); exact HKS.out _ HC.out
              clear hK K
              (try simp only [Act.put, List.setIfInBounds_toArray, List.set_cons_zero, List.set_cons_succ])
              refine tk 8 (v := ?_) hHeld ?_ ?_
              rotate_left 1
              · intro _ hw; (try dsimp only at hw); go_simp; try with_reducible rfl
              (try simp only [Act.put, List.setIfInBounds_toArray, List.set_cons_zero, List.set_cons_succ])
              refine wpAnyH_ready (rs := [10]) (by kernel_rfl) (by simp) ?_
              refine AllReadyH.cons (at_list rfl) (fun K hK => ?_) AllReadyH.nil
              have e0 := HLB.out.cell 0
              have e1 := HLB.out.cell 1
              have e2 := HLB.out.cell 2
              have f0 := HLB.out.frozen 0
              have f1 := HLB.out.frozen 1
              have f2 := HLB.out.frozen 2
              simp only [List.getElem?_cons_zero, List.getElem?_cons_succ] at e0 e1 e2
              go_simp
              clear hHeld e0 e1 e2 f0 f1 f2
              have HB3 := Lib.hid (((HLB.out.set 0 (.slice pa k ca)).set 1 (.slice pg k cg)).set 2 (.slice po (k + 1) co))
              have HC3 := Lib.hid (((HC.out.setCell (p := ⟨G20, 0, none⟩) (.inl HGB.out) (.slice pa k ca)).setCell (p := ⟨G20, 1, none⟩) (.inl HGB.out) (.slice pg k cg)).setCell (p := ⟨G20, 2, none⟩) (.inl HGB.out) (.slice po (k + 1) co))
              have HR3 := Lib.hid (Rs.own (own_set3 HRO.out HLB.out (by decide) (.slice pa k ca) (.slice pg k cg) (.slice po (k + 1) co)) (by rw [List.length_append, (HKG.out _ HC.out).len]; rfl)).2
              refine hK.out _ _ ?_ (fun hHeld => ?_)
              · (try dsimp only); exact HKS.out _ HC3.out
              clear hK K
              (try simp only [Act.put, List.setIfInBounds_toArray, List.set_cons_zero, List.set_cons_succ])
              refine wpAnyH_done (by kernel_rfl) ?_ _
              clear hHeld
              go_wp2_with fail
              go_meet
              exact ⟨_, po, co, rfl, HB3.out, HR3.out, HC3.out⟩
            · go_simp
              have HC2 := Lib.hid (HC.out.alloc HBS.out (.cells #[.bool sr, S mn, S md] 25 (0, 0)))
              have HBS2 := Lib.hid (show Bs ≤ (x20.alloc (.cells #[.bool sr, S mn, S md] 25 (0, 0))).heap.size by have := HBS.out; rw [World.size_alloc]; omega)
              have HST := Lib.hid ((Ch.refl x20.heap.size none1 x20).alloc (Nat.le_refl _) (.cells #[.bool sr, S mn, S md] 25 (0, 0)))
              have HOW2 := Lib.hid (own_ch HOW.out HST.out (Nat.le_refl _))
              clear HOW
              have HOW := HOW2
              clear HOW2
              have HLB2 := Lib.hid (HLB.out.alloc (.cells #[.bool sr, S mn, S md] 25 (0, 0)))
              clear HLB
              have HLB := HLB2
              clear HLB2
              have HSR := Lib.hid (Blk.new x20 #[.bool sr, S mn, S md] 25)
              clear HST
              obtain ⟨x24, hW⟩ : ∃ X, x20.alloc (.cells #[.bool sr, S mn, S md] 25 (0, 0)) = X := ⟨_, rfl⟩
              rw [hW] at HC2 HBS2 HOW HLB HSR ⊢
              clear hW
              obtain ⟨G24, hG⟩ : ∃ A, x20.heap.size = A := ⟨_, rfl⟩
              rw [hG] at HSR ⊢
              clear hG
              clear HC HBS
              have HC := HC2
              have HBS := HBS2
              clear HC2 HBS2
              clear hHeld
              refine hK.out _ _ ?_ (fun hHeld => ?_)
              · (try dsimp only); exact HKS.out _ HC.out
              clear hK K
              (try simp only [Act.put, List.setIfInBounds_toArray, List.set_cons_zero, List.set_cons_succ])
              refine wpAnyH_ready (rs := [4]) (by kernel_rfl) (by simp) ?_
              refine AllReadyH.cons (at_list rfl) (fun K hK => ?_) AllReadyH.nil
              refine step_append2 x24 (by rfl) _ _ 27 (by rfl) Bs 25 i0 (.agg #[.bool false, S [], S []]) 3 40 Tryz.underlying27 hi0 hz0 hz1 hz2 rfl (by decide) (.slice (some ⟨G1, 0, none⟩) 0 0) 0 [] (by rfl) HOW.out pg k cg (rcs (goods xs)) (by rfl) (by rw [rcs_len, (HKG.out _ HC.out).len]) (fun h => (HKG.out _ HC.out).nil h) (rs_flat (HKG.out _ HC.out)) (rcs_one _) (by unfold maxLen; omega) (by omega) HBS.out ?_
              intro u25 x25 hown hgr
              rw [Nat.zero_add, List.nil_append] at hown
              have HOW2 := Lib.hid hown
              have HC2 := Lib.hid (HC.out.trans (ch_own HBS.out HOW.out hgr))
              have HBS2 := Lib.hid (Nat.le_trans HBS.out hgr.size)
              have HSR2 := Lib.hid (blk_grown HSR.out hgr (lit_ne HOW.out HSR.out))
              clear HSR
              have HSR := HSR2
              clear HSR2
              have HLB2 := Lib.hid (blk_grown HLB.out hgr (lit_ne HOW.out HLB.out))
              clear HLB
              have HLB := HLB2
              clear HLB2
              clear hown hgr
              clear HOW
              have HOW := HOW2
              clear HOW2
              clear HC HBS
              have HC := HC2
              have HBS := HBS2
              clear HC2 HBS2
              clear hHeld
              refine hK.out _ _ ?_ (fun hHeld => ?_)
              · (try dsimp only); exact HKS.out _ HC.out
              clear hK K
              (try simp only [Act.put, List.setIfInBounds_toArray, List.set_cons_zero, List.set_cons_succ])
              refine wpAnyH_ready (rs := [7]) (by kernel_rfl) (by simp) ?_
              refine AllReadyH.cons (at_list rfl) (fun K hK => ?_) AllReadyH.nil
              refine step_append2 x25 (by rfl) _ _ 27 (by rfl) Bs 25 i0 (.agg #[.bool false, S [], S []]) 3 40 Tryz.underlying27 hi0 hz0 hz1 hz2 rfl (by decide) u25 k (rcs (goods xs)) (by rfl) HOW.out (some ⟨G24, 0, none⟩) 1 1 (rcs [(sr, mn, md)]) (by rfl) rfl (fun h => by cases h) (rs_flat (Rs.blk HSR.out rfl)) (rcs_one _) (by unfold maxLen; omega) (by omega) HBS.out ?_
              intro u26 x26 hown hgr
              have HC2 := Lib.hid (HC.out.trans (ch_own HBS.out HOW.out hgr))
              have HBS2 := Lib.hid (Nat.le_trans HBS.out hgr.size)
              have HLB2 := Lib.hid (blk_grown HLB.out hgr (type_ne HOW.out HLB.out (by decide)))
              clear HLB
              have HLB := HLB2
              clear HLB2
              rw [← rcs_append] at hown
              obtain ⟨po, co, rfl⟩ := own_val hown
              have HRO := Lib.hid hown
              clear HOW HSR hown hgr
              clear HC HBS
              have HC := HC2
              have HBS := HBS2
              clear HC2 HBS2
              clear hHeld
              refine hK.out _ _ ?_ (fun hHeld => ?_)
              · (try dsimp only); exact HKS.out _ HC.out
              clear hK K
              (try simp only [Act.put, List.setIfInBounds_toArray, List.set_cons_zero, List.set_cons_succ])
              refine tk 8 (v := ?_) hHeld ?_ ?_
              rotate_left 1
              · intro _ hw; (try dsimp only at hw); go_simp; try with_reducible rfl
              (try simp only [Act.put, List.setIfInBounds_toArray, List.set_cons_zero, List.set_cons_succ])
              refine wpAnyH_ready (rs := [10]) (by kernel_rfl) (by simp) ?_
              refine AllReadyH.cons (at_list rfl) (fun K hK => ?_) AllReadyH.nil
              have e0 := HLB.out.cell 0
              have e1 := HLB.out.cell 1
              have e2 := HLB.out.cell 2
              have f0 := HLB.out.frozen 0
              have f1 := HLB.out.frozen 1
              have f2 := HLB.out.frozen 2
              simp only [List.getElem?_cons_zero, List.getElem?_cons_succ] at e0 e1 e2
              go_simp
              clear hHeld e0 e1 e2 f0 f1 f2
              have HB3 := Lib.hid (((HLB.out.set 0 (.slice pa k ca)).set 1 (.slice pg k cg)).set 2 (.slice po (k + 1) co))
              have HC3 := Lib.hid (((HC.out.setCell (p := ⟨G20, 0, none⟩) (.inl HGB.out) (.slice pa k ca)).setCell (p := ⟨G20, 1, none⟩) (.inl HGB.out) (.slice pg k cg)).setCell (p := ⟨G20, 2, none⟩) (.inl HGB.out) (.slice po (k + 1) co))
              have HR3 := Lib.hid (Rs.own (own_set3 HRO.out HLB.out (by decide) (.slice pa k ca) (.slice pg k cg) (.slice po (k + 1) co)) (by rw [List.length_append, (HKG.out _ HC.out).len]; rfl)).2
              refine hK.out _ _ ?_ (fun hHeld => ?_)
              · (try dsimp only); exact HKS.out _ HC3.out
              clear hK K
              (try simp only [Act.put, List.setIfInBounds_toArray, List.set_cons_zero, List.set_cons_succ])
              refine wpAnyH_done (by kernel_rfl) ?_ _
              clear hHeld
              go_wp2_with fail
              go_meet
              exact ⟨_, po, co, rfl, HB3.out, HR3.out, HC3.out⟩
        · go_simp
          have HC2 := Lib.hid (HC.out.alloc HBS.out (.cells #[.bool sr, S mn, S md] 25 (0, 0)))
          have HBS2 := Lib.hid (show Bs ≤ (W0.alloc (.cells #[.bool sr, S mn, S md] 25 (0, 0))).heap.size by have := HBS.out; rw [World.size_alloc]; omega)
          have HST := Lib.hid ((Ch.refl W0.heap.size none1 W0).alloc (Nat.le_refl _) (.cells #[.bool sr, S mn, S md] 25 (0, 0)))
          have HSR := Lib.hid (Blk.new W0 #[.bool sr, S mn, S md] 25)
          clear HST
          obtain ⟨x27, hW⟩ : ∃ X, W0.alloc (.cells #[.bool sr, S mn, S md] 25 (0, 0)) = X := ⟨_, rfl⟩
          rw [hW] at HC2 HBS2 HSR ⊢
          clear hW
          obtain ⟨G27, hG⟩ : ∃ A, W0.heap.size = A := ⟨_, rfl⟩
          rw [hG] at HSR ⊢
          clear hG
          clear HC HBS
          have HC := HC2
          have HBS := HBS2
          clear HC2 HBS2
          clear hHeld
          refine hK.out _ _ ?_ (fun hHeld => ?_)
          · (try dsimp only); exact HKS.out _ HC.out
          clear hK K
          (try simp only [Act.put, List.setIfInBounds_toArray, List.set_cons_zero, List.set_cons_succ])
          refine wpAnyH_ready (rs := [2, 9]) (by kernel_rfl) (by simp) ?_
          refine AllReadyH.cons (at_list rfl) (fun K hK => ?_) (AllReadyH.cons (at_list rfl) (fun K hK => ?_) (AllReadyH.nil))
          · go_simp
            have HC2 := Lib.hid (HC.out.alloc HBS.out (.cells #[] 25 (0, 0)))
            have HBS2 := Lib.hid (show Bs ≤ (x27.alloc (.cells #[] 25 (0, 0))).heap.size by have := HBS.out; rw [World.size_alloc]; omega)
            have HST := Lib.hid ((Ch.refl x27.heap.size none1 x27).alloc (Nat.le_refl _) (.cells #[] 25 (0, 0)))
            have HSR2 := Lib.hid (HSR.out.alloc (.cells #[] 25 (0, 0)))
            clear HSR
            have HSR := HSR2
            clear HSR2
            have HOW := Lib.hid (World.ownsRow_lit (base := Bs) (e := 25) (size := 3) x27 #[] 0 HBS.out (by unfold maxLen; omega) rfl)
            clear HST
            obtain ⟨x28, hW⟩ : ∃ X, x27.alloc (.cells #[] 25 (0, 0)) = X := ⟨_, rfl⟩
            rw [hW] at HC2 HBS2 HSR HOW ⊢
            clear hW
            obtain ⟨G28, hG⟩ : ∃ A, x27.heap.size = A := ⟨_, rfl⟩
            rw [hG] at HOW ⊢
            clear hG
            clear HC HBS
            have HC := HC2
            have HBS := HBS2
            clear HC2 HBS2
            clear hHeld
            refine hK.out _ _ ?_ (fun hHeld => ?_)
            · (try dsimp only); exact HKS.out _ HC.out
            clear hK K
            (try simp only [Act.put, List.setIfInBounds_toArray, List.set_cons_zero, List.set_cons_succ])
            refine wpAnyH_ready (rs := [4, 9]) (by kernel_rfl) (by simp) ?_
            refine AllReadyH.cons (at_list rfl) (fun K hK => ?_) (AllReadyH.cons (at_list rfl) (fun K hK => ?_) (AllReadyH.nil))
            · refine step_append2 x28 (by rfl) _ _ 27 (by rfl) Bs 25 i0 (.agg #[.bool false, S [], S []]) 3 40 Tryz.underlying27 hi0 hz0 hz1 hz2 rfl (by decide) (.slice (some ⟨G28, 0, none⟩) 0 0) 0 [] (by rfl) HOW.out pg k cg (rcs (goods xs)) (by rfl) (by rw [rcs_len, (HKG.out _ HC.out).len]) (fun h => (HKG.out _ HC.out).nil h) (rs_flat (HKG.out _ HC.out)) (rcs_one _) (by unfold maxLen; omega) (by omega) HBS.out ?_
              intro u29 x29 hown hgr
              rw [Nat.zero_add, List.nil_append] at hown
              have HOW2 := Lib.hid hown
              have HC2 := Lib.hid (HC.out.trans (ch_own HBS.out HOW.out hgr))
              have HBS2 := Lib.hid (Nat.le_trans HBS.out hgr.size)
              have HSR2 := Lib.hid (blk_grown HSR.out hgr (lit_ne HOW.out HSR.out))
              clear HSR
              have HSR := HSR2
              clear HSR2
              clear hown hgr
              clear HOW
              have HOW := HOW2
              clear HOW2
              clear HC HBS
              have HC := HC2
              have HBS := HBS2
              clear HC2 HBS2
              clear hHeld
              refine hK.out _ _ ?_ (fun hHeld => ?_)
              · (try dsimp only); exact HKS.out _ HC.out
              clear hK K
              (try simp only [Act.put, List.setIfInBounds_toArray, List.set_cons_zero, List.set_cons_succ])
              refine wpAnyH_ready (rs := [7, 9]) (by kernel_rfl) (by simp) ?_
              refine AllReadyH.cons (at_list rfl) (fun K hK => ?_) (AllReadyH.cons (at_list rfl) (fun K hK => ?_) (AllReadyH.nil))
              · refine step_append2 x29 (by rfl) _ _ 27 (by rfl) Bs 25 i0 (.agg #[.bool false, S [], S []]) 3 40 Tryz.underlying27 hi0 hz0 hz1 hz2 rfl (by decide) u29 k (rcs (goods xs)) (by rfl) HOW.out (some ⟨G27, 0, none⟩) 1 1 (rcs [(sr, mn, md)]) (by rfl) rfl (fun h => by cases h) (rs_flat (Rs.blk HSR.out rfl)) (rcs_one _) (by unfold maxLen; omega) (by omega) HBS.out ?_
                intro u30 x30 hown hgr
                have HC2 := Lib.hid (HC.out.trans (ch_own HBS.out HOW.out hgr))
                have HBS2 := Lib.hid (Nat.le_trans HBS.out hgr.size)
                rw [← rcs_append] at hown
                obtain ⟨po, co, rfl⟩ := own_val hown
                have HRO := Lib.hid hown
                clear HOW HSR hown hgr
                clear HC HBS
                have HC := HC2
                have HBS := HBS2
                clear HC2 HBS2
                clear hHeld
                refine hK.out _ _ ?_ (fun hHeld => ?_)
                · (try dsimp only); exact HKS.out _ HC.out
                clear hK K
                (try simp only [Act.put, List.setIfInBounds_toArray, List.set_cons_zero, List.set_cons_succ])
                refine tk 8 (v := ?_) hHeld ?_ ?_
                rotate_left 1
                · intro _ hw; (try dsimp only at hw); go_simp; try with_reducible rfl
                (try simp only [Act.put, List.setIfInBounds_toArray, List.set_cons_zero, List.set_cons_succ])
                refine wpAnyH_ready (rs := [9]) (by kernel_rfl) (by simp) ?_
                refine AllReadyH.cons (at_list rfl) (fun K hK => ?_) AllReadyH.nil
                go_simp
                have HC2 := Lib.hid (HC.out.alloc HBS.out (.cells #[.slice none 0 0, .slice none 0 0, .slice none 0 0] 29 (0, 0)))
                have HBS2 := Lib.hid (show Bs ≤ (x30.alloc (.cells #[.slice none 0 0, .slice none 0 0, .slice none 0 0] 29 (0, 0))).heap.size by have := HBS.out; rw [World.size_alloc]; omega)
                have HST := Lib.hid ((Ch.refl x30.heap.size none1 x30).alloc (Nat.le_refl _) (.cells #[.slice none 0 0, .slice none 0 0, .slice none 0 0] 29 (0, 0)))
                have HRO2 := Lib.hid (own_ch HRO.out HST.out (Nat.le_refl _))
                clear HRO
                have HRO := HRO2
                clear HRO2
                have HLB := Lib.hid (Blk.new x30 #[.slice none 0 0, .slice none 0 0, .slice none 0 0] 29)
                clear HST
                obtain ⟨x31, hW⟩ : ∃ X, x30.alloc (.cells #[.slice none 0 0, .slice none 0 0, .slice none 0 0] 29 (0, 0)) = X := ⟨_, rfl⟩
                rw [hW] at HC2 HBS2 HRO HLB ⊢
                clear hW
                obtain ⟨G31, hG⟩ : ∃ A, x30.heap.size = A := ⟨_, rfl⟩
                rw [hG] at HLB ⊢
                have HGB := Lib.hid (show Bs ≤ G31 by rw [← hG]; exact HBS.out)
                clear hG
                clear HC HBS
                have HC := HC2
                have HBS := HBS2
                clear HC2 HBS2
                clear hHeld
                refine hK.out _ _ ?_ (fun hHeld => ?_)
                · (try dsimp only); exact HKS.out _ HC.out
                clear hK K
                (try simp only [Act.put, List.setIfInBounds_toArray, List.set_cons_zero, List.set_cons_succ])
                refine wpAnyH_ready (rs := [10]) (by kernel_rfl) (by simp) ?_
                refine AllReadyH.cons (at_list rfl) (fun K hK => ?_) AllReadyH.nil
                have e0 := HLB.out.cell 0
                have e1 := HLB.out.cell 1
                have e2 := HLB.out.cell 2
                have f0 := HLB.out.frozen 0
                have f1 := HLB.out.frozen 1
                have f2 := HLB.out.frozen 2
                simp only [List.getElem?_cons_zero, List.getElem?_cons_succ] at e0 e1 e2
                go_simp
                clear hHeld e0 e1 e2 f0 f1 f2
                have HB3 := Lib.hid (((HLB.out.set 0 (.slice pa k ca)).set 1 (.slice pg k cg)).set 2 (.slice po (k + 1) co))
                have HC3 := Lib.hid (((HC.out.setCell (p := ⟨G31, 0, none⟩) (.inl HGB.out) (.slice pa k ca)).setCell (p := ⟨G31, 1, none⟩) (.inl HGB.out) (.slice pg k cg)).setCell (p := ⟨G31, 2, none⟩) (.inl HGB.out) (.slice po (k + 1) co))
                have HR3 := Lib.hid (Rs.own (own_set3 HRO.out HLB.out (by decide) (.slice pa k ca) (.slice pg k cg) (.slice po (k + 1) co)) (by rw [List.length_append, (HKG.out _ HC.out).len]; rfl)).2
                refine hK.out _ _ ?_ (fun hHeld => ?_)
                · (try dsimp only); exact HKS.out _ HC3.out
                clear hK K
                (try simp only [Act.put, List.setIfInBounds_toArray, List.set_cons_zero, List.set_cons_succ])
                refine wpAnyH_done (by kernel_rfl) ?_ _
                clear hHeld
                go_wp2_with fail
                go_meet
                exact ⟨_, po, co, rfl, HB3.out, HR3.out, HC3.out⟩
              · go_simp
                have HC2 := Lib.hid (HC.out.alloc HBS.out (.cells #[.slice none 0 0, .slice none 0 0, .slice none 0 0] 29 (0, 0)))
                have HBS2 := Lib.hid (show Bs ≤ (x29.alloc (.cells #[.slice none 0 0, .slice none 0 0, .slice none 0 0] 29 (0, 0))).heap.size by have := HBS.out; rw [World.size_alloc]; omega)
                have HST := Lib.hid ((Ch.refl x29.heap.size none1 x29).alloc (Nat.le_refl _) (.cells #[.slice none 0 0, .slice none 0 0, .slice none 0 0] 29 (0, 0)))
                have HOW2 := Lib.hid (own_ch HOW.out HST.out (Nat.le_refl _))
                clear HOW
                have HOW := HOW2
                clear HOW2
                have HSR2 := Lib.hid (HSR.out.alloc (.cells #[.slice none 0 0, .slice none 0 0, .slice none 0 0] 29 (0, 0)))
                clear HSR
                have HSR := HSR2
                clear HSR2
                have HLB := Lib.hid (Blk.new x29 #[.slice none 0 0, .slice none 0 0, .slice none 0 0] 29)
                clear HST
                obtain ⟨x32, hW⟩ : ∃ X, x29.alloc (.cells #[.slice none 0 0, .slice none 0 0, .slice none 0 0] 29 (0, 0)) = X := ⟨_, rfl⟩
                rw [hW] at HC2 HBS2 HOW HSR HLB ⊢
                clear hW
                obtain ⟨G32, hG⟩ : ∃ A, x29.heap.size = A := ⟨_, rfl⟩
                rw [hG] at HLB ⊢
                have HGB := Lib.hid (show Bs ≤ G32 by rw [← hG]; exact HBS.out)
                clear hG
                clear HC HBS
                have HC := HC2
                have HBS := HBS2
                clear HC2 HBS2
                clear hHeld
                refine hK.out _ _ ?_ (fun hHeld => ?_)
                · (try dsimp only); exact HKS.out _ HC.out
                clear hK K
                (try simp only [Act.put, List.setIfInBounds_toArray, List.set_cons_zero, List.set_cons_succ])
                refine wpAnyH_ready (rs := [7]) (by kernel_rfl) (by simp) ?_
                refine AllReadyH.cons (at_list rfl) (fun K hK => ?_) AllReadyH.nil
                refine step_append2 x32 (by rfl) _ _ 27 (by rfl) Bs 25 i0 (.agg #[.bool false, S [], S []]) 3 40 Tryz.underlying27 hi0 hz0 hz1 hz2 rfl (by decide) u29 k (rcs (goods xs)) (by rfl) HOW.out (some ⟨G27, 0, none⟩) 1 1 (rcs [(sr, mn, md)]) (by rfl) rfl (fun h => by cases h) (rs_flat (Rs.blk HSR.out rfl)) (rcs_one _) (by unfold maxLen; omega) (by omega) HBS.out ?_
                intro u33 x33 hown hgr
                have HC2 := Lib.hid (HC.out.trans (ch_own HBS.out HOW.out hgr))
                have HBS2 := Lib.hid (Nat.le_trans HBS.out hgr.size)
                have HLB2 := Lib.hid (blk_grown HLB.out hgr (type_ne HOW.out HLB.out (by decide)))
                clear HLB
                have HLB := HLB2
                clear HLB2
                rw [← rcs_append] at hown
                obtain ⟨po, co, rfl⟩ := own_val hown
                have HRO := Lib.hid hown
                clear HOW HSR hown hgr
                clear HC HBS
                have HC := HC2
                have HBS := HBS2
                clear HC2 HBS2
                clear hHeld
                refine hK.out _ _ ?_ (fun hHeld => ?_)
                · (try dsimp only); exact HKS.out _ HC.out
                clear hK K
                (try simp only [Act.put, List.setIfInBounds_toArray, List.set_cons_zero, List.set_cons_succ])
                refine tk 8 (v := ?_) hHeld ?_ ?_
                rotate_left 1
                · intro _ hw; (try dsimp only at hw); go_simp; try with_reducible rfl
                (try simp only [Act.put, List.setIfInBounds_toArray, List.set_cons_zero, List.set_cons_succ])
                refine wpAnyH_ready (rs := [10]) (by kernel_rfl) (by simp) ?_
                refine AllReadyH.cons (at_list rfl) (fun K hK => ?_) AllReadyH.nil
                have e0 := HLB.out.cell 0
                have e1 := HLB.out.cell 1
                have e2 := HLB.out.cell 2
                have f0 := HLB.out.frozen 0
                have f1 := HLB.out.frozen 1
                have f2 := HLB.out.frozen 2
                simp only [List.getElem?_cons_zero, List.getElem?_cons_succ] at e0 e1 e2
                go_simp
                clear hHeld e0 e1 e2 f0 f1 f2
                have HB3 := Lib.hid (((HLB.out.set 0 (.slice pa k ca)).set 1 (.slice pg k cg)).set 2 (.slice po (k + 1) co))
                have HC3 := Lib.hid (((HC.out.setCell (p := ⟨G32, 0, none⟩) (.inl HGB.out) (.slice pa k ca)).setCell (p := ⟨G32, 1, none⟩) (.inl HGB.out) (.slice pg k cg)).setCell (p := ⟨G32, 2, none⟩) (.inl HGB.out) (.slice po (k + 1) co))
                have HR3 := Lib.hid (Rs.own (own_set3 HRO.out HLB.out (by decide) (.slice pa k ca) (.slice pg k cg) (.slice po (k + 1) co)) (by rw [List.length_append, (HKG.out _ HC.out).len]; rfl)).2
                refine hK.out _ _ ?_ (fun hHeld => ?_)
                · (try dsimp only); exact HKS.out _ HC3.out
                clear hK K
                (try simp only [Act.put, List.setIfInBounds_toArray, List.set_cons_zero, List.set_cons_succ])
                refine wpAnyH_done (by kernel_rfl) ?_ _
                clear hHeld
                go_wp2_with fail
                go_meet
                exact ⟨_, po, co, rfl, HB3.out, HR3.out, HC3.out⟩
            · go_simp
              have HC2 := Lib.hid (HC.out.alloc HBS.out (.cells #[.slice none 0 0, .slice none 0 0, .slice none 0 0] 29 (0, 0)))
              have HBS2 := Lib.hid (show Bs ≤ (x28.alloc (.cells #[.slice none 0 0, .slice none 0 0, .slice none 0 0] 29 (0, 0))).heap.size by have := HBS.out; rw [World.size_alloc]; omega)
              have HST := Lib.hid ((Ch.refl x28.heap.size none1 x28).alloc (Nat.le_refl _) (.cells #[.slice none 0 0, .slice none 0 0, .slice none 0 0] 29 (0, 0)))
              have HOW2 := Lib.hid (own_ch HOW.out HST.out (Nat.le_refl _))
              clear HOW
              have HOW := HOW2
              clear HOW2
              have HSR2 := Lib.hid (HSR.out.alloc (.cells #[.slice none 0 0, .slice none 0 0, .slice none 0 0] 29 (0, 0)))
              clear HSR
              have HSR := HSR2
              clear HSR2
              have HLB := Lib.hid (Blk.new x28 #[.slice none 0 0, .slice none 0 0, .slice none 0 0] 29)
              clear HST
              obtain ⟨x34, hW⟩ : ∃ X, x28.alloc (.cells #[.slice none 0 0, .slice none 0 0, .slice none 0 0] 29 (0, 0)) = X := ⟨_, rfl⟩
              rw [hW] at HC2 HBS2 HOW HSR HLB ⊢
              clear hW
              obtain ⟨G34, hG⟩ : ∃ A, x28.heap.size = A := ⟨_, rfl⟩
              rw [hG] at HLB ⊢
              have HGB := Lib.hid (show Bs ≤ G34 by rw [← hG]; exact HBS.out)
              clear hG
              clear HC HBS
              have HC := HC2
              have HBS := HBS2
              clear HC2 HBS2
              clear hHeld
              refine hK.out _ _ ?_ (fun hHeld => ?_)
              · (try dsimp only); exact HKS.out _ HC.out
              clear hK K
              (try simp only [Act.put, List.setIfInBounds_toArray, List.set_cons_zero, List.set_cons_succ])
              refine wpAnyH_ready (rs := [4]) (by kernel_rfl) (by simp) ?_
              refine AllReadyH.cons (at_list rfl) (fun K hK => ?_) AllReadyH.nil
              refine step_append2 x34 (by rfl) _ _ 27 (by rfl) Bs 25 i0 (.agg #[.bool false, S [], S []]) 3 40 Tryz.underlying27 hi0 hz0 hz1 hz2 rfl (by decide) (.slice (some ⟨G28, 0, none⟩) 0 0) 0 [] (by rfl) HOW.out pg k cg (rcs (goods xs)) (by rfl) (by rw [rcs_len, (HKG.out _ HC.out).len]) (fun h => (HKG.out _ HC.out).nil h) (rs_flat (HKG.out _ HC.out)) (rcs_one _) (by unfold maxLen; omega) (by omega) HBS.out ?_
              intro u35 x35 hown hgr
              rw [Nat.zero_add, List.nil_append] at hown
              have HOW2 := Lib.hid hown
              have HC2 := Lib.hid (HC.out.trans (ch_own HBS.out HOW.out hgr))
              have HBS2 := Lib.hid (Nat.le_trans HBS.out hgr.size)
              have HSR2 := Lib.hid (blk_grown HSR.out hgr (lit_ne HOW.out HSR.out))
              clear HSR
              have HSR := HSR2
              clear HSR2
              have HLB2 := Lib.hid (blk_grown HLB.out hgr (lit_ne HOW.out HLB.out))
              clear HLB
              have HLB := HLB2
              clear HLB2
              clear hown hgr
              clear HOW
              have HOW := HOW2
              clear HOW2
              clear HC HBS
              have HC := HC2
              have HBS := HBS2
              clear HC2 HBS2
              clear hHeld
              refine hK.out _ _ ?_ (fun hHeld => ?_)
              · (try dsimp only); exact HKS.out _ HC.out
              clear hK K
              (try simp only [Act.put, List.setIfInBounds_toArray, List.set_cons_zero, List.set_cons_succ])
              refine wpAnyH_ready (rs := [7]) (by kernel_rfl) (by simp) ?_
              refine AllReadyH.cons (at_list rfl) (fun K hK => ?_) AllReadyH.nil
              refine step_append2 x35 (by rfl) _ _ 27 (by rfl) Bs 25 i0 (.agg #[.bool false, S [], S []]) 3 40 Tryz.underlying27 hi0 hz0 hz1 hz2 rfl (by decide) u35 k (rcs (goods xs)) (by rfl) HOW.out (some ⟨G27, 0, none⟩) 1 1 (rcs [(sr, mn, md)]) (by rfl) rfl (fun h => by cases h) (rs_flat (Rs.blk HSR.out rfl)) (rcs_one _) (by unfold maxLen; omega) (by omega) HBS.out ?_
              intro u36 x36 hown hgr
              have HC2 := Lib.hid (HC.out.trans (ch_own HBS.out HOW.out hgr))
              have HBS2 := Lib.hid (Nat.le_trans HBS.out hgr.size)
              have HLB2 := Lib.hid (blk_grown HLB.out hgr (type_ne HOW.out HLB.out (by decide)))
              clear HLB
              have HLB := HLB2
              clear HLB2
              rw [← rcs_append] at hown
              obtain ⟨po, co, rfl⟩ := own_val hown
              have HRO := Lib.hid hown
              clear HOW HSR hown hgr
              clear HC HBS
              have HC := HC2
              have HBS := HBS2
              clear HC2 HBS2
              clear hHeld
              refine hK.out _ _ ?_ (fun hHeld => ?_)
              · (try dsimp only); exact HKS.out _ HC.out
              clear hK K
              (try simp only [Act.put, List.setIfInBounds_toArray, List.set_cons_zero, List.set_cons_succ])
              refine tk 8 (v := ?_) hHeld ?_ ?_
              rotate_left 1
              · intro _ hw; (try dsimp only at hw); go_simp; try with_reducible rfl
              (try simp only [Act.put, List.setIfInBounds_toArray, List.set_cons_zero, List.set_cons_succ])
              refine wpAnyH_ready (rs := [10]) (by kernel_rfl) (by simp) ?_
              refine AllReadyH.cons (at_list rfl) (fun K hK => ?_) AllReadyH.nil
              have e0 := HLB.out.cell 0
              have e1 := HLB.out.cell 1
              have e2 := HLB.out.cell 2
              have f0 := HLB.out.frozen 0
              have f1 := HLB.out.frozen 1
              have f2 := HLB.out.frozen 2
              simp only [List.getElem?_cons_zero, List.getElem?_cons_succ] at e0 e1 e2
              go_simp
              clear hHeld e0 e1 e2 f0 f1 f2
              have HB3 := Lib.hid (((HLB.out.set 0 (.slice pa k ca)).set 1 (.slice pg k cg)).set 2 (.slice po (k + 1) co))
              have HC3 := Lib.hid (((HC.out.setCell (p := ⟨G34, 0, none⟩) (.inl HGB.out) (.slice pa k ca)).setCell (p := ⟨G34, 1, none⟩) (.inl HGB.out) (.slice pg k cg)).setCell (p := ⟨G34, 2, none⟩) (.inl HGB.out) (.slice po (k + 1) co))
              have HR3 := Lib.hid (Rs.own (own_set3 HRO.out HLB.out (by decide) (.slice pa k ca) (.slice pg k cg) (.slice po (k + 1) co)) (by rw [List.length_append, (HKG.out _ HC.out).len]; rfl)).2
              refine hK.out _ _ ?_ (fun hHeld => ?_)
              · (try dsimp only); exact HKS.out _ HC3.out
              clear hK K
              (try simp only [Act.put, List.setIfInBounds_toArray, List.set_cons_zero, List.set_cons_succ])
              refine wpAnyH_done (by kernel_rfl) ?_ _
              clear hHeld
              go_wp2_with fail
              go_meet
              exact ⟨_, po, co, rfl, HB3.out, HR3.out, HC3.out⟩
          · go_simp
            have HC2 := Lib.hid (HC.out.alloc HBS.out (.cells #[.slice none 0 0, .slice none 0 0, .slice none 0 0] 29 (0, 0)))
            have HBS2 := Lib.hid (show Bs ≤ (x27.alloc (.cells #[.slice none 0 0, .slice none 0 0, .slice none 0 0] 29 (0, 0))).heap.size by have := HBS.out; rw [World.size_alloc]; omega)
            have HST := Lib.hid ((Ch.refl x27.heap.size none1 x27).alloc (Nat.le_refl _) (.cells #[.slice none 0 0, .slice none 0 0, .slice none 0 0] 29 (0, 0)))
            have HSR2 := Lib.hid (HSR.out.alloc (.cells #[.slice none 0 0, .slice none 0 0, .slice none 0 0] 29 (0, 0)))
            clear HSR
            have HSR := HSR2
            clear HSR2
            have HLB := Lib.hid (Blk.new x27 #[.slice none 0 0, .slice none 0 0, .slice none 0 0] 29)
            clear HST
            obtain ⟨x37, hW⟩ : ∃ X, x27.alloc (.cells #[.slice none 0 0, .slice none 0 0, .slice none 0 0] 29 (0, 0)) = X := ⟨_, rfl⟩
            rw [hW] at HC2 HBS2 HSR HLB ⊢
            clear hW
            obtain ⟨G37, hG⟩ : ∃ A, x27.heap.size = A := ⟨_, rfl⟩
            rw [hG] at HLB ⊢
            have HGB := Lib.hid (show Bs ≤ G37 by rw [← hG]; exact HBS.out)
            clear hG
            clear HC HBS
            have HC := HC2
            have HBS := HBS2
            clear HC2 HBS2
            clear hHeld
            refine hK.out _ _ ?_ (fun hHeld => ?_)
            · (try dsimp only); exact HKS.out _ HC.out
            clear hK K
            (try simp only [Act.put, List.setIfInBounds_toArray, List.set_cons_zero, List.set_cons_succ])
            refine wpAnyH_ready (rs := [2]) (by kernel_rfl) (by simp) ?_
            refine AllReadyH.cons (at_list rfl) (fun K hK => ?_) AllReadyH.nil
            go_simp
            have HC2 := Lib.hid (HC.out.alloc HBS.out (.cells #[] 25 (0, 0)))
            have HBS2 := Lib.hid (show Bs ≤ (x37.alloc (.cells #[] 25 (0, 0))).heap.size by have := HBS.out; rw [World.size_alloc]; omega)
            have HST := Lib.hid ((Ch.refl x37.heap.size none1 x37).alloc (Nat.le_refl _) (.cells #[] 25 (0, 0)))
            have HSR2 := Lib.hid (HSR.out.alloc (.cells #[] 25 (0, 0)))
            clear HSR
            have HSR := HSR2
            clear HSR2
            have HLB2 := Lib.hid (HLB.out.alloc (.cells #[] 25 (0, 0)))
            clear HLB
            have HLB := HLB2
            clear HLB2
            have HOW := Lib.hid (World.ownsRow_lit (base := Bs) (e := 25) (size := 3) x37 #[] 0 HBS.out (by unfold maxLen; omega) rfl)
            clear HST
            obtain ⟨x38, hW⟩ : ∃ X, x37.alloc (.cells #[] 25 (0, 0)) = X := ⟨_, rfl⟩
            rw [hW] at HC2 HBS2 HSR HLB HOW ⊢
            clear hW
            obtain ⟨G38, hG⟩ : ∃ A, x37.heap.size = A := ⟨_, rfl⟩
            rw [hG] at HOW ⊢
            clear hG
            clear HC HBS
            have HC := HC2
            have HBS := HBS2
            clear HC2 HBS2
            clear hHeld
            refine hK.out _ _ ?_ (fun hHeld => ?_)
            · (try dsimp only); exact HKS.out _ HC.out
            clear hK K
            (try simp only [Act.put, List.setIfInBounds_toArray, List.set_cons_zero, List.set_cons_succ])
            refine wpAnyH_ready (rs := [4]) (by kernel_rfl) (by simp) ?_
            refine AllReadyH.cons (at_list rfl) (fun K hK => ?_) AllReadyH.nil
            refine step_append2 x38 (by rfl) _ _ 27 (by rfl) Bs 25 i0 (.agg #[.bool false, S [], S []]) 3 40 Tryz.underlying27 hi0 hz0 hz1 hz2 rfl (by decide) (.slice (some ⟨G38, 0, none⟩) 0 0) 0 [] (by rfl) HOW.out pg k cg (rcs (goods xs)) (by rfl) (by rw [rcs_len, (HKG.out _ HC.out).len]) (fun h => (HKG.out _ HC.out).nil h) (rs_flat (HKG.out _ HC.out)) (rcs_one _) (by unfold maxLen; omega) (by omega) HBS.out ?_
            intro u39 x39 hown hgr
            rw [Nat.zero_add, List.nil_append] at hown
            have HOW2 := Lib.hid hown
            have HC2 := Lib.hid (HC.out.trans (ch_own HBS.out HOW.out hgr))
            have HBS2 := Lib.hid (Nat.le_trans HBS.out hgr.size)
            have HSR2 := Lib.hid (blk_grown HSR.out hgr (lit_ne HOW.out HSR.out))
            clear HSR
            have HSR := HSR2
            clear HSR2
            have HLB2 := Lib.hid (blk_grown HLB.out hgr (lit_ne HOW.out HLB.out))
            clear HLB
            have HLB := HLB2
            clear HLB2
            clear hown hgr
            clear HOW
            have HOW := HOW2
            clear HOW2
            clear HC HBS
            have HC := HC2
            have HBS := HBS2
            clear HC2 HBS2
            clear hHeld
            refine hK.out _ _ ?_ (fun hHeld => ?_)
            · (try dsimp only); exact HKS.out _ HC.out
            clear hK K
            (try simp only [Act.put, List.setIfInBounds_toArray, List.set_cons_zero, List.set_cons_succ])
            refine wpAnyH_ready (rs := [7]) (by kernel_rfl) (by simp) ?_
            refine AllReadyH.cons (at_list rfl) (fun K hK => ?_) AllReadyH.nil
            refine step_append2 x39 (by rfl) _ _ 27 (by rfl) Bs 25 i0 (.agg #[.bool false, S [], S []]) 3 40 Tryz.underlying27 hi0 hz0 hz1 hz2 rfl (by decide) u39 k (rcs (goods xs)) (by rfl) HOW.out (some ⟨G27, 0, none⟩) 1 1 (rcs [(sr, mn, md)]) (by rfl) rfl (fun h => by cases h) (rs_flat (Rs.blk HSR.out rfl)) (rcs_one _) (by unfold maxLen; omega) (by omega) HBS.out ?_
            intro u40 x40 hown hgr
            have HC2 := Lib.hid (HC.out.trans (ch_own HBS.out HOW.out hgr))
            have HBS2 := Lib.hid (Nat.le_trans HBS.out hgr.size)
            have HLB2 := Lib.hid (blk_grown HLB.out hgr (type_ne HOW.out HLB.out (by decide)))
            clear HLB
            have HLB := HLB2
            clear HLB2
            rw [← rcs_append] at hown
            obtain ⟨po, co, rfl⟩ := own_val hown
            have HRO := Lib.hid hown
            clear HOW HSR hown hgr
            clear HC HBS
            have HC := HC2
            have HBS := HBS2
            clear HC2 HBS2
            clear hHeld
            refine hK.out _ _ ?_ (fun hHeld => ?_)
            · (try dsimp only); exact HKS.out _ HC.out
            clear hK K
            (try simp only [Act.put, List.setIfInBounds_toArray, List.set_cons_zero, List.set_cons_succ])
            refine tk 8 (v := ?_) hHeld ?_ ?_
            rotate_left 1
            · intro _ hw; (try dsimp only at hw); go_simp; try with_reducible rfl
            (try simp only [Act.put, List.setIfInBounds_toArray, List.set_cons_zero, List.set_cons_succ])
            refine wpAnyH_ready (rs := [10]) (by kernel_rfl) (by simp) ?_
            refine AllReadyH.cons (at_list rfl) (fun K hK => ?_) AllReadyH.nil
            have e0 := HLB.out.cell 0
            have e1 := HLB.out.cell 1
            have e2 := HLB.out.cell 2
            have f0 := HLB.out.frozen 0
            have f1 := HLB.out.frozen 1
            have f2 := HLB.out.frozen 2
            simp only [List.getElem?_cons_zero, List.getElem?_cons_succ] at e0 e1 e2
            go_simp
            clear hHeld e0 e1 e2 f0 f1 f2
            have HB3 := Lib.hid (((HLB.out.set 0 (.slice pa k ca)).set 1 (.slice pg k cg)).set 2 (.slice po (k + 1) co))
            have HC3 := Lib.hid (((HC.out.setCell (p := ⟨G37, 0, none⟩) (.inl HGB.out) (.slice pa k ca)).setCell (p := ⟨G37, 1, none⟩) (.inl HGB.out) (.slice pg k cg)).setCell (p := ⟨G37, 2, none⟩) (.inl HGB.out) (.slice po (k + 1) co))
            have HR3 := Lib.hid (Rs.own (own_set3 HRO.out HLB.out (by decide) (.slice pa k ca) (.slice pg k cg) (.slice po (k + 1) co)) (by rw [List.length_append, (HKG.out _ HC.out).len]; rfl)).2
            refine hK.out _ _ ?_ (fun hHeld => ?_)
            · (try dsimp only); exact HKS.out _ HC3.out
            clear hK K
            (try simp only [Act.put, List.setIfInBounds_toArray, List.set_cons_zero, List.set_cons_succ])
            refine wpAnyH_done (by kernel_rfl) ?_ _
            clear hHeld
            go_wp2_with fail
            go_meet
            exact ⟨_, po, co, rfl, HB3.out, HR3.out, HC3.out⟩
        · go_simp
          have HC2 := Lib.hid (HC.out.alloc HBS.out (.cells #[.slice none 0 0, .slice none 0 0, .slice none 0 0] 29 (0, 0)))
          have HBS2 := Lib.hid (show Bs ≤ (W0.alloc (.cells #[.slice none 0 0, .slice none 0 0, .slice none 0 0] 29 (0, 0))).heap.size by have := HBS.out; rw [World.size_alloc]; omega)
          have HST := Lib.hid ((Ch.refl W0.heap.size none1 W0).alloc (Nat.le_refl _) (.cells #[.slice none 0 0, .slice none 0 0, .slice none 0 0] 29 (0, 0)))
          have HLB := Lib.hid (Blk.new W0 #[.slice none 0 0, .slice none 0 0, .slice none 0 0] 29)
          clear HST
          obtain ⟨x41, hW⟩ : ∃ X, W0.alloc (.cells #[.slice none 0 0, .slice none 0 0, .slice none 0 0] 29 (0, 0)) = X := ⟨_, rfl⟩
          rw [hW] at HC2 HBS2 HLB ⊢
          clear hW
          obtain ⟨G41, hG⟩ : ∃ A, W0.heap.size = A := ⟨_, rfl⟩
          rw [hG] at HLB ⊢
          have HGB := Lib.hid (show Bs ≤ G41 by rw [← hG]; exact HBS.out)
          clear hG
          clear HC HBS
          have HC := HC2
          have HBS := HBS2
          clear HC2 HBS2
          clear hHeld
          refine hK.out _ _ ?_ (fun hHeld => ?_)
          · (try dsimp only); exact HKS.out _ HC.out
          clear hK K
          (try simp only [Act.put, List.setIfInBounds_toArray, List.set_cons_zero, List.set_cons_succ])
          refine wpAnyH_ready (rs := [2, 6]) (by kernel_rfl) (by simp) ?_
          refine AllReadyH.cons (at_list rfl) (fun K hK => ?_) (AllReadyH.cons (at_list rfl) (fun K hK => ?_) (AllReadyH.nil))
          · go_simp
            have HC2 := Lib.hid (HC.out.alloc HBS.out (.cells #[] 25 (0, 0)))
            have HBS2 := Lib.hid (show Bs ≤ (x41.alloc (.cells #[] 25 (0, 0))).heap.size by have := HBS.out; rw [World.size_alloc]; omega)
            have HST := Lib.hid ((Ch.refl x41.heap.size none1 x41).alloc (Nat.le_refl _) (.cells #[] 25 (0, 0)))
            have HLB2 := Lib.hid (HLB.out.alloc (.cells #[] 25 (0, 0)))
            clear HLB
            have HLB := HLB2
            clear HLB2
            have HOW := Lib.hid (World.ownsRow_lit (base := Bs) (e := 25) (size := 3) x41 #[] 0 HBS.out (by unfold maxLen; omega) rfl)
            clear HST
            obtain ⟨x42, hW⟩ : ∃ X, x41.alloc (.cells #[] 25 (0, 0)) = X := ⟨_, rfl⟩
            rw [hW] at HC2 HBS2 HLB HOW ⊢
            clear hW
            obtain ⟨G42, hG⟩ : ∃ A, x41.heap.size = A := ⟨_, rfl⟩
            rw [hG] at HOW ⊢
            clear hG
            clear HC HBS
            have HC := HC2
            have HBS := HBS2
            clear HC2 HBS2
            clear hHeld
            refine hK.out _ _ ?_ (fun hHeld => ?_)
            · (try dsimp only); exact HKS.out _ HC.out
            clear hK K
            (try simp only [Act.put, List.setIfInBounds_toArray, List.set_cons_zero, List.set_cons_succ])
            refine wpAnyH_ready (rs := [4, 6]) (by kernel_rfl) (by simp) ?_
            refine AllReadyH.cons (at_list rfl) (fun K hK => ?_) (AllReadyH.cons (at_list rfl) (fun K hK => ?_) (AllReadyH.nil))
            · refine step_append2 x42 (by rfl) _ _ 27 (by rfl) Bs 25 i0 (.agg #[.bool false, S [], S []]) 3 40 Tryz.underlying27 hi0 hz0 hz1 hz2 rfl (by decide) (.slice (some ⟨G42, 0, none⟩) 0 0) 0 [] (by rfl) HOW.out pg k cg (rcs (goods xs)) (by rfl) (by rw [rcs_len, (HKG.out _ HC.out).len]) (fun h => (HKG.out _ HC.out).nil h) (rs_flat (HKG.out _ HC.out)) (rcs_one _) (by unfold maxLen; omega) (by omega) HBS.out ?_
              intro u43 x43 hown hgr
              rw [Nat.zero_add, List.nil_append] at hown
              have HOW2 := Lib.hid hown
              have HC2 := Lib.hid (HC.out.trans (ch_own HBS.out HOW.out hgr))
              have HBS2 := Lib.hid (Nat.le_trans HBS.out hgr.size)
              have HLB2 := Lib.hid (blk_grown HLB.out hgr (lit_ne HOW.out HLB.out))
              clear HLB
              have HLB := HLB2
              clear HLB2
              clear hown hgr
              clear HOW
              have HOW := HOW2
              clear HOW2
              clear HC HBS
              have HC := HC2
              have HBS := HBS2
              clear HC2 HBS2
              clear hHeld
              refine hK.out _ _ ?_ (fun hHeld => ?_)
              · (try dsimp only); exact HKS.out _ HC.out
              clear hK K
              (try simp only [Act.put, List.setIfInBounds_toArray, List.set_cons_zero, List.set_cons_succ])
              refine wpAnyH_ready (rs := [6]) (by kernel_rfl) (by simp) ?_
              refine AllReadyH.cons (at_list rfl) (fun K hK => ?_) AllReadyH.nil
              go_simp
              have HC2 := Lib.hid (HC.out.alloc HBS.out (.cells #[.bool sr, S mn, S md] 25 (0, 0)))
              have HBS2 := Lib.hid (show Bs ≤ (x43.alloc (.cells #[.bool sr, S mn, S md] 25 (0, 0))).heap.size by have := HBS.out; rw [World.size_alloc]; omega)
              have HST := Lib.hid ((Ch.refl x43.heap.size none1 x43).alloc (Nat.le_refl _) (.cells #[.bool sr, S mn, S md] 25 (0, 0)))
              have HOW2 := Lib.hid (own_ch HOW.out HST.out (Nat.le_refl _))
              clear HOW
              have HOW := HOW2
              clear HOW2
              have HLB2 := Lib.hid (HLB.out.alloc (.cells #[.bool sr, S mn, S md] 25 (0, 0)))
              clear HLB
              have HLB := HLB2
              clear HLB2
              have HSR := Lib.hid (Blk.new x43 #[.bool sr, S mn, S md] 25)
              clear HST
              obtain ⟨x44, hW⟩ : ∃ X, x43.alloc (.cells #[.bool sr, S mn, S md] 25 (0, 0)) = X := ⟨_, rfl⟩
              rw [hW] at HC2 HBS2 HOW HLB HSR ⊢
              clear hW
              obtain ⟨G44, hG⟩ : ∃ A, x43.heap.size = A := ⟨_, rfl⟩
              rw [hG] at HSR ⊢
              clear hG
              clear HC HBS
              have HC := HC2
              have HBS := HBS2
              clear HC2 HBS2
              clear hHeld
              refine hK.out _ _ ?_ (fun hHeld => ?_)
              · (try dsimp only); exact HKS.out _ HC.out
              clear hK K
              (try simp only [Act.put, List.setIfInBounds_toArray, List.set_cons_zero, List.set_cons_succ])
              refine wpAnyH_ready (rs := [7]) (by kernel_rfl) (by simp) ?_
              refine AllReadyH.cons (at_list rfl) (fun K hK => ?_) AllReadyH.nil
              refine step_append2 x44 (by rfl) _ _ 27 (by rfl) Bs 25 i0 (.agg #[.bool false, S [], S []]) 3 40 Tryz.underlying27 hi0 hz0 hz1 hz2 rfl (by decide) u43 k (rcs (goods xs)) (by rfl) HOW.out (some ⟨G44, 0, none⟩) 1 1 (rcs [(sr, mn, md)]) (by rfl) rfl (fun h => by cases h) (rs_flat (Rs.blk HSR.out rfl)) (rcs_one _) (by unfold maxLen; omega) (by omega) HBS.out ?_
              intro u45 x45 hown hgr
              have HC2 := Lib.hid (HC.out.trans (ch_own HBS.out HOW.out hgr))
              have HBS2 := Lib.hid (Nat.le_trans HBS.out hgr.size)
              have HLB2 := Lib.hid (blk_grown HLB.out hgr (type_ne HOW.out HLB.out (by decide)))
              clear HLB
              have HLB := HLB2
              clear HLB2
              rw [← rcs_append] at hown
              obtain ⟨po, co, rfl⟩ := own_val hown
              have HRO := Lib.hid hown
              clear HOW HSR hown hgr
              clear HC HBS
              have HC := HC2
              have HBS := HBS2
              clear HC2 HBS2
              clear hHeld
              refine hK.out _ _ ?_ (fun hHeld => ?_)
              · (try dsimp only); exact HKS.out _ HC.out
              clear hK K
              (try simp only [Act.put, List.setIfInBounds_toArray, List.set_cons_zero, List.set_cons_succ])
              refine tk 8 (v := ?_) hHeld ?_ ?_
              rotate_left 1
              · intro _ hw; (try dsimp only at hw); go_simp; try with_reducible rfl
              (try simp only [Act.put, List.setIfInBounds_toArray, List.set_cons_zero, List.set_cons_succ])
              refine wpAnyH_ready (rs := [10]) (by kernel_rfl) (by simp) ?_
              refine AllReadyH.cons (at_list rfl) (fun K hK => ?_) AllReadyH.nil
              have e0 := HLB.out.cell 0
              have e1 := HLB.out.cell 1
              have e2 := HLB.out.cell 2
              have f0 := HLB.out.frozen 0
              have f1 := HLB.out.frozen 1
              have f2 := HLB.out.frozen 2
              simp only [List.getElem?_cons_zero, List.getElem?_cons_succ] at e0 e1 e2
              go_simp
              clear hHeld e0 e1 e2 f0 f1 f2
              have HB3 := Lib.hid (((HLB.out.set 0 (.slice pa k ca)).set 1 (.slice pg k cg)).set 2 (.slice po (k + 1) co))
              have HC3 := Lib.hid (((HC.out.setCell (p := ⟨G41, 0, none⟩) (.inl HGB.out) (.slice pa k ca)).setCell (p := ⟨G41, 1, none⟩) (.inl HGB.out) (.slice pg k cg)).setCell (p := ⟨G41, 2, none⟩) (.inl HGB.out) (.slice po (k + 1) co))
              have HR3 := Lib.hid (Rs.own (own_set3 HRO.out HLB.out (by decide) (.slice pa k ca) (.slice pg k cg) (.slice po (k + 1) co)) (by rw [List.length_append, (HKG.out _ HC.out).len]; rfl)).2
              refine hK.out _ _ ?_ (fun hHeld => ?_)
              · (try dsimp only); exact HKS.out _ HC3.out
              clear hK K
              (try simp only [Act.put, List.setIfInBounds_toArray, List.set_cons_zero, List.set_cons_succ])
              refine wpAnyH_done (by kernel_rfl) ?_ _
              clear hHeld
              go_wp2_with fail
              go_meet
              exact ⟨_, po, co, rfl, HB3.out, HR3.out, HC3.out⟩
            · go_simp
              have HC2 := Lib.hid (HC.out.alloc HBS.out (.cells #[.bool sr, S mn, S md] 25 (0, 0)))
              have HBS2 := Lib.hid (show Bs ≤ (x42.alloc (.cells #[.bool sr, S mn, S md] 25 (0, 0))).heap.size by have := HBS.out; rw [World.size_alloc]; omega)
              have HST := Lib.hid ((Ch.refl x42.heap.size none1 x42).alloc (Nat.le_refl _) (.cells #[.bool sr, S mn, S md] 25 (0, 0)))
              have HOW2 := Lib.hid (own_ch HOW.out HST.out (Nat.le_refl _))
              clear HOW
              have HOW := HOW2
              clear HOW2
              have HLB2 := Lib.hid (HLB.out.alloc (.cells #[.bool sr, S mn, S md] 25 (0, 0)))
              clear HLB
              have HLB := HLB2
              clear HLB2
              have HSR := Lib.hid (Blk.new x42 #[.bool sr, S mn, S md] 25)
              clear HST
              obtain ⟨x46, hW⟩ : ∃ X, x42.alloc (.cells #[.bool sr, S mn, S md] 25 (0, 0)) = X := ⟨_, rfl⟩
              rw [hW] at HC2 HBS2 HOW HLB HSR ⊢
              clear hW
              obtain ⟨G46, hG⟩ : ∃ A, x42.heap.size = A := ⟨_, rfl⟩
              rw [hG] at HSR ⊢
              clear hG
              clear HC HBS
              have HC := HC2
              have HBS := HBS2
              clear HC2 HBS2
              clear hHeld
              refine hK.out _ _ ?_ (fun hHeld => ?_)
              · (try dsimp only); exact HKS.out _ HC.out
              clear hK K
              (try simp only [Act.put, List.setIfInBounds_toArray, List.set_cons_zero, List.set_cons_succ])
              refine wpAnyH_ready (rs := [4]) (by kernel_rfl) (by simp) ?_
              refine AllReadyH.cons (at_list rfl) (fun K hK => ?_) AllReadyH.nil
              refine step_append2 x46 (by rfl) _ _ 27 (by rfl) Bs 25 i0 (.agg #[.bool false, S [], S []]) 3 40 Tryz.underlying27 hi0 hz0 hz1 hz2 rfl (by decide) (.slice (some ⟨G42, 0, none⟩) 0 0) 0 [] (by rfl) HOW.out pg k cg (rcs (goods xs)) (by rfl) (by rw [rcs_len, (HKG.out _ HC.out).len]) (fun h => (HKG.out _ HC.out).nil h) (rs_flat (HKG.out _ HC.out)) (rcs_one _) (by unfold maxLen; omega) (by omega) HBS.out ?_
              intro u47 x47 hown hgr
              rw [Nat.zero_add, List.nil_append] at hown
              have HOW2 := Lib.hid hown
              have HC2 := Lib.hid (HC.out.trans (ch_own HBS.out HOW.out hgr))
              have HBS2 := Lib.hid (Nat.le_trans HBS.out hgr.size)
              have HSR2 := Lib.hid (blk_grown HSR.out hgr (lit_ne HOW.out HSR.out))
              clear HSR
              have HSR := HSR2
              clear HSR2
              have HLB2 := Lib.hid (blk_grown HLB.out hgr (lit_ne HOW.out HLB.out))
              clear HLB
              have HLB := HLB2
              clear HLB2
              clear hown hgr
              clear HOW
              have HOW := HOW2
              clear HOW2
              clear HC HBS
              have HC := HC2
              have HBS := HBS2
              clear HC2 HBS2
              clear hHeld
              refine hK.out _ _ ?_ (fun hHeld => ?_)
              · (try dsimp only); exact HKS.out _ HC.out
              clear hK K
              (try simp only [Act.put, List.setIfInBounds_toArray, List.set_cons_zero, List.set_cons_succ])
              refine wpAnyH_ready (rs := [7]) (by kernel_rfl) (by simp) ?_
              refine AllReadyH.cons (at_list rfl) (fun K hK => ?_) AllReadyH.nil
              refine step_append2 x47 (by rfl) _ _ 27 (by rfl) Bs 25 i0 (.agg #[.bool false, S [], S []]) 3 40 Tryz.underlying27 hi0 hz0 hz1 hz2 rfl (by decide) u47 k (rcs (goods xs)) (by rfl) HOW.out (some ⟨G46, 0, none⟩) 1 1 (rcs [(sr, mn, md)]) (by rfl) rfl (fun h => by cases h) (rs_flat (Rs.blk HSR.out rfl)) (rcs_one _) (by unfold maxLen; omega) (by omega) HBS.out ?_
              intro u48 x48 hown hgr
              have HC2 := Lib.hid (HC.out.trans (ch_own HBS.out HOW.out hgr))
              have HBS2 := Lib.hid (Nat.le_trans HBS.out hgr.size)
              have HLB2 := Lib.hid (blk_grown HLB.out hgr (type_ne HOW.out HLB.out (by decide)))
              clear HLB
              have HLB := HLB2
              clear HLB2
              rw [← rcs_append] at hown
              obtain ⟨po, co, rfl⟩ := own_val hown
              have HRO := Lib.hid hown
              clear HOW HSR hown hgr
              clear HC HBS
              have HC := HC2
              have HBS := HBS2
              clear HC2 HBS2
              clear hHeld
              refine hK.out _ _ ?_ (fun hHeld => ?_)
              · (try dsimp only); exact HKS.out _ HC.out
              clear hK K
              (try simp only [Act.put, List.setIfInBounds_toArray, List.set_cons_zero, List.set_cons_succ])
              refine tk 8 (v := ?_) hHeld ?_ ?_
              rotate_left 1
              · intro _ hw; (try dsimp only at hw); go_simp; try with_reducible rfl
              (try simp only [Act.put, List.setIfInBounds_toArray, List.set_cons_zero, List.set_cons_succ])
              refine wpAnyH_ready (rs := [10]) (by kernel_rfl) (by simp) ?_
              refine AllReadyH.cons (at_list rfl) (fun K hK => ?_) AllReadyH.nil
              have e0 := HLB.out.cell 0
              have e1 := HLB.out.cell 1
              have e2 := HLB.out.cell 2
              have f0 := HLB.out.frozen 0
              have f1 := HLB.out.frozen 1
              have f2 := HLB.out.frozen 2
              simp only [List.getElem?_cons_zero, List.getElem?_cons_succ] at e0 e1 e2
              go_simp
              clear hHeld e0 e1 e2 f0 f1 f2
              have HB3 := Lib.hid (((HLB.out.set 0 (.slice pa k ca)).set 1 (.slice pg k cg)).set 2 (.slice po (k + 1) co))
              have HC3 := Lib.hid (((HC.out.setCell (p := ⟨G41, 0, none⟩) (.inl HGB.out) (.slice pa k ca)).setCell (p := ⟨G41, 1, none⟩) (.inl HGB.out) (.slice pg k cg)).setCell (p := ⟨G41, 2, none⟩) (.inl HGB.out) (.slice po (k + 1) co))
              have HR3 := Lib.hid (Rs.own (own_set3 HRO.out HLB.out (by decide) (.slice pa k ca) (.slice pg k cg) (.slice po (k + 1) co)) (by rw [List.length_append, (HKG.out _ HC.out).len]; rfl)).2
              refine hK.out _ _ ?_ (fun hHeld => ?_)
              · (try dsimp only); exact HKS.out _ HC3.out
              clear hK K
              (try simp only [Act.put, List.setIfInBounds_toArray, List.set_cons_zero, List.set_cons_succ])
              refine wpAnyH_done (by kernel_rfl) ?_ _
              clear hHeld
              go_wp2_with fail
              go_meet
              exact ⟨_, po, co, rfl, HB3.out, HR3.out, HC3.out⟩
          · go_simp
            have HC2 := Lib.hid (HC.out.alloc HBS.out (.cells #[.bool sr, S mn, S md] 25 (0, 0)))
            have HBS2 := Lib.hid (show Bs ≤ (x41.alloc (.cells #[.bool sr, S mn, S md] 25 (0, 0))).heap.size by have := HBS.out; rw [World.size_alloc]; omega)
            have HST := Lib.hid ((Ch.refl x41.heap.size none1 x41).alloc (Nat.le_refl _) (.cells #[.bool sr, S mn, S md] 25 (0, 0)))
            have HLB2 := Lib.hid (HLB.out.alloc (.cells #[.bool sr, S mn, S md] 25 (0, 0)))
            clear HLB
            have HLB := HLB2
            clear HLB2
            have HSR := Lib.hid (Blk.new x41 #[.bool sr, S mn, S md] 25)
            clear HST
            obtain ⟨x49, hW⟩ : ∃ X, x41.alloc (.cells #[.bool sr, S mn, S md] 25 (0, 0)) = X := ⟨_, rfl⟩
            rw [hW] at HC2 HBS2 HLB HSR ⊢
            clear hW
            obtain ⟨G49, hG⟩ : ∃ A, x41.heap.size = A := ⟨_, rfl⟩
            rw [hG] at HSR ⊢
            clear hG
            clear HC HBS
            have HC := HC2
            have HBS := HBS2
            clear HC2 HBS2
            clear hHeld
            refine hK.out _ _ ?_ (fun hHeld => ?_)
            · (try dsimp only); exact HKS.out _ HC.out
            clear hK K
            (try simp only [Act.put, List.setIfInBounds_toArray, List.set_cons_zero, List.set_cons_succ])
            refine wpAnyH_ready (rs := [2]) (by kernel_rfl) (by simp) ?_
            refine AllReadyH.cons (at_list rfl) (fun K hK => ?_) AllReadyH.nil
            go_simp
            have HC2 := Lib.hid (HC.out.alloc HBS.out (.cells #[] 25 (0, 0)))
            have HBS2 := Lib.hid (show Bs ≤ (x49.alloc (.cells #[] 25 (0, 0))).heap.size by have := HBS.out; rw [World.size_alloc]; omega)
            have HST := Lib.hid ((Ch.refl x49.heap.size none1 x49).alloc (Nat.le_refl _) (.cells #[] 25 (0, 0)))
            have HSR2 := Lib.hid (HSR.out.alloc (.cells #[] 25 (0, 0)))
            clear HSR
            have HSR := HSR2
            clear HSR2
            have HLB2 := Lib.hid (HLB.out.alloc (.cells #[] 25 (0, 0)))
            clear HLB
            have HLB := HLB2
            clear HLB2
            have HOW := Lib.hid (World.ownsRow_lit (base := Bs) (e := 25) (size := 3) x49 #[] 0 HBS.out (by unfold maxLen; omega) rfl)
            clear HST
            obtain ⟨x50, hW⟩ : ∃ X, x49.alloc (.cells #[] 25 (0, 0)) = X := ⟨_, rfl⟩
            rw [hW] at HC2 HBS2 HSR HLB HOW ⊢
            clear hW
            obtain ⟨G50, hG⟩ : ∃ A, x49.heap.size = A := ⟨_, rfl⟩
            rw [hG] at HOW ⊢
            clear hG
            clear HC HBS
            have HC := HC2
            have HBS := HBS2
            clear HC2 HBS2
            clear hHeld
            refine hK.out _ _ ?_ (fun hHeld => ?_)
            · (try dsimp only); exact HKS.out _ HC.out
            clear hK K
            (try simp only [Act.put, List.setIfInBounds_toArray, List.set_cons_zero, List.set_cons_succ])
            refine wpAnyH_ready (rs := [4]) (by kernel_rfl) (by simp) ?_
            refine AllReadyH.cons (at_list rfl) (fun K hK => ?_) AllReadyH.nil
            refine step_append2 x50 (by rfl) _ _ 27 (by rfl) Bs 25 i0 (.agg #[.bool false, S [], S []]) 3 40 Tryz.underlying27 hi0 hz0 hz1 hz2 rfl (by decide) (.slice (some ⟨G50, 0, none⟩) 0 0) 0 [] (by rfl) HOW.out pg k cg (rcs (goods xs)) (by rfl) (by rw [rcs_len, (HKG.out _ HC.out).len]) (fun h => (HKG.out _ HC.out).nil h) (rs_flat (HKG.out _ HC.out)) (rcs_one _) (by unfold maxLen; omega) (by omega) HBS.out ?_
            intro u51 x51 hown hgr
            rw [Nat.zero_add, List.nil_append] at hown
            have HOW2 := Lib.hid hown
            have HC2 := Lib.hid (HC.out.trans (ch_own HBS.out HOW.out hgr))
            have HBS2 := Lib.hid (Nat.le_trans HBS.out hgr.size)
            have HSR2 := Lib.hid (blk_grown HSR.out hgr (lit_ne HOW.out HSR.out))
            clear HSR
            have HSR := HSR2
            clear HSR2
            have HLB2 := Lib.hid (blk_grown HLB.out hgr (lit_ne HOW.out HLB.out))
            clear HLB
            have HLB := HLB2
            clear HLB2
            clear hown hgr
            clear HOW
            have HOW := HOW2
            clear HOW2
            clear HC HBS
            have HC := HC2
            have HBS := HBS2
            clear HC2 HBS2
            clear hHeld
            refine hK.out _ _ ?_ (fun hHeld => ?_)
            · (try dsimp only); exact HKS.out _ HC.out
            clear hK K
            (try simp only [Act.put, List.setIfInBounds_toArray, List.set_cons_zero, List.set_cons_succ])
            refine wpAnyH_ready (rs := [7]) (by kernel_rfl) (by simp) ?_
            refine AllReadyH.cons (at_list rfl) (fun K hK => ?_) AllReadyH.nil
            refine step_append2 x51 (by rfl) _ _ 27 (by rfl) Bs 25 i0 (.agg #[.bool false, S [], S []]) 3 40 Tryz.underlying27 hi0 hz0 hz1 hz2 rfl (by decide) u51 k (rcs (goods xs)) (by rfl) HOW.out (some ⟨G49, 0, none⟩) 1 1 (rcs [(sr, mn, md)]) (by rfl) rfl (fun h => by cases h) (rs_flat (Rs.blk HSR.out rfl)) (rcs_one _) (by unfold maxLen; omega) (by omega) HBS.out ?_
            intro u52 x52 hown hgr
            have HC2 := Lib.hid (HC.out.trans (ch_own HBS.out HOW.out hgr))
            have HBS2 := Lib.hid (Nat.le_trans HBS.out hgr.size)
            have HLB2 := Lib.hid (blk_grown HLB.out hgr (type_ne HOW.out HLB.out (by decide)))
            clear HLB
            have HLB := HLB2
            clear HLB2
            rw [← rcs_append] at hown
            obtain ⟨po, co, rfl⟩ := own_val hown
            have HRO := Lib.hid hown
            clear HOW HSR hown hgr
            clear HC HBS
            have HC := HC2
            have HBS := HBS2
            clear HC2 HBS2
            clear hHeld
            refine hK.out _ _ ?_ (fun hHeld => ?_)
            · (try dsimp only); exact HKS.out _ HC.out
            clear hK K
            (try simp only [Act.put, List.setIfInBounds_toArray, List.set_cons_zero, List.set_cons_succ])
            refine tk 8 (v := ?_) hHeld ?_ ?_
            rotate_left 1
            · intro _ hw; (try dsimp only at hw); go_simp; try with_reducible rfl
            (try simp only [Act.put, List.setIfInBounds_toArray, List.set_cons_zero, List.set_cons_succ])
            refine wpAnyH_ready (rs := [10]) (by kernel_rfl) (by simp) ?_
            refine AllReadyH.cons (at_list rfl) (fun K hK => ?_) AllReadyH.nil
            have e0 := HLB.out.cell 0
            have e1 := HLB.out.cell 1
            have e2 := HLB.out.cell 2
            have f0 := HLB.out.frozen 0
            have f1 := HLB.out.frozen 1
            have f2 := HLB.out.frozen 2
            simp only [List.getElem?_cons_zero, List.getElem?_cons_succ] at e0 e1 e2
            go_simp
            clear hHeld e0 e1 e2 f0 f1 f2
            have HB3 := Lib.hid (((HLB.out.set 0 (.slice pa k ca)).set 1 (.slice pg k cg)).set 2 (.slice po (k + 1) co))
            have HC3 := Lib.hid (((HC.out.setCell (p := ⟨G41, 0, none⟩) (.inl HGB.out) (.slice pa k ca)).setCell (p := ⟨G41, 1, none⟩) (.inl HGB.out) (.slice pg k cg)).setCell (p := ⟨G41, 2, none⟩) (.inl HGB.out) (.slice po (k + 1) co))
            have HR3 := Lib.hid (Rs.own (own_set3 HRO.out HLB.out (by decide) (.slice pa k ca) (.slice pg k cg) (.slice po (k + 1) co)) (by rw [List.length_append, (HKG.out _ HC.out).len]; rfl)).2
            refine hK.out _ _ ?_ (fun hHeld => ?_)
            · (try dsimp only); exact HKS.out _ HC3.out
            clear hK K
            (try simp only [Act.put, List.setIfInBounds_toArray, List.set_cons_zero, List.set_cons_succ])
            refine wpAnyH_done (by kernel_rfl) ?_ _
            clear hHeld
            go_wp2_with fail
            go_meet
            exact ⟨_, po, co, rfl, HB3.out, HR3.out, HC3.out⟩
      case rest =>
        obtain ⟨g, p3, c3, rfl, hb, hr, hC⟩ := hcut
        have HCX := Lib.hid hC
        have hbw : Bs ≤ wc.heap.size := by have := hC.size; rw [HBSS.out] at this; exact this
        have HBW := Lib.hid hbw
        have HI := Lib.hid (show ∀ i : Nat, i < 3 → ∃ (p : Option Addr) (n c : Nat) (L : List T3), (∀ W', Ch wc.heap.size none1 wc W' → W'.cell? ⟨g, i, none⟩ = some (.slice p n c) ∧ Rs W' p n L ∧ Tb W') ∧ n ≤ 13 ∧ ∀ t ∈ L, t.2.1.length ≤ 16 ∧ t.2.2.length ≤ 16 from by
          have hTB : ∀ W', Ch wc.heap.size none1 wc W' → Tb W' := fun W' h => HT.out.ch (HFN.out _ (HCX.out.trans (h.mono HBW.out (fun _ _ q => q))))
          intro i hi
          rcases (show i = 0 ∨ i = 1 ∨ i = 2 by omega) with rfl | rfl | rfl
          · exact ⟨pa, k, ca, _, fun W' h => ⟨(h.blk hb hb.lt (fun q => q)).cell 0, (HKA.out _ HCX.out).ch h, hTB W' h⟩, by omega, fun t ht => (made3_right ht).2⟩
          · exact ⟨pg, k, cg, _, fun W' h => ⟨(h.blk hb hb.lt (fun q => q)).cell 1, (HKG.out _ HCX.out).ch h, hTB W' h⟩, by omega, fun t ht => (goods_right ht).2.2⟩
          · exact ⟨p3, k + 1, c3, _, fun W' h => ⟨(h.blk hb hb.lt (fun q => q)).cell 2, hr.ch h, hTB W' h⟩, by omega, fun t ht => by
              rcases List.mem_append.1 ht with h1 | h1
              · exact (goods_right h1).2.2
              · obtain rfl := List.mem_singleton.1 h1
                exact ⟨by show mn.length ≤ 16; omega, by show md.length ≤ 16; omega⟩⟩)
        have HGX := Lib.hid (show ∀ W', Ch wc.heap.size none1 wc W' → Rs W' pg k (goods xs) ∧ Tb W' ∧ Ch w.heap.size none1 w W' from fun W' h => ⟨(HKG.out _ HCX.out).ch h, HT.out.ch (HFN.out _ (HCX.out.trans (h.mono HBW.out (fun _ _ q => q)))), HFN.out _ (HCX.out.trans (h.mono HBW.out (fun _ _ q => q)))⟩)
        clear hb hr hC hbw HKA HKG HKS HFN HCX
        go_wp2_with fail
        go_loopw [11] (fun i wr => ∃ j : Nat, j ≤ 3 ∧ i = .int .i64 j ∧ Ch wc.heap.size none1 wc wr) (fun i _ => 3 - (intOf i).toNat)
        case atStart => exact ⟨0, Nat.zero_le _, rfl, Ch.refl _ _ _⟩
        case round =>
          obtain ⟨j, hj, rfl, hC⟩ := hrel
          have HC := Lib.hid hC
          clear hC
          by_cases hlt : j < 3
          · obtain ⟨p, n, c, L, hF, hn, hs⟩ := HI.out j hlt
            have HF := Lib.hid hF
            have HS := Lib.hid hs
            clear hF hs
            have hji : 0 ≤ (j : Int) ∧ (j : Int) < 3 := by omega
            obtain ⟨DD, hDD⟩ : ∃ x, comD L = x := ⟨_, rfl⟩
            obtain ⟨NN, hNN⟩ : ∃ x, comN L = x := ⟨_, rfl⟩
            obtain ⟨ok, hok⟩ : ∃ x, comOk L = x := ⟨_, rfl⟩
            have H1 := Lib.hid (fun W (h : Ch wc.heap.size none1 wc W) => Common_any L p n c W (HF.out W h).2.1 (HF.out W h).2.2 hn HS.out)
            have H2 := Lib.hid (fun W (h : Ch wc.heap.size none1 wc W) => rCommon_any L p n c W (HF.out W h).2.1 hn HS.out)
            unfold Yc at H1 H2
            rw [hDD, hNN, hok] at H1 H2
            have hlen : NN.length ≤ 1000 := by
              rw [← hNN]
              unfold comN
              split
              · rw [List.length_map, (HF.out _ HC.out).2.1.len]; omega
              · simp
            clear hDD hNN hok
            obtain ⟨cs, _, _⟩ := HF.out _ HC.out
            go_wp2_with fail
            refine (H1.out _ HC.out).mono ?_
            rintro e wa ⟨p1, n1, c1, rfl, hv1, hCa⟩
            have HCa := Lib.hid (HC.out.step0 hCa (Nat.le_refl _))
            have HV1 := Lib.hid hv1
            clear hCa hv1 cs HC
            obtain ⟨cs, _, _⟩ := HF.out _ HCa.out
            go_wp2_with fail
            refine (H2.out _ HCa.out).mono ?_
            rintro e wb ⟨p2, n2, c2, rfl, hv2, hCb⟩
            have HCb := Lib.hid (HCa.out.step0 hCb (Nat.le_refl _))
            obtain rfl : n2 = n1 := by rw [← hv2.len, ← HV1.out.len]
            have hl1 : n2 ≤ 1000 := by rw [← hv2.len, List.length_map]; exact hlen
            have HSM := Lib.hid (same_true wb p1 p2 n2 c1 c2 NN (HV1.out.ch hCb) hv2 hl1)
            clear hCb hv2 cs HCa HV1
            go_wp2_with fail
            refine HSM.out.mono ?_
            rintro e wd ⟨rfl, hCd⟩
            have HCd := Lib.hid (HCb.out.step0 hCd (Nat.le_refl _))
            clear hCd
            go_wp2_with fail
            go_roundw
            case rel => exact ⟨j + 1, by omega, by go_num, HCd.out⟩
            case measure => simp [intOf] <;> omega
          · obtain rfl : j = 3 := by omega
            clear hlt hj HI
            obtain ⟨g1, g2⟩ := goods_ok xs
            obtain ⟨y1, y2, y3⟩ := com_yes g1 g2
            obtain ⟨DD, hDD⟩ : ∃ x, comD (goods xs) = x := ⟨_, rfl⟩
            obtain ⟨NN, hNN⟩ : ∃ x, comN (goods xs) = x := ⟨_, rfl⟩
            have H1 := Lib.hid (Common_any (goods xs) pg k cg wr (HGX.out _ HC.out).1 (HGX.out _ HC.out).2.1 (by omega) (fun t ht => (goods_right ht).2.2))
            unfold Yc at H1
            rw [hDD, hNN, y1] at H1
            rw [hDD] at y2
            rw [hNN] at y3
            have HD2 := Lib.hid y2
            have HN3 := Lib.hid y3
            have HDL := Lib.hid (dens_lt 16 (goods xs) (fun t ht => by
              obtain ⟨a1, a2, a3, a4⟩ := goods_right ht
              obtain ⟨b1, b2, b3, _⟩ := (rightR_iff _ _ _).1 a2
              exact ⟨rt_pos b2 b3, a4⟩))
            clear g1 g2 y1 y2 y3 hDD hNN
            go_wp2_with fail
            refine H1.out.mono ?_
            rintro e V4 ⟨pn, nn, cn, rfl, hv, hCv⟩
            have HC4 := Lib.hid (HC.out.step0 hCv (Nat.le_refl _))
            have HVN := Lib.hid hv
            have hnl : nn = k := by rw [← hv.len, HN3.out, List.length_map, List.length_map]; exact (HGX.out _ HC.out).1.len
            subst hnl
            clear hCv hv H1 HC
            have HO0 := Lib.hid (C_Of 0 (k := []) (by omega) (by omega) nb_zero)
            go_wp2_with fail
            refine (HO0.out _).mono ?_
            rintro e V5 ⟨rfl, hCv⟩
            have HC5 := Lib.hid (HC4.out.step0 hCv (Nat.le_refl _))
            have HVN5 := Lib.hid (HVN.out.ch hCv)
            clear hCv HC4 HVN HO0
            have hbs := Blk.new V5 #[.bool false, S [], S [1]] 25
            have HBS0 := Lib.hid hbs
            have HCS := Lib.hid ((Ch.refl V5.heap.size none1 V5).alloc (Nat.le_refl _) (.cells #[.bool false, S [], S [1]] 25))
            clear hbs
            go_wp2_with fail
            obtain ⟨V6, hV6⟩ : ∃ X, V5.alloc (.cells #[.bool false, S [], S [1]] 25 (0, 0)) = X := ⟨_, rfl⟩
            rw [hV6] at HBS0 HCS ⊢
            obtain ⟨gs, hgs⟩ : ∃ A, V5.heap.size = A := ⟨_, rfl⟩
            rw [hgs] at HBS0 HCS ⊢
            have HGS := Lib.hid hgs
            clear hV6 hgs
            have hp0 : pt (rsum (((goods xs).take 0).map rof)) = (false, [], [1]) := pt_of (by show Is (0 : Rat) false [] [1]; exact Is.zero)
            have HP0 := Lib.hid hp0
            clear hp0
            go_loopw [22] (fun i wr => ∃ (j : Nat) (t : T3), j ≤ nn ∧ i = .int .i64 j ∧ pt (rsum (((goods xs).take j).map rof)) = t ∧ Blk wr gs 25 (rc t) ∧ Ch gs none1 V5 wr) (fun i _ => nn - (intOf i).toNat)
            case atStart => exact ⟨0, (false, [], [1]), Nat.zero_le _, rfl, HP0.out, HBS0.out, HCS.out⟩
            case round =>
              obtain ⟨j, t, hj, rfl, hpt, hbk, hC⟩ := hrel
              have HP := Lib.hid hpt
              have HBK := Lib.hid hbk
              have HCJ := Lib.hid hC
              have hgl : gs < wr.heap.size := hbk.lt
              have HSZ := Lib.hid (sum_len (l := goods xs) j (by omega) (fun t ht => (goods_right ht).2.2))
              clear hpt hbk hC
              have HGJ := Lib.hid (show ∀ W', Ch gs none1 V5 W' → Rs W' pg nn (goods xs) ∧ Tb W' ∧ Ch w.heap.size none1 w W' from fun W' h => HGX.out _ (HC5.out.step0 (by rw [HGS.out]; exact h) (Nat.le_refl _)))
              obtain ⟨s1, n1, d1⟩ := t
              by_cases hlt2 : j < nn
              · obtain ⟨g, o, rfl⟩ := (HGJ.out _ HCJ.out).1.addr (by omega)
                obtain ⟨gn, on, rfl⟩ := HVN5.out.addr (by omega)
                obtain ⟨t, ht⟩ : ∃ t, (goods xs)[j]? = some t := ⟨(goods xs)[j]'(by rw [(HGJ.out _ HCJ.out).1.len]; exact hlt2), List.getElem?_eq_getElem _⟩
                have hmem := List.mem_of_getElem? ht
                obtain ⟨r0, r1, r2, r3⟩ := goods_right hmem
                have hrs := rsum_take ht
                have hnj : (NN.map S)[j]? = some (S (nb (bv t.2.1 * (dens (goods xs) / bv t.2.2)))) := by rw [HN3.out, List.map_map, List.getElem?_map, ht]; rfl
                have HGE := Lib.hid (show ∀ W', Ch gs none1 V5 W' → W'.cell? ⟨g, o + j * 3, none⟩ = some (.bool t.1) ∧ W'.cell? ⟨g, o + j * 3 + 1, none⟩ = some (S t.2.1) ∧ W'.cell? ⟨g, o + j * 3 + 2, none⟩ = some (S t.2.2) from fun W' h => (HGJ.out W' h).1.get ht)
                have HNE := Lib.hid (show ∀ W', Ch gs none1 V5 W' → W'.cell? ⟨gn, on + j, none⟩ = some (S (nb (bv t.2.1 * (dens (goods xs) / bv t.2.2)))) from fun W' h => (HVN5.out.ch (by rw [HGS.out]; exact h)).get hnj)
                obtain ⟨s0, n0, d0⟩ := t
                simp only at r0 r1 r2 r3 hrs HGE HNE
                subst r0
                obtain ⟨x, hx⟩ : ∃ x, nb (bv n0 * (dens (goods xs) / bv d0)) = x := ⟨_, rfl⟩
                have hw := whole_is hmem r1 HDL.out.1
                rw [hx] at HNE hw
                rw [← HD2.out] at hw
                obtain ⟨M, hM⟩ : ∃ M, M = 300 := ⟨_, rfl⟩
                have hdb : dens (goods xs) < 256 ^ M := Nat.lt_of_le_of_lt HDL.out.2 (Nat.pow_lt_pow_right (by decide) (by rw [(HGJ.out _ HCJ.out).1.len]; omega))
                have ldd := nbl' M HD2.out.symm hdb
                have lx := nbl' (16 + M) hx (mulb (bv_b r2) (div_lt' hdb))
                have hmk := C_Make (s := false) (n := x) (d := DD) (by omega) (by omega) (by rw [← hx]; exact rt_nb _) (by rw [HD2.out]; exact rt_nb _) (fun q => by
                  have h1 := HDL.out.1
                  rw [← bv_nb (dens (goods xs)), ← HD2.out, q] at h1
                  exact absurd h1 (by decide)) hw
                have H2 := Lib.hid hmk
                have hsz := HSZ.out
                rw [HP.out] at hsz
                obtain ⟨hm1, hm2⟩ : n1.length ≤ 205 ∧ d1.length ≤ 205 := hsz
                obtain ⟨t2, ht2⟩ : ∃ t2, pt (rsum (((goods xs).take (j + 1)).map rof)) = t2 := ⟨_, rfl⟩
                obtain ⟨s2, n2, d2⟩ := t2
                have hadd := C_Add (s := s1) (n := n1) (d := d1) (t := false) (m := n0) (e := d0) (r := s2) (k := n2) (f := d2) (by omega) (by omega) (by omega) (by omega) (show ratOf s1 n1 d1 = rsum (((goods xs).take j).map rof) by
                  have := pt_is (rsum (((goods xs).take j).map rof))
                  rw [HP.out] at this
                  exact ratOf_is this) rfl (by
                  have h1 := pt_is (rsum (((goods xs).take (j + 1)).map rof))
                  rw [ht2, hrs] at h1
                  exact h1)
                have H3 := Lib.hid hadd
                have HT2 := Lib.hid ht2
                clear hmk hadd hm1 hm2 ht2 hrs hw hx hdb hM ldd lx hnj ht hmem r1 r2 r3
                have nx0 := HNE.out _ HCJ.out
                go_wp2_with fail
                refine (H2.out _).mono ?_
                rintro e wa ⟨rfl, hCa⟩
                have HCa := Lib.hid (HCJ.out.trans (hCa.mono (Nat.le_of_lt hgl) (fun _ _ q => q)))
                have HBa := Lib.hid (hCa.blk HBK.out hgl (fun q => q))
                have hga : gs < wa.heap.size := Nat.lt_of_lt_of_le hgl hCa.size
                clear hCa nx0 HCJ HBK
                have HC6 := Lib.hid (HCa.out.alloc (Nat.le_of_lt hga) (.cells #[.bool false, S n0, S d0] 25))
                have HB6 := Lib.hid (HBa.out.alloc (.cells #[.bool false, S n0, S d0] 25))
                have HX6 := Lib.hid (Blk.new wa #[.bool false, S n0, S d0] 25)
                have hgn : wa.heap.size ≠ gs := by omega
                go_wp2_with fail
                obtain ⟨wb, hwb⟩ : ∃ X, wa.alloc (.cells #[.bool false, S n0, S d0] 25 (0, 0)) = X := ⟨_, rfl⟩
                rw [hwb] at HC6 HB6 HX6 ⊢
                obtain ⟨gx, hgx⟩ : ∃ A, wa.heap.size = A := ⟨_, rfl⟩
                rw [hgx] at HX6 hgn ⊢
                clear hwb hgx
                obtain ⟨c0, c1, c2⟩ := HGE.out _ HC6.out
                have x0 := HX6.out.cell 0
                have x1 := HX6.out.cell 1
                have x2 := HX6.out.cell 2
                simp only [List.getElem?_cons_zero, List.getElem?_cons_succ] at x0 x1 x2
                have hji : 0 ≤ (j : Int) ∧ (j : Int) < (nn : Int) := by omega
                go_quiet (fail)
                have HC7 := Lib.hid (HC6.out.drewN nq)
                have HB7 := Lib.hid (HB6.out.drewN nq)
                have HX7 := Lib.hid (HX6.out.drewN nq)
                clear x0 x1 x2 c0 c1 c2 HC6 HB6 HX6
                obtain ⟨wd, hwd⟩ : ∃ X, wb.drewN nq = X := ⟨_, rfl⟩
                rw [hwd] at HC7 HB7 HX7 ⊢
                clear hwd
                have x0 := HX7.out.cell 0
                have x1 := HX7.out.cell 1
                have x2 := HX7.out.cell 2
                have y0 := HB7.out.cell 0
                have y1 := HB7.out.cell 1
                have y2 := HB7.out.cell 2
                unfold rc at y0 y1 y2
                simp only [List.getElem?_cons_zero, List.getElem?_cons_succ] at x0 x1 x2 y0 y1 y2
                have hgd : gs < wd.heap.size := HB7.out.lt
                go_wp2_with fail
                refine (H3.out _ (HGJ.out _ HC7.out).2.1).mono ?_
                rintro e we ⟨rfl, hCe⟩
                have HCe := Lib.hid (HC7.out.trans (hCe.mono (Nat.le_of_lt hgd) (fun _ _ q => q)))
                have HBe := Lib.hid (hCe.blk HB7.out hgd (fun q => q))
                clear hCe x0 x1 x2 y0 y1 y2
                have y0 := HBe.out.cell 0
                have y1 := HBe.out.cell 1
                have y2 := HBe.out.cell 2
                have f0 := HBe.out.frozen 0
                have f1 := HBe.out.frozen 1
                have f2 := HBe.out.frozen 2
                unfold rc at y0 y1 y2
                simp only [List.getElem?_cons_zero, List.getElem?_cons_succ] at y0 y1 y2
                go_wp2_with fail
                have HBz := Lib.hid (((HBe.out.set 0 (.bool s2)).set 1 (S n2)).set 2 (S d2))
                have HCz := Lib.hid (((HCe.out.setCell (p := ⟨gs, 0, none⟩) (.inl (Nat.le_refl _)) (.bool s2)).setCell (p := ⟨gs, 1, none⟩) (.inl (Nat.le_refl _)) (S n2)).setCell (p := ⟨gs, 2, none⟩) (.inl (Nat.le_refl _)) (S d2))
                go_roundw
                case rel => exact ⟨j + 1, (s2, n2, d2), by omega, by go_num, HT2.out, HBz.out, HCz.out⟩
                case measure => simp [intOf]; omega
              · obtain rfl : j = nn := by omega
                have hsm := HP.out
                rw [List.take_of_length_le (by rw [(HGJ.out _ HCJ.out).1.len]; exact Nat.le_refl _)] at hsm
                have H4 := Lib.hid (fun W (h : Ch gs none1 V5 W) => C_Sum 16 W pg j cg (goods xs) (HGJ.out W h).1 (HGJ.out W h).2.1 (by omega) (by omega) (by omega) (by omega) (fun t ht => (goods_right ht).2.2))
                rw [hsm] at H4
                clear hsm
                go_wp2_with fail
                have HB9 := Lib.hid (HBK.out.drew)
                have HC9 := Lib.hid (HCJ.out.drew)
                clear HBK HCJ
                have HCL := Lib.hid (show ∀ W, Blk W gs 25 (rc (s1, n1, d1)) → W.cell? ⟨gs, 0, none⟩ = some (.bool s1) ∧ W.cell? ⟨gs, 1, none⟩ = some (S n1) ∧ W.cell? ⟨gs, 2, none⟩ = some (S d1) from fun W h => ⟨h.cell 0, h.cell 1, h.cell 2⟩)
                go_region_held3 (fun w' => w'.cell? ⟨gs, 0, none⟩ = some (.bool s1) ∧ w'.cell? ⟨gs, 1, none⟩ = some (S n1) ∧ w'.cell? ⟨gs, 2, none⟩ = some (S d1))
                  (first
                    | (with_reducible exact HCL.out _ HB9.out)
                    | go_keep)
                  (first
                    | (go_at_call 12; (with_reducible refine (H4.out _ HC9.out).mono ?_); rintro e wq ⟨rfl, hCq⟩; have HC2 := Lib.hid (HC9.out.trans (hCq.mono (Nat.le_of_lt HB9.out.lt) (fun _ _ q => q))); have HB2 := Lib.hid (hCq.blk HB9.out HB9.out.lt (fun q => q)); clear hCq HC9 HB9; have HC9 := HC2; have HB9 := HB2; clear HC2 HB2))
                go_wp2_with fail
                go_ret
                exact ⟨by simp, (HGJ.out _ HC9.out).2.2⟩
end Go.Proofs.YtbpoghgokkpckaaGreatDoor
