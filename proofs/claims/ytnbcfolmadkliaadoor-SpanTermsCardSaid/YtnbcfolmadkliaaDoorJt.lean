/- SpanTerms: the walk. -/
import Derived.Test.YtnbcfolmadkliaaDoorJc
import Derived.Test.YtnbcfolmadkliaaDoorSw
import Derived.Test.YtnbcfolmadkliaaDoorSy
import Derived.Test.YtnbcfolmadkliaaDoorSz
namespace Go.Proofs.YtnbcfolmadkliaaDoor
open Go.RowKit Go.Shelf
theorem Kr.cells4 {w W : World} {L : List Ent} (h : Kr w W L) {g : Nat} {a b c d : Int} (hm : (some ⟨g, 0, none⟩, 2, [(a, b), (c, d)]) ∈ L) : W.cell? ⟨g, 0, none⟩ = some (iz a) ∧ W.cell? ⟨g, 1, none⟩ = some (iz b) ∧ W.cell? ⟨g, 2, none⟩ = some (iz c) ∧ W.cell? ⟨g, 3, none⟩ = some (iz d) := by
  have h0 := (h.rd _ hm).sp (i := 0) (a := a) (b := b) rfl
  have h1 := (h.rd _ hm).sp (i := 1) (a := c) (b := d) rfl
  simp at h0 h1
  exact ⟨h0.1, h0.2, h1.1, h1.2⟩
theorem Count9 {a : List Spn.Sp} {pa : Option Addr} {na ca : Nat} {s n : Int} {w : World} {V : Value} (ha : Rd spc 2 w pa na a) (hna : na ≤ 9) (hs : 0 ≤ s ∧ s ≤ 3652058) (hn : -1 ≤ n ∧ n ≤ 100) (h : cenV (Spn.has a) s n = V) :
    Calls Tryd.prog 17 #[.slice pa na ca, iz s, iz n] w (Ya w V) := by
  have := Count_any a pa na ca s n w ha (by omega) (by omega) (by omega)
  rwa [h] at this
/-- 'append' of a slice, nil or not, to a slice of one's own, at a step of a region that draws its order. -/
theorem step_append2 {P : Program} (w : World) {ops : Array Oper} {o : Oper} {a : Act} {K : Act → World → Prop} {Q : Exit → Act → World → Prop} {E : Prop} (hgd : o.guard = none) (s x : Operand) (t : TypeId)
    (ho : o.op = .call { callee := .builtin .append, args := #[s, x], argTypes := #[t, t] })
    (base : Nat) (e : TypeId) (i : TypeInfo) (z : Value) (size bytes : Nat) (ht : P.underlying t = some (.slice e)) (hi : P.info? e = some i) (hz : i.zero = some z)
    (hsize : i.size = size) (hby : i.bytes = bytes) (hzs : z.cells.size = size) (hsz : 0 < size)
    (v : Value) (n : Nat) (xs : List Value) (hs : a.eval s = v) (hown : w.ownsRow base e size v n xs)
    (ao : Option Addr) (m c : Nat) (news : List Value) (hx : a.eval x = .slice ao m c) (hl : news.length = m * size) (hnone : ao = none → m = 0) (hnews : ∀ ad, ao = some ad → ∀ j u, news[j]? = some u → w.cell? (ad.add j) = some u) (h1 : ∀ u ∈ news, u.oneCell' = true)
    (h63 : n + m ≤ maxLen) (hbytes : (n + m) * bytes ≤ 140737488355328) (hbase : base ≤ w.heap.size)
    (h : ∀ v' w', w'.ownsRow base e size v' (n + m) (xs ++ news) → w.grownBy w' v.ownBlock → K (a.put o.dst v') w') :
    if Region.wanted o (yielded ops a.tmps) = true then Oper.wp P o a w K Q else E := by
  have hw : Region.wanted o (yielded ops a.tmps) = true := by simp [Region.wanted, hgd]
  rw [if_pos hw]
  cases ao with
  | some ad => exact wp_append_own w s x t ho base e i z size bytes ht hi hz hsize hby hzs hsz v n xs hs hown ad m c news hx hl (hnews ad rfl) h1 h63 hbytes hbase fun v' w' h2 h3 _ => h v' w' h2 h3
  | none =>
    obtain rfl := hnone rfl
    have hnews' : news = [] := List.eq_nil_of_length_eq_zero (by omega)
    subst hnews'
    have hrun : (Builtin.append_ #[t, t] o.type #[v, .slice none 0 c]).run P w = .ok v w := by
      rcases hown.2 with ⟨rfl, rfl⟩ | ⟨g, cap, cur, rfl, _, _, hnc, _⟩
      · simp [Builtin.append_, run_underlying ht, sizeOf, typeInfo, hi, Builtin.lenOf, Builtin.firstCells]
      · simp [Builtin.append_, run_underlying ht, sizeOf, typeInfo, hi, Builtin.lenOf, Builtin.firstCells, hnc, storeCells]
    unfold Oper.wp
    simp [execOp, ho, resolve, invoke, builtin, hs, hx, hrun, Result.andThen]
    exact h v w (by simpa using hown) (World.grownBy.refl _ _)
theorem sp_flat2 {w : World} {p : Option Addr} {n : Nat} {l : List Spn.Sp} (h : Rd spc 2 w p n l) : ∀ ad, p = some ad → ∀ (j : Nat) (u : Value), (l.flatMap spc)[j]? = some u → w.cell? (ad.add j) = some u := by
  rintro ⟨g, o, s⟩ rfl j u hj
  obtain rfl : s = none := (h.at' _ rfl).1
  exact sp_flat h l.length j u (by rwa [List.take_length])
theorem rd_grown {w w' : World} {p : Option Addr} {n : Nat} {l : List Spn.Sp} {g : Nat} (h : Rd spc 2 w p n l) (hn : 0 < n) {B : Nat} {e : TypeId} (ho : w.ownsRow B e 2 (.slice (some ⟨g, 0, none⟩) 0 0) 0 []) (hg : w.grownBy w' (Value.ownBlock (.slice (some ⟨g, 0, none⟩) 0 0))) : Rd spc 2 w' p n l := by
  refine h.chR (R := fun k => k = g) ⟨hg.os, hg.tape, hg.output, hg.size, fun k hk hr => hg.block k hk (fun q => hr (Option.some.inj q))⟩ fun a ha e => ?_
  obtain ⟨g', o', rfl, _⟩ := h.addr hn
  obtain rfl := Option.some.inj ha
  obtain rfl : g' = g := e
  obtain ⟨x, hx⟩ : ∃ x, l[0]? = some x := ⟨l[0]'(by rw [h.len]; exact hn), List.getElem?_eq_getElem _⟩
  have hc := h.get hx 0 (v := iz x.1) rfl
  rcases ho.2 with ⟨hv, _⟩ | ⟨g2, cap, cur, hv, _, hh, _, _, hs, _⟩
  · cases hv
  · simp only [Value.slice.injEq, Option.some.injEq, Addr.mk.injEq, and_true, true_and] at hv
    obtain ⟨rfl, rfl⟩ := hv
    have h0 : cur = #[] := Array.eq_empty_of_size_eq_zero (by omega)
    rw [World.cell?, hh] at hc
    simp [h0] at hc
theorem made1 (x : Int × Int) : (made [x]).length = 1 := rfl
set_option maxRecDepth 100000 in
set_option maxHeartbeats 8000000 in
theorem terms_core (xs : List (Int × Int)) (px : Option Addr) (nx cx : Nat) (m0 m1 n0 n1 n2 n3 : Int) (w : World) (hx : Ra w px nx xs) (hnx : nx ≤ 9223372036854775807) (ht : LenIs w) :
    Calls Tryd.prog 5 #[.slice px nx cx, .agg #[iz m0, iz m1], .agg #[iz n0, iz n1, iz n2, iz n3]] w (Ya w (.bool true)) := by
  have HX := Lib.hid hx
  clear hx
  obtain ⟨i0, hi0, hz0, hz1, hz2⟩ := info_parts sp_info
  have HM0 := Lib.hid (fun W => Mod_any n3 100 (by omega) (by omega) W)
  have hr0 : 0 ≤ n3 % 100 ∧ n3 % 100 < 100 := by omega
  obtain ⟨s0, hq0⟩ : ∃ q, n3 % 100 = q := ⟨_, rfl⟩
  rw [hq0] at HM0 hr0
  clear hq0
  have HM1 := Lib.hid (fun W => Mod_any n0 40 (by omega) (by omega) W)
  have hr1 : 0 ≤ n0 % 40 ∧ n0 % 40 < 40 := by omega
  obtain ⟨pp, hq1⟩ : ∃ q, n0 % 40 = q := ⟨_, rfl⟩
  rw [hq1] at HM1 hr1
  clear hq1
  have HM2 := Lib.hid (fun W => Mod_any n1 40 (by omega) (by omega) W)
  have hr2 : 0 ≤ n1 % 40 ∧ n1 % 40 < 40 := by omega
  obtain ⟨qq, hq2⟩ : ∃ q, n1 % 40 = q := ⟨_, rfl⟩
  rw [hq2] at HM2 hr2
  clear hq2
  have HM3 := Lib.hid (fun W => Mod_any n2 40 (by omega) (by omega) W)
  have hr3 : 0 ≤ n2 % 40 ∧ n2 % 40 < 40 := by omega
  obtain ⟨tt, hq3⟩ : ∃ q, n2 % 40 = q := ⟨_, rfl⟩
  rw [hq3] at HM3 hr3
  clear hq3
  obtain ⟨me, ee, le, re, E1, E2, E3, E4, E5, o1, o2, o3⟩ := terms_all xs [(m0, m1)] hr0 hr1 hr2 hr3
  have b1 := E1.lo
  have b2 := E1.hi
  have C1 := Lib.hid (cenV_some (by omega) E1)
  have C2 := Lib.hid (cenV_some (by omega) E2)
  have C3 := Lib.hid (cenV_some (by omega) E3)
  have C4 := Lib.hid (cenV_some (by omega) E4)
  have C5 := Lib.hid (cenV_some (by omega) E5)
  have b3 : -2000 ≤ ee ∧ ee ≤ 3652059 := by have := E3.lo; have := E3.hi; omega
  have b4 : -2000 ≤ le ∧ le ≤ 3652059 := by have := E4.lo; have := E4.hi; omega
  have b5 : -2000 ≤ re ∧ re ≤ 3652059 := by have := E5.lo; have := E5.hi; omega
  clear E1 E2 E3 E4 E5
  obtain ⟨pq, hpq⟩ : ∃ x, pp + qq = x := ⟨_, rfl⟩
  rw [hpq] at C3
  obtain ⟨st, hst⟩ : ∃ x, s0 + tt = x := ⟨_, rfl⟩
  rw [hst] at C4
  have hpqr : 0 ≤ pq ∧ pq < 80 := by omega
  have hstr : 0 ≤ st ∧ st < 140 := by omega
  have HT := Lib.hid ht
  have HK := Lib.hid (Kr.nil w)
  clear ht
  go_enter Tryd.func5, Tryd.ntmps5
  go_wp2_with fail
  have HK2 := HK.out.new [(m0, m1)] 38
  have HK2 := Lib.hid (HK2.new [(n0, n1), (n2, n3)] 39)
  rw [World.size_alloc] at HK2
  obtain ⟨w0, hW⟩ : ∃ W, (w.alloc (.cells #[iz m0, iz m1] 38 (0, 0))).alloc (.cells #[iz n0, iz n1, iz n2, iz n3] 39 (0, 0)) = W := ⟨_, rfl⟩
  obtain ⟨g, hA⟩ : ∃ A, w.heap.size = A := ⟨_, rfl⟩
  have HK3 := Lib.hid (show Kr w w0 [(some ⟨g + 1, 0, none⟩, 2, [(n0, n1), (n2, n3)]), (some ⟨g, 0, none⟩, 1, [(m0, m1)])] by rw [← hW, ← hA]; exact HK2.out)
  rw [hW]
  rw [hA]
  clear HK2 HK hW hA
  have HK := HK3
  clear HK3
  refine (sanity_any _ (len_ch HT.out HK.out.ch)).mono ?_
  rintro e w1 ⟨rfl, hC⟩
  have HK2 := Lib.hid (HK.out.on hC)
  clear hC HK
  have HK := HK2
  clear HK2
  go_wp2_with fail
  refine (Made_any xs _ _ _ _ (HX.out.ch HK.out.ch) hnx).mono ?_
  rintro e w2 ⟨p2, n2, c2, rfl, hr, hC⟩
  have HK2 := Lib.hid (HK.out.res hC hr)
  clear hC hr HK
  have HK := HK2
  clear HK2
  obtain ⟨y0, y1, y2, y3⟩ := HK.out.cells4 (g := g + 1) (.tail _ (.head _))
  go_wp2_with fail
  have ha : n2 ≤ 8 := by have h1 := (show Rd spc 2 w2 (p2) n2 (made xs) from HK.out.rd (p2, n2, (made xs)) (.head _)).len; have h2 := made_len xs; omega
  refine (HM0.out _).mono ?_
  rintro e wq0 ⟨rfl, rfl⟩
  go_wp2_with fail
  refine (HM1.out _).mono ?_
  rintro e wq1 ⟨rfl, rfl⟩
  go_wp2_with fail
  refine (HM2.out _).mono ?_
  rintro e wq2 ⟨rfl, rfl⟩
  go_wp2_with fail
  refine (Count_as (show Rd spc 2 w2 (p2) n2 (made xs) from HK.out.rd (p2, n2, (made xs)) (.head _)) ha (by omega) (by omega) C1.out).mono ?_
  rintro e w3 ⟨rfl, hC⟩
  have HK2 := Lib.hid (HK.out.on hC)
  clear y0 y1 y2 y3
  clear hC HK
  have HK := HK2
  clear HK2
  obtain ⟨y0, y1, y2, y3⟩ := HK.out.cells4 (g := g + 1) (.tail _ (.head _))
  go_wp2_with fail
  refine (Count_as (show Rd spc 2 w3 (p2) n2 (made xs) from HK.out.rd (p2, n2, (made xs)) (.head _)) ha (by omega) (by omega) C2.out).mono ?_
  rintro e w4 ⟨rfl, hC⟩
  have HK2 := Lib.hid (HK.out.on hC)
  clear y0 y1 y2 y3
  clear hC HK
  have HK := HK2
  clear HK2
  obtain ⟨y0, y1, y2, y3⟩ := HK.out.cells4 (g := g + 1) (.tail _ (.head _))
  go_wp2_with fail
  refine (Count_as (show Rd spc 2 w4 (p2) n2 (made xs) from HK.out.rd (p2, n2, (made xs)) (.head _)) ha (by omega) (by omega) C3.out).mono ?_
  rintro e w5 ⟨rfl, hC⟩
  have HK2 := Lib.hid (HK.out.on hC)
  clear y0 y1 y2 y3
  clear hC HK
  have HK := HK2
  clear HK2
  obtain ⟨y0, y1, y2, y3⟩ := HK.out.cells4 (g := g + 1) (.tail _ (.head _))
  go_wp2_with fail
  refine (HM3.out _).mono ?_
  rintro e wq3 ⟨rfl, rfl⟩
  go_wp2_with fail
  refine (Count_as (show Rd spc 2 w5 (p2) n2 (made xs) from HK.out.rd (p2, n2, (made xs)) (.head _)) ha (by omega) (by omega) C4.out).mono ?_
  rintro e w6 ⟨rfl, hC⟩
  have HK2 := Lib.hid (HK.out.on hC)
  clear y0 y1 y2 y3
  clear hC HK
  have HK := HK2
  clear HK2
  obtain ⟨y0, y1, y2, y3⟩ := HK.out.cells4 (g := g + 1) (.tail _ (.head _))
  go_wp2_with fail
  clear y0 y1 y2 y3
  have HRA := Lib.hid (show Rd spc 2 w6 (p2) n2 (made xs) from HK.out.rd (p2, n2, (made xs)) (.head _))
  have HMM := Lib.hid (HK.out.cells (g := g) (.tail _ (.tail _ (.head _))))
  have hgl : g < w6.heap.size := by have := ((HK.out.rd _ (.tail _ (.tail _ (.head _)))).lt _ rfl); exact this
  obtain ⟨B, hB⟩ : ∃ B, w6.heap.size = B := ⟨_, rfl⟩
  rw [hB] at hgl
  have HBB := Lib.hid hB
  clear hB
  have HC := Lib.hid (show Ch B none1 w6 w6.drew from (Ch.refl _ _ _).drew)
  have HKS := Lib.hid (show ∀ W, Ch B none1 w6 W → W.cell? ⟨g, 0, none⟩ = some (iz m0) ∧ W.cell? ⟨g, 1, none⟩ = some (iz m1) from fun W hC => ⟨by rw [hC.cell (p := ⟨g, 0, none⟩) hgl (fun q => q)]; exact HMM.out.1, by rw [hC.cell (p := ⟨g, 1, none⟩) hgl (fun q => q)]; exact HMM.out.2⟩)
  have HKA := Lib.hid (show ∀ W, Ch B none1 w6 W → Rd spc 2 W p2 n2 (made xs) from fun W hC => HRA.out.ch (by rw [HBB.out]; exact hC))
  have HFN := Lib.hid (show ∀ W, Ch B none1 w6 W → Ch w.heap.size none1 w W from fun W hC => (HK.out.on (by rw [HBB.out]; exact hC)).ch)
  have HBS := Lib.hid (show B ≤ w6.drew.heap.size by rw [← HBB.out]; exact Nat.le_refl _)
  clear HK HRA HMM hgl
  refine wp_region_held_drew (S := fun w' => w'.cell? ⟨g, 0, none⟩ = some (iz m0) ∧ w'.cell? ⟨g, 1, none⟩ = some (iz m1)) (by kernel_rfl) ?_ (fun hHeld => ?_)
  · (try dsimp only); exact HKS.out _ HC.out
  obtain ⟨W0, hW0⟩ : ∃ X, w6.drew = X := ⟨_, rfl⟩
  rw [hW0] at HC HBS hHeld ⊢
  clear hW0
  refine tk 1 (v := ?_) hHeld ?_ ?_
  rotate_left 1
  · intro _ hw; (try dsimp only at hw); go_simp; try with_reducible rfl
  (try simp only [Act.put, List.setIfInBounds_toArray, List.set_cons_zero, List.set_cons_succ])
  refine tk 3 (v := ?_) hHeld ?_ ?_
  rotate_left 1
  · intro _ hw; (try dsimp only at hw); go_simp; try with_reducible rfl
  (try simp only [Act.put, List.setIfInBounds_toArray, List.set_cons_zero, List.set_cons_succ])
  refine tk 7 (v := ?_) hHeld ?_ ?_
  rotate_left 1
  · intro _ hw; (try dsimp only at hw); go_simp; try with_reducible rfl
  (try simp only [Act.put, List.setIfInBounds_toArray, List.set_cons_zero, List.set_cons_succ])
  refine tk 8 (v := ?_) hHeld ?_ ?_
  rotate_left 1
  · intro _ hw; (try dsimp only at hw); go_simp; try with_reducible rfl
  (try simp only [Act.put, List.setIfInBounds_toArray, List.set_cons_zero, List.set_cons_succ])
  refine wpAnyH_ready (rs := [0, 4]) (by kernel_rfl) (by simp) ?_
  refine AllReadyH.cons (at_list rfl) (fun K hK => ?_) (AllReadyH.cons (at_list rfl) (fun K hK => ?_) AllReadyH.nil)
  · go_simp
    have HC2 := Lib.hid (HC.out.alloc HBS.out (.cells #[] 35 (0, 0)))
    have HBS2 := Lib.hid (show B ≤ (W0.alloc (.cells #[] 35 (0, 0))).heap.size by have := HBS.out; rw [World.size_alloc]; omega)
    have HST := Lib.hid ((Ch.refl W0.heap.size none1 W0).alloc (Nat.le_refl _) (.cells #[] 35 (0, 0)))
    have HOW := Lib.hid (World.ownsRow_lit (base := B) (e := 35) (size := 2) W0 #[] 0 HBS.out (by unfold maxLen; omega) rfl)
    clear HST
    obtain ⟨x1, hW⟩ : ∃ X, W0.alloc (.cells #[] 35 (0, 0)) = X := ⟨_, rfl⟩
    rw [hW] at HC2 HBS2 HOW ⊢
    clear hW
    obtain ⟨G1, hG⟩ : ∃ A, W0.heap.size = A := ⟨_, rfl⟩
    rw [hG] at HOW ⊢
    clear hG
    clear HC HBS
    have HC := HC2
    have HBS := HBS2
    clear HC2 HBS2
    clear hHeld
    refine hK.out _ _ ?_ (fun hHeld => ?_)
    · (try dsimp only); exact HKS.out _ HC.out
    clear hK K
    (try simp only [Act.put, List.setIfInBounds_toArray, List.set_cons_zero, List.set_cons_succ])
    refine wpAnyH_ready (rs := [2, 4]) (by kernel_rfl) (by simp) ?_
    refine AllReadyH.cons (at_list rfl) (fun K hK => ?_) (AllReadyH.cons (at_list rfl) (fun K hK => ?_) AllReadyH.nil)
    · refine step_append2 x1 (by rfl) _ _ 24 (by rfl) B 35 i0 (.agg #[iz 0, iz 0]) 2 16 Tryd.underlying24 hi0 hz0 hz1 hz2 rfl (by decide) (.slice (some ⟨G1, 0, none⟩) 0 0) 0 [] (by rfl) HOW.out p2 n2 c2 ((made xs).flatMap spc) (by rfl) (by rw [flat_len spc_len, (HKA.out _ HC.out).len]) (fun h => (HKA.out _ HC.out).nil h) (sp_flat2 (HKA.out _ HC.out)) (sp_ones _) (by unfold maxLen; omega) (by omega) HBS.out ?_
      intro u2 x2 hown hgr
      rw [Nat.zero_add, List.nil_append] at hown
      have HOW2 := Lib.hid hown
      have HC2 := Lib.hid (HC.out.trans (ch_own HBS.out HOW.out hgr))
      have HBS2 := Lib.hid (Nat.le_trans HBS.out hgr.size)
      clear HOW hown hgr
      have HOW := HOW2
      clear HOW2
      clear HC HBS
      have HC := HC2
      have HBS := HBS2
      clear HC2 HBS2
      clear hHeld
      refine hK.out _ _ ?_ (fun hHeld => ?_)
      · (try dsimp only); exact HKS.out _ HC.out
      clear hK K
      (try simp only [Act.put, List.setIfInBounds_toArray, List.set_cons_zero, List.set_cons_succ])
      refine wpAnyH_ready (rs := [4]) (by kernel_rfl) (by simp) ?_
      refine AllReadyH.cons (at_list rfl) (fun K hK => ?_) AllReadyH.nil
      go_simp
      have HC2 := Lib.hid (HC.out.alloc HBS.out (.cells #[iz m0, iz m1] 38 (0, 0)))
      have HBS2 := Lib.hid (show B ≤ (x2.alloc (.cells #[iz m0, iz m1] 38 (0, 0))).heap.size by have := HBS.out; rw [World.size_alloc]; omega)
      have HST := Lib.hid ((Ch.refl x2.heap.size none1 x2).alloc (Nat.le_refl _) (.cells #[iz m0, iz m1] 38 (0, 0)))
      have HSR := Lib.hid (show Rd spc 2 (x2.alloc (.cells #[iz m0, iz m1] 38 (0, 0))) (some ⟨x2.heap.size, 0, none⟩) 1 [(m0, m1)] from Rd.blk0 spc_len (Blk.new x2 #[iz m0, iz m1] 38) rfl)
      have HOW2 := Lib.hid (own_ch HOW.out HST.out (Nat.le_refl _))
      clear HOW
      have HOW := HOW2
      clear HOW2
      clear HST
      obtain ⟨x3, hW⟩ : ∃ X, x2.alloc (.cells #[iz m0, iz m1] 38 (0, 0)) = X := ⟨_, rfl⟩
      rw [hW] at HC2 HBS2 HSR HOW ⊢
      clear hW
      obtain ⟨G3, hG⟩ : ∃ A, x2.heap.size = A := ⟨_, rfl⟩
      rw [hG] at HSR ⊢
      clear hG
      clear HC HBS
      have HC := HC2
      have HBS := HBS2
      clear HC2 HBS2
      clear hHeld
      refine hK.out _ _ ?_ (fun hHeld => ?_)
      · (try dsimp only); exact HKS.out _ HC.out
      clear hK K
      (try simp only [Act.put, List.setIfInBounds_toArray, List.set_cons_zero, List.set_cons_succ])
      refine wpAnyH_ready (rs := [5]) (by kernel_rfl) (by simp) ?_
      refine AllReadyH.cons (at_list rfl) (fun K hK => ?_) AllReadyH.nil
      go_simp
      go_at_call 8
      (with_reducible refine (Made_any [(m0, m1)] _ 1 _ _ ⟨rfl, fun _ => HSR.out⟩ (by omega)).mono ?_)
      rintro e x4 ⟨pm, nm, cm, rfl, hr, hCq⟩
      obtain rfl : nm = 1 := by rw [← hr.len, made1]
      have HSR2 := Lib.hid hr
      have HC2 := Lib.hid (HC.out.trans (hCq.mono HBS.out (fun _ _ q => q)))
      have HBS2 := Lib.hid (Nat.le_trans HBS.out hCq.size)
      have HOW2 := Lib.hid (own_ch HOW.out hCq (Nat.le_refl _))
      clear HOW
      have HOW := HOW2
      clear HOW2
      clear HSR hr hCq
      have HSR := HSR2
      clear HSR2
      clear HC HBS
      have HC := HC2
      have HBS := HBS2
      clear HC2 HBS2
      clear hHeld
      refine hK.out _ _ ?_ (fun hHeld => ?_)
      · (try dsimp only); exact HKS.out _ HC.out
      clear hK K
      (try simp only [Act.put, List.setIfInBounds_toArray, List.set_cons_zero, List.set_cons_succ])
      refine wpAnyH_ready (rs := [6]) (by kernel_rfl) (by simp) ?_
      refine AllReadyH.cons (at_list rfl) (fun K hK => ?_) AllReadyH.nil
      obtain ⟨gm, om, rfl, _⟩ := HSR.out.addr (by omega)
      refine step_append2 x4 (by rfl) _ _ 24 (by rfl) B 35 i0 (.agg #[iz 0, iz 0]) 2 16 Tryd.underlying24 hi0 hz0 hz1 hz2 rfl (by decide) u2 n2 ((made xs).flatMap spc) (by rfl) HOW.out (some ⟨gm, om, none⟩) 1 cm ((made [(m0, m1)]).flatMap spc) (by rfl) (by rw [flat_len spc_len, made1]) (fun h => by cases h) (sp_flat2 HSR.out) (sp_ones _) (by unfold maxLen; omega) (by omega) HBS.out ?_
      intro u5 x5 hown hgr
      have HC2 := Lib.hid (HC.out.trans (ch_own HBS.out HOW.out hgr))
      have HBS2 := Lib.hid (Nat.le_trans HBS.out hgr.size)
      rw [← List.flatMap_append] at hown
      obtain ⟨po, co, rfl⟩ := own_val hown
      have HRO := Lib.hid (Rd.own spc_len hown (by rw [List.length_append, made1, (HKA.out _ HC.out).len])).2
      clear HOW HSR hown hgr
      clear HC HBS
      have HC := HC2
      have HBS := HBS2
      clear HC2 HBS2
      clear hHeld
      refine hK.out _ _ ?_ (fun hHeld => ?_)
      · (try dsimp only); exact HKS.out _ HC.out
      clear hK K
      (try simp only [Act.put, List.setIfInBounds_toArray, List.set_cons_zero, List.set_cons_succ])
      refine wpAnyH_ready (rs := [9]) (by kernel_rfl) (by simp) ?_
      refine AllReadyH.cons (at_list rfl) (fun K hK => ?_) AllReadyH.nil
      go_simp
      go_at_call 17
      (with_reducible refine (Count9 HRO.out (by omega) (by omega) (by omega) C5.out).mono ?_)
      rintro e x6 ⟨rfl, hCq⟩
      have HC2 := Lib.hid (HC.out.trans (hCq.mono HBS.out (fun _ _ q => q)))
      have HBS2 := Lib.hid (Nat.le_trans HBS.out hCq.size)
      clear HRO hCq
      clear HC HBS
      have HC := HC2
      have HBS := HBS2
      clear HC2 HBS2
      clear hHeld
      refine hK.out _ _ ?_ (fun hHeld => ?_)
      · (try dsimp only); exact HKS.out _ HC.out
      clear hK K
      (try simp only [Act.put, List.setIfInBounds_toArray, List.set_cons_zero, List.set_cons_succ])
      refine tk 10 (v := ?_) hHeld ?_ ?_
      rotate_left 1
      · intro _ hw; (try dsimp only at hw); go_simp; try with_reducible rfl
      (try simp only [Act.put, List.setIfInBounds_toArray, List.set_cons_zero, List.set_cons_succ])
      refine tk 11 (v := ?_) hHeld ?_ ?_
      rotate_left 1
      · intro _ hw; (try dsimp only at hw); go_simp; try with_reducible rfl
      (try simp only [Act.put, List.setIfInBounds_toArray, List.set_cons_zero, List.set_cons_succ])
      refine tk 12 (v := ?_) hHeld ?_ ?_
      rotate_left 1
      · intro _ hw; (try dsimp only at hw); go_simp; try with_reducible rfl
      (try simp only [Act.put, List.setIfInBounds_toArray, List.set_cons_zero, List.set_cons_succ])
      refine tk 13 (v := ?_) hHeld ?_ ?_
      rotate_left 1
      · intro _ hw; (try dsimp only at hw); go_simp; try with_reducible rfl
      (try simp only [Act.put, List.setIfInBounds_toArray, List.set_cons_zero, List.set_cons_succ])
      refine tk 14 (v := ?_) hHeld ?_ ?_
      rotate_left 1
      · intro _ hw; (try dsimp only at hw); go_simp; try with_reducible rfl
      (try simp only [Act.put, List.setIfInBounds_toArray, List.set_cons_zero, List.set_cons_succ])
      refine wpAnyH_done (by kernel_rfl) ?_ _
      clear hHeld
      go_wp2_with fail
      go_ret
      exact ⟨by simp, HFN.out _ HC.out⟩
    · go_simp
      have HC2 := Lib.hid (HC.out.alloc HBS.out (.cells #[iz m0, iz m1] 38 (0, 0)))
      have HBS2 := Lib.hid (show B ≤ (x1.alloc (.cells #[iz m0, iz m1] 38 (0, 0))).heap.size by have := HBS.out; rw [World.size_alloc]; omega)
      have HST := Lib.hid ((Ch.refl x1.heap.size none1 x1).alloc (Nat.le_refl _) (.cells #[iz m0, iz m1] 38 (0, 0)))
      have HSR := Lib.hid (show Rd spc 2 (x1.alloc (.cells #[iz m0, iz m1] 38 (0, 0))) (some ⟨x1.heap.size, 0, none⟩) 1 [(m0, m1)] from Rd.blk0 spc_len (Blk.new x1 #[iz m0, iz m1] 38) rfl)
      have HOW2 := Lib.hid (own_ch HOW.out HST.out (Nat.le_refl _))
      clear HOW
      have HOW := HOW2
      clear HOW2
      clear HST
      obtain ⟨x7, hW⟩ : ∃ X, x1.alloc (.cells #[iz m0, iz m1] 38 (0, 0)) = X := ⟨_, rfl⟩
      rw [hW] at HC2 HBS2 HSR HOW ⊢
      clear hW
      obtain ⟨G7, hG⟩ : ∃ A, x1.heap.size = A := ⟨_, rfl⟩
      rw [hG] at HSR ⊢
      clear hG
      clear HC HBS
      have HC := HC2
      have HBS := HBS2
      clear HC2 HBS2
      clear hHeld
      refine hK.out _ _ ?_ (fun hHeld => ?_)
      · (try dsimp only); exact HKS.out _ HC.out
      clear hK K
      (try simp only [Act.put, List.setIfInBounds_toArray, List.set_cons_zero, List.set_cons_succ])
      refine wpAnyH_ready (rs := [2]) (by kernel_rfl) (by simp) ?_
      refine AllReadyH.cons (at_list rfl) (fun K hK => ?_) AllReadyH.nil
      refine step_append2 x7 (by rfl) _ _ 24 (by rfl) B 35 i0 (.agg #[iz 0, iz 0]) 2 16 Tryd.underlying24 hi0 hz0 hz1 hz2 rfl (by decide) (.slice (some ⟨G1, 0, none⟩) 0 0) 0 [] (by rfl) HOW.out p2 n2 c2 ((made xs).flatMap spc) (by rfl) (by rw [flat_len spc_len, (HKA.out _ HC.out).len]) (fun h => (HKA.out _ HC.out).nil h) (sp_flat2 (HKA.out _ HC.out)) (sp_ones _) (by unfold maxLen; omega) (by omega) HBS.out ?_
      intro u8 x8 hown hgr
      rw [Nat.zero_add, List.nil_append] at hown
      have HOW2 := Lib.hid hown
      have HC2 := Lib.hid (HC.out.trans (ch_own HBS.out HOW.out hgr))
      have HBS2 := Lib.hid (Nat.le_trans HBS.out hgr.size)
      have HSR2 := Lib.hid (rd_grown HSR.out (by omega) HOW.out hgr)
      clear HSR
      have HSR := HSR2
      clear HSR2
      clear HOW hown hgr
      have HOW := HOW2
      clear HOW2
      clear HC HBS
      have HC := HC2
      have HBS := HBS2
      clear HC2 HBS2
      clear hHeld
      refine hK.out _ _ ?_ (fun hHeld => ?_)
      · (try dsimp only); exact HKS.out _ HC.out
      clear hK K
      (try simp only [Act.put, List.setIfInBounds_toArray, List.set_cons_zero, List.set_cons_succ])
      refine wpAnyH_ready (rs := [5]) (by kernel_rfl) (by simp) ?_
      refine AllReadyH.cons (at_list rfl) (fun K hK => ?_) AllReadyH.nil
      go_simp
      go_at_call 8
      (with_reducible refine (Made_any [(m0, m1)] _ 1 _ _ ⟨rfl, fun _ => HSR.out⟩ (by omega)).mono ?_)
      rintro e x9 ⟨pm, nm, cm, rfl, hr, hCq⟩
      obtain rfl : nm = 1 := by rw [← hr.len, made1]
      have HSR2 := Lib.hid hr
      have HC2 := Lib.hid (HC.out.trans (hCq.mono HBS.out (fun _ _ q => q)))
      have HBS2 := Lib.hid (Nat.le_trans HBS.out hCq.size)
      have HOW2 := Lib.hid (own_ch HOW.out hCq (Nat.le_refl _))
      clear HOW
      have HOW := HOW2
      clear HOW2
      clear HSR hr hCq
      have HSR := HSR2
      clear HSR2
      clear HC HBS
      have HC := HC2
      have HBS := HBS2
      clear HC2 HBS2
      clear hHeld
      refine hK.out _ _ ?_ (fun hHeld => ?_)
      · (try dsimp only); exact HKS.out _ HC.out
      clear hK K
      (try simp only [Act.put, List.setIfInBounds_toArray, List.set_cons_zero, List.set_cons_succ])
      refine wpAnyH_ready (rs := [6]) (by kernel_rfl) (by simp) ?_
      refine AllReadyH.cons (at_list rfl) (fun K hK => ?_) AllReadyH.nil
      obtain ⟨gm, om, rfl, _⟩ := HSR.out.addr (by omega)
      refine step_append2 x9 (by rfl) _ _ 24 (by rfl) B 35 i0 (.agg #[iz 0, iz 0]) 2 16 Tryd.underlying24 hi0 hz0 hz1 hz2 rfl (by decide) u8 n2 ((made xs).flatMap spc) (by rfl) HOW.out (some ⟨gm, om, none⟩) 1 cm ((made [(m0, m1)]).flatMap spc) (by rfl) (by rw [flat_len spc_len, made1]) (fun h => by cases h) (sp_flat2 HSR.out) (sp_ones _) (by unfold maxLen; omega) (by omega) HBS.out ?_
      intro u10 x10 hown hgr
      have HC2 := Lib.hid (HC.out.trans (ch_own HBS.out HOW.out hgr))
      have HBS2 := Lib.hid (Nat.le_trans HBS.out hgr.size)
      rw [← List.flatMap_append] at hown
      obtain ⟨po, co, rfl⟩ := own_val hown
      have HRO := Lib.hid (Rd.own spc_len hown (by rw [List.length_append, made1, (HKA.out _ HC.out).len])).2
      clear HOW HSR hown hgr
      clear HC HBS
      have HC := HC2
      have HBS := HBS2
      clear HC2 HBS2
      clear hHeld
      refine hK.out _ _ ?_ (fun hHeld => ?_)
      · (try dsimp only); exact HKS.out _ HC.out
      clear hK K
      (try simp only [Act.put, List.setIfInBounds_toArray, List.set_cons_zero, List.set_cons_succ])
      refine wpAnyH_ready (rs := [9]) (by kernel_rfl) (by simp) ?_
      refine AllReadyH.cons (at_list rfl) (fun K hK => ?_) AllReadyH.nil
      go_simp
      go_at_call 17
      (with_reducible refine (Count9 HRO.out (by omega) (by omega) (by omega) C5.out).mono ?_)
      rintro e x11 ⟨rfl, hCq⟩
      have HC2 := Lib.hid (HC.out.trans (hCq.mono HBS.out (fun _ _ q => q)))
      have HBS2 := Lib.hid (Nat.le_trans HBS.out hCq.size)
      clear HRO hCq
      clear HC HBS
      have HC := HC2
      have HBS := HBS2
      clear HC2 HBS2
      clear hHeld
      refine hK.out _ _ ?_ (fun hHeld => ?_)
      · (try dsimp only); exact HKS.out _ HC.out
      clear hK K
      (try simp only [Act.put, List.setIfInBounds_toArray, List.set_cons_zero, List.set_cons_succ])
      refine tk 10 (v := ?_) hHeld ?_ ?_
      rotate_left 1
      · intro _ hw; (try dsimp only at hw); go_simp; try with_reducible rfl
      (try simp only [Act.put, List.setIfInBounds_toArray, List.set_cons_zero, List.set_cons_succ])
      refine tk 11 (v := ?_) hHeld ?_ ?_
      rotate_left 1
      · intro _ hw; (try dsimp only at hw); go_simp; try with_reducible rfl
      (try simp only [Act.put, List.setIfInBounds_toArray, List.set_cons_zero, List.set_cons_succ])
      refine tk 12 (v := ?_) hHeld ?_ ?_
      rotate_left 1
      · intro _ hw; (try dsimp only at hw); go_simp; try with_reducible rfl
      (try simp only [Act.put, List.setIfInBounds_toArray, List.set_cons_zero, List.set_cons_succ])
      refine tk 13 (v := ?_) hHeld ?_ ?_
      rotate_left 1
      · intro _ hw; (try dsimp only at hw); go_simp; try with_reducible rfl
      (try simp only [Act.put, List.setIfInBounds_toArray, List.set_cons_zero, List.set_cons_succ])
      refine tk 14 (v := ?_) hHeld ?_ ?_
      rotate_left 1
      · intro _ hw; (try dsimp only at hw); go_simp; try with_reducible rfl
      (try simp only [Act.put, List.setIfInBounds_toArray, List.set_cons_zero, List.set_cons_succ])
      refine wpAnyH_done (by kernel_rfl) ?_ _
      clear hHeld
      go_wp2_with fail
      go_ret
      exact ⟨by simp, HFN.out _ HC.out⟩
  · go_simp
    have HC2 := Lib.hid (HC.out.alloc HBS.out (.cells #[iz m0, iz m1] 38 (0, 0)))
    have HBS2 := Lib.hid (show B ≤ (W0.alloc (.cells #[iz m0, iz m1] 38 (0, 0))).heap.size by have := HBS.out; rw [World.size_alloc]; omega)
    have HST := Lib.hid ((Ch.refl W0.heap.size none1 W0).alloc (Nat.le_refl _) (.cells #[iz m0, iz m1] 38 (0, 0)))
    have HSR := Lib.hid (show Rd spc 2 (W0.alloc (.cells #[iz m0, iz m1] 38 (0, 0))) (some ⟨W0.heap.size, 0, none⟩) 1 [(m0, m1)] from Rd.blk0 spc_len (Blk.new W0 #[iz m0, iz m1] 38) rfl)
    clear HST
    obtain ⟨x12, hW⟩ : ∃ X, W0.alloc (.cells #[iz m0, iz m1] 38 (0, 0)) = X := ⟨_, rfl⟩
    rw [hW] at HC2 HBS2 HSR ⊢
    clear hW
    obtain ⟨G12, hG⟩ : ∃ A, W0.heap.size = A := ⟨_, rfl⟩
    rw [hG] at HSR ⊢
    clear hG
    clear HC HBS
    have HC := HC2
    have HBS := HBS2
    clear HC2 HBS2
    clear hHeld
    refine hK.out _ _ ?_ (fun hHeld => ?_)
    · (try dsimp only); exact HKS.out _ HC.out
    clear hK K
    (try simp only [Act.put, List.setIfInBounds_toArray, List.set_cons_zero, List.set_cons_succ])
    refine wpAnyH_ready (rs := [0]) (by kernel_rfl) (by simp) ?_
    refine AllReadyH.cons (at_list rfl) (fun K hK => ?_) AllReadyH.nil
    go_simp
    have HC2 := Lib.hid (HC.out.alloc HBS.out (.cells #[] 35 (0, 0)))
    have HBS2 := Lib.hid (show B ≤ (x12.alloc (.cells #[] 35 (0, 0))).heap.size by have := HBS.out; rw [World.size_alloc]; omega)
    have HST := Lib.hid ((Ch.refl x12.heap.size none1 x12).alloc (Nat.le_refl _) (.cells #[] 35 (0, 0)))
    have HOW := Lib.hid (World.ownsRow_lit (base := B) (e := 35) (size := 2) x12 #[] 0 HBS.out (by unfold maxLen; omega) rfl)
    have HSR2 := Lib.hid (HSR.out.ch HST.out)
    clear HSR
    have HSR := HSR2
    clear HSR2
    clear HST
    obtain ⟨x13, hW⟩ : ∃ X, x12.alloc (.cells #[] 35 (0, 0)) = X := ⟨_, rfl⟩
    rw [hW] at HC2 HBS2 HOW HSR ⊢
    clear hW
    obtain ⟨G13, hG⟩ : ∃ A, x12.heap.size = A := ⟨_, rfl⟩
    rw [hG] at HOW ⊢
    clear hG
    clear HC HBS
    have HC := HC2
    have HBS := HBS2
    clear HC2 HBS2
    clear hHeld
    refine hK.out _ _ ?_ (fun hHeld => ?_)
    · (try dsimp only); exact HKS.out _ HC.out
    clear hK K
    (try simp only [Act.put, List.setIfInBounds_toArray, List.set_cons_zero, List.set_cons_succ])
    refine wpAnyH_ready (rs := [2]) (by kernel_rfl) (by simp) ?_
    refine AllReadyH.cons (at_list rfl) (fun K hK => ?_) AllReadyH.nil
    refine step_append2 x13 (by rfl) _ _ 24 (by rfl) B 35 i0 (.agg #[iz 0, iz 0]) 2 16 Tryd.underlying24 hi0 hz0 hz1 hz2 rfl (by decide) (.slice (some ⟨G13, 0, none⟩) 0 0) 0 [] (by rfl) HOW.out p2 n2 c2 ((made xs).flatMap spc) (by rfl) (by rw [flat_len spc_len, (HKA.out _ HC.out).len]) (fun h => (HKA.out _ HC.out).nil h) (sp_flat2 (HKA.out _ HC.out)) (sp_ones _) (by unfold maxLen; omega) (by omega) HBS.out ?_
    intro u14 x14 hown hgr
    rw [Nat.zero_add, List.nil_append] at hown
    have HOW2 := Lib.hid hown
    have HC2 := Lib.hid (HC.out.trans (ch_own HBS.out HOW.out hgr))
    have HBS2 := Lib.hid (Nat.le_trans HBS.out hgr.size)
    have HSR2 := Lib.hid (rd_grown HSR.out (by omega) HOW.out hgr)
    clear HSR
    have HSR := HSR2
    clear HSR2
    clear HOW hown hgr
    have HOW := HOW2
    clear HOW2
    clear HC HBS
    have HC := HC2
    have HBS := HBS2
    clear HC2 HBS2
    clear hHeld
    refine hK.out _ _ ?_ (fun hHeld => ?_)
    · (try dsimp only); exact HKS.out _ HC.out
    clear hK K
    (try simp only [Act.put, List.setIfInBounds_toArray, List.set_cons_zero, List.set_cons_succ])
    refine wpAnyH_ready (rs := [5]) (by kernel_rfl) (by simp) ?_
    refine AllReadyH.cons (at_list rfl) (fun K hK => ?_) AllReadyH.nil
    go_simp
    go_at_call 8
    (with_reducible refine (Made_any [(m0, m1)] _ 1 _ _ ⟨rfl, fun _ => HSR.out⟩ (by omega)).mono ?_)
    rintro e x15 ⟨pm, nm, cm, rfl, hr, hCq⟩
    obtain rfl : nm = 1 := by rw [← hr.len, made1]
    have HSR2 := Lib.hid hr
    have HC2 := Lib.hid (HC.out.trans (hCq.mono HBS.out (fun _ _ q => q)))
    have HBS2 := Lib.hid (Nat.le_trans HBS.out hCq.size)
    have HOW2 := Lib.hid (own_ch HOW.out hCq (Nat.le_refl _))
    clear HOW
    have HOW := HOW2
    clear HOW2
    clear HSR hr hCq
    have HSR := HSR2
    clear HSR2
    clear HC HBS
    have HC := HC2
    have HBS := HBS2
    clear HC2 HBS2
    clear hHeld
    refine hK.out _ _ ?_ (fun hHeld => ?_)
    · (try dsimp only); exact HKS.out _ HC.out
    clear hK K
    (try simp only [Act.put, List.setIfInBounds_toArray, List.set_cons_zero, List.set_cons_succ])
    refine wpAnyH_ready (rs := [6]) (by kernel_rfl) (by simp) ?_
    refine AllReadyH.cons (at_list rfl) (fun K hK => ?_) AllReadyH.nil
    obtain ⟨gm, om, rfl, _⟩ := HSR.out.addr (by omega)
    refine step_append2 x15 (by rfl) _ _ 24 (by rfl) B 35 i0 (.agg #[iz 0, iz 0]) 2 16 Tryd.underlying24 hi0 hz0 hz1 hz2 rfl (by decide) u14 n2 ((made xs).flatMap spc) (by rfl) HOW.out (some ⟨gm, om, none⟩) 1 cm ((made [(m0, m1)]).flatMap spc) (by rfl) (by rw [flat_len spc_len, made1]) (fun h => by cases h) (sp_flat2 HSR.out) (sp_ones _) (by unfold maxLen; omega) (by omega) HBS.out ?_
    intro u16 x16 hown hgr
    have HC2 := Lib.hid (HC.out.trans (ch_own HBS.out HOW.out hgr))
    have HBS2 := Lib.hid (Nat.le_trans HBS.out hgr.size)
    rw [← List.flatMap_append] at hown
    obtain ⟨po, co, rfl⟩ := own_val hown
    have HRO := Lib.hid (Rd.own spc_len hown (by rw [List.length_append, made1, (HKA.out _ HC.out).len])).2
    clear HOW HSR hown hgr
    clear HC HBS
    have HC := HC2
    have HBS := HBS2
    clear HC2 HBS2
    clear hHeld
    refine hK.out _ _ ?_ (fun hHeld => ?_)
    · (try dsimp only); exact HKS.out _ HC.out
    clear hK K
    (try simp only [Act.put, List.setIfInBounds_toArray, List.set_cons_zero, List.set_cons_succ])
    refine wpAnyH_ready (rs := [9]) (by kernel_rfl) (by simp) ?_
    refine AllReadyH.cons (at_list rfl) (fun K hK => ?_) AllReadyH.nil
    go_simp
    go_at_call 17
    (with_reducible refine (Count9 HRO.out (by omega) (by omega) (by omega) C5.out).mono ?_)
    rintro e x17 ⟨rfl, hCq⟩
    have HC2 := Lib.hid (HC.out.trans (hCq.mono HBS.out (fun _ _ q => q)))
    have HBS2 := Lib.hid (Nat.le_trans HBS.out hCq.size)
    clear HRO hCq
    clear HC HBS
    have HC := HC2
    have HBS := HBS2
    clear HC2 HBS2
    clear hHeld
    refine hK.out _ _ ?_ (fun hHeld => ?_)
    · (try dsimp only); exact HKS.out _ HC.out
    clear hK K
    (try simp only [Act.put, List.setIfInBounds_toArray, List.set_cons_zero, List.set_cons_succ])
    refine tk 10 (v := ?_) hHeld ?_ ?_
    rotate_left 1
    · intro _ hw; (try dsimp only at hw); go_simp; try with_reducible rfl
    (try simp only [Act.put, List.setIfInBounds_toArray, List.set_cons_zero, List.set_cons_succ])
    refine tk 11 (v := ?_) hHeld ?_ ?_
    rotate_left 1
    · intro _ hw; (try dsimp only at hw); go_simp; try with_reducible rfl
    (try simp only [Act.put, List.setIfInBounds_toArray, List.set_cons_zero, List.set_cons_succ])
    refine tk 12 (v := ?_) hHeld ?_ ?_
    rotate_left 1
    · intro _ hw; (try dsimp only at hw); go_simp; try with_reducible rfl
    (try simp only [Act.put, List.setIfInBounds_toArray, List.set_cons_zero, List.set_cons_succ])
    refine tk 13 (v := ?_) hHeld ?_ ?_
    rotate_left 1
    · intro _ hw; (try dsimp only at hw); go_simp; try with_reducible rfl
    (try simp only [Act.put, List.setIfInBounds_toArray, List.set_cons_zero, List.set_cons_succ])
    refine tk 14 (v := ?_) hHeld ?_ ?_
    rotate_left 1
    · intro _ hw; (try dsimp only at hw); go_simp; try with_reducible rfl
    (try simp only [Act.put, List.setIfInBounds_toArray, List.set_cons_zero, List.set_cons_succ])
    refine wpAnyH_done (by kernel_rfl) ?_ _
    clear hHeld
    go_wp2_with fail
    go_ret
    exact ⟨by simp, HFN.out _ HC.out⟩
end Go.Proofs.YtnbcfolmadkliaaDoor
