/- Contract of package nat's (montgomery).raised. -/
import Derived.Test.YtcghnkdfhiancaaDoorOf
import Derived.Deep.RegionHeld3
import Derived.Laws.AppendOwnNone
namespace Go.Proofs.YtcghnkdfhiancaaDoor
open Go.RowKit
section
variable {P : Program}
/-- 'make' at a step of a region that draws its order. -/
theorem step_make_blk (w : World) {ops : Array Oper} {o : Oper} {a : Act} {K : Act → World → Prop} {Q : Exit → Act → World → Prop} {E : Prop}
    (hg : o.guard = none) (l c : Operand) (t : TypeId) (hop : o.op = Op.makeSlice t l c)
    (e : TypeId) (i : TypeInfo) (k : IntKind) (z : Int) (h1 : P.underlying t = some (.slice e)) (h2 : P.info? e = some i) (h3 : i.zero = some (.int k z)) (h4 : i.size = 1)
    (kl kc : IntKind) (L C : Int) (n : Nat) (hl : a.eval l = .int kl L) (hc : a.eval c = .int kc C) (hL : L = (n : Int)) (hC : C = (n : Int)) (b2 : i.bytes * n ≤ 281474976710656) (b3 : n ≤ maxLen)
    (h : ∀ w', w'.ownsRow w.heap.size e 1 (.slice (some ⟨w.heap.size, 0, none⟩) n n) n (List.replicate n (.int k z)) → Ch w.heap.size none1 w w' → K (a.put o.dst (.slice (some ⟨w.heap.size, 0, none⟩) n n)) w') :
    if Region.wanted o (yielded ops a.tmps) = true then Oper.wp P o a w K Q else E := by
  have hw : Region.wanted o (yielded ops a.tmps) = true := by simp [Region.wanted, hg]
  rw [if_pos hw]
  obtain ⟨w', hrun, r1, r2⟩ := run_make_full (P := P) w w.heap.size t e i _ 1 h1 h2 h3 h4 kl kc n b2 b3 (Nat.le_refl _)
  subst hL
  subst hC
  rw [madeCells_int] at r1
  unfold Oper.wp
  simp [execOp, hop, hl, hc, hrun, Result.andThen]
  exact h w' r1 (Ch.of_grown r2)
theorem upon_make_blk (w : World) {o : Oper} {a : Act} {K : Act → World → Prop} {Q : Exit → Act → World → Prop} (t : TypeId)
    (e : TypeId) (i : TypeInfo) (k : IntKind) (z : Int) (h1 : P.underlying t = some (.slice e)) (h2 : P.info? e = some i) (h3 : i.zero = some (.int k z)) (h4 : i.size = 1)
    (kl kc : IntKind) (n : Nat) (b2 : i.bytes * n ≤ 281474976710656) (b3 : n ≤ maxLen)
    (H : Nat) (hH : w.heap.size = H) (h : ∀ w', w'.ownsRow H e 1 (.slice (some ⟨H, 0, none⟩) n n) n (List.replicate n (.int k z)) → Ch H none1 w w' → K (a.put o.dst (.slice (some ⟨H, 0, none⟩) n n)) w') :
    Oper.upon P o a K Q ((Sem.run P (Instr.makeSlice t (.int kl (n : Int)) (.int kc (n : Int))) w).andThen fun a w' => Result.ok (Next.value a) w') := by
  subst hH
  obtain ⟨w', hrun, r1, r2⟩ := run_make_full (P := P) w w.heap.size t e i _ 1 h1 h2 h3 h4 kl kc n b2 b3 (Nat.le_refl _)
  rw [madeCells_int] at r1
  rw [hrun]
  exact h w' r1 (Ch.of_grown r2)
/-- 'append' of a slice, nil or not, to a slice of one's own, at a step of a region that draws its order. -/
theorem step_append_src (w : World) {ops : Array Oper} {o : Oper} {a : Act} {K : Act → World → Prop} {Q : Exit → Act → World → Prop} {E : Prop} (hgd : o.guard = none) (s x : Operand) (t : TypeId)
    (ho : o.op = .call { callee := .builtin .append, args := #[s, x], argTypes := #[t, t] })
    (base : Nat) (e : TypeId) (i : TypeInfo) (z : Value) (bytes : Nat) (ht : P.underlying t = some (.slice e)) (hi : P.info? e = some i) (hz : i.zero = some z)
    (hsize : i.size = 1) (hby : i.bytes = bytes) (hzs : z.cells.size = 1)
    (v : Value) (n : Nat) (xs : List Value) (hs : a.eval s = v) (hown : w.ownsRow base e 1 v n xs)
    (ao : Option Addr) (m c : Nat) (news : List Value) (hx : a.eval x = .slice ao m c) (hl : news.length = m) (hnone : ao = none → m = 0 ∧ c = 0) (hnews : ∀ ad, ao = some ad → ∀ j u, news[j]? = some u → w.cell? (ad.add j) = some u) (h1 : ∀ u ∈ news, u.oneCell' = true)
    (h63 : n + m ≤ maxLen) (hbytes : (n + m) * bytes ≤ 140737488355328) (hbase : base ≤ w.heap.size)
    (h : ∀ v' w', w'.ownsRow base e 1 v' (n + m) (xs ++ news) → w.grownBy w' v.ownBlock → K (a.put o.dst v') w') :
    if Region.wanted o (yielded ops a.tmps) = true then Oper.wp P o a w K Q else E := by
  have hw : Region.wanted o (yielded ops a.tmps) = true := by simp [Region.wanted, hgd]
  rw [if_pos hw]
  cases ao with
  | some ad => exact wp_append_own w s x t ho base e i z 1 bytes ht hi hz hsize hby hzs (by omega) v n xs hs hown ad m c news hx (by omega) (hnews ad rfl) h1 h63 hbytes hbase fun v' w' h2 h3 _ => h v' w' h2 h3
  | none =>
    obtain ⟨rfl, rfl⟩ := hnone rfl
    have hnews : news = [] := List.eq_nil_of_length_eq_zero hl
    subst hnews
    have hrun := run_append_owned_none (P := P) (w := w) base t o.type e i 1 ht hi v n xs hown
    unfold Oper.wp
    simp [execOp, ho, resolve, invoke, builtin, hs, hx, hrun, Result.andThen]
    exact h v w (by simpa using hown) (World.grownBy.refl _ _)
end
theorem dg_take {w : World} {p : Option Addr} {n : Nat} {xs : List Nat} (h : Dg w p n xs) (k : Nat) (hk : k ≤ n) : Dg w p k (xs.take k) :=
  ⟨by rw [List.length_take, h.len]; omega, fun x hx => h.lt x (List.mem_of_mem_take hx), fun hp => by have := h.nil hp; omega, fun a ha => by
    obtain ⟨h1, t, pre, post, hB, ho⟩ := h.at' a ha
    refine ⟨h1, t, pre, (xs.drop k).map U ++ post, hB.cast ?_, ho⟩
    rw [← List.append_assoc, List.append_assoc pre (List.map U (List.take k xs)), ← List.map_append, List.take_append_drop]⟩
theorem dg_news {w : World} {p : Option Addr} {n : Nat} {xs : List Nat} (h : Dg w p n xs) : ∀ ad, p = some ad → ∀ j u, (xs.map U)[j]? = some u → w.cell? (ad.add j) = some u := fun ad ha j u hu => by
  obtain ⟨g, o, s⟩ := ad
  obtain rfl : s = none := (h.at' _ ha).1
  subst ha
  have hj : j < xs.length := by simpa using (List.getElem?_eq_some_iff.1 hu).1
  rw [plain_add, h.get j (by rw [← h.len]; exact hj), ← hu]
  simp [hj]
theorem ints_one (xs : List Nat) : ∀ u ∈ xs.map U, u.oneCell' = true := fun u hu => by
  obtain ⟨_, _, rfl⟩ := List.mem_map.1 hu
  rfl
set_option maxRecDepth 100000 in
set_option maxHeartbeats 3200000 in
theorem raised_any (n M X f : Nat) (vm vx : Value) (w : World) (hm : RdD w vm M) (hn : (ds M).length = n) (hM : 0 < M) (hn1 : n ≤ 4398046511104) (hx : RdD w vx X) (hxn : (ds X).length ≤ n) (hnil : ∀ c, vx = .slice none 0 c → c = 0) :
    Calls Tryd.prog 86 #[.agg #[vm, .int .u64 (f : Int)], vx] w fun e w' => ∃ v, e = .returned v ∧ RdP w' v n (X * D ^ n % M) ∧ Ch w.heap.size none1 w w' := by
  obtain ⟨i0, hi, hz0, hz1, hz2⟩ := info_parts Tryd.info52
  obtain ⟨pm, cm, rfl, hdm⟩ := hm
  obtain ⟨px, cx, rfl, hdx⟩ := hx
  rw [hn] at hdm ⊢
  have HDM := Lib.hid hdm; clear hdm
  have HDX := Lib.hid hdx; clear hdx
  have HN := Lib.hid hn; clear hn
  obtain ⟨x, hxl⟩ : ∃ x, (ds X).length = x := ⟨_, rfl⟩
  rw [hxl] at hxn HDX ⊢
  have HXL := Lib.hid hxl; clear hxl
  go_enter Tryd.func86, Tryd.ntmps86
  have hxb := HDX.out.lt_size
  have hmb := HDM.out.lt_size
  have hC0 := (Ch.refl w.heap.size none1 w).alloc (Nat.le_refl _) (.cells #[.slice pm n cm, .int .u64 (f : Int)] 96)
  have hS0 : Blk (w.alloc (.cells #[.slice pm n cm, .int .u64 (f : Int)] 96)) w.heap.size 96 [.slice pm n cm, .int .u64 (f : Int)] := Blk.new w _ _
  have hlt0 := hS0.lt
  have c0 := hS0.cell 0
  have hzs : Dok (List.replicate n 0 ++ ds X) := (Dok.zeros n).append (dok_ds X)
  have hnone : px = none → x = 0 ∧ cx = 0 := fun h => by
    have h0 := HDX.out.nil h
    rw [HXL.out] at hnil
    rw [h, h0] at hnil
    exact ⟨h0, hnil cx rfl⟩
  have HNONE := Lib.hid hnone; clear hnone hnil
  have HXB := Lib.hid hxb; clear hxb
  have HMB := Lib.hid hmb; clear hmb
  have HZS := Lib.hid hzs; clear hzs
  have HSZ := Lib.hid (show ∀ o, (w.alloc o).drew.heap.size = w.heap.size + 1 from fun o => by show (w.alloc o).heap.size = _; rw [World.size_alloc])
  have HNE := Lib.hid (show ¬ (w.heap.size = w.heap.size + 1) by omega)
  have hzv : dv (List.replicate n 0 ++ ds X) = X * D ^ n := by rw [dv_append, dv_zeros, List.length_replicate, dv_ds, Nat.zero_add, Nat.mul_comm]
  have hzl : (List.replicate n 0 ++ ds X).length = n + x := by rw [List.length_append, List.length_replicate, HXL.out]
  have HCAST := Lib.hid (show List.replicate n (Value.int .u64 0) ++ (ds X).map U = (List.replicate n 0 ++ ds X).map U by rw [List.map_append, List.map_replicate]; rfl)
  obtain ⟨zs, hzz⟩ : ∃ zs, List.replicate n 0 ++ ds X = zs := ⟨_, rfl⟩
  rw [hzz] at hzv hzl HCAST HZS
  clear hzz
  have htle := tlen_le zs
  rw [hzl] at htle
  have htd := trimD zs HZS.out
  rw [hzv] at htd
  have HTLE := Lib.hid htle
  have HTD := Lib.hid htd
  have HN3 := Lib.hid (show tlen zs ≤ 8796093022208 by omega)
  have HN4 := Lib.hid (show n ≤ 8796093022208 by omega)
  clear htle htd hzv hzl
  have HXM2 := Lib.hid (show ∀ a, pm = some a → a.block < w.heap.size ∧ ¬ none1 a.block from fun a ha => ⟨HMB.out a ha, fun q => q⟩)
  have HXB2 := Lib.hid (show ∀ a, px = some a → a.block < w.heap.size + 1 ∧ ¬ none1 a.block from fun a ha => ⟨Nat.lt_succ_of_lt (HXB.out a ha), fun q => q⟩)
  have HXM := Lib.hid (show ((ds X).map U).length = x by rw [List.length_map]; exact HXL.out)
  have HM1 := Lib.hid (show n + x ≤ maxLen by unfold maxLen; omega)
  have HM2 := Lib.hid (show (n + x) * 8 ≤ 140737488355328 by omega)
  have HM3 := Lib.hid (show i0.bytes * n ≤ 281474976710656 by rw [hz2]; omega)
  have HM4 := Lib.hid (show n ≤ maxLen by unfold maxLen; omega)
  have HDX0 := Lib.hid (Dg.ch hC0 HDX.out (fun a ha => ⟨HXB.out a ha, fun q => q⟩))
  go_wp2_with fail
  go_region_held3 (fun w' => w'.cell? ⟨w.heap.size, 0, none⟩ = some (.slice pm n cm))
    (first
      | go_keep
      | (exact (hC4.cell (p := ⟨w.heap.size, 0, none⟩) (Nat.le_trans hs1 hC2.size) (fun q => q)).trans ((hC2.cell (p := ⟨w.heap.size, 0, none⟩) hs1 HNE.out).trans ((hC1.cell (p := ⟨w.heap.size, 0, none⟩) (Nat.lt_succ_self _) (fun q => q)).trans c0)))
      | (exact (hC2.cell (p := ⟨w.heap.size, 0, none⟩) hs1 HNE.out).trans ((hC1.cell (p := ⟨w.heap.size, 0, none⟩) (Nat.lt_succ_self _) (fun q => q)).trans c0))
      | (exact (hC1.cell (p := ⟨w.heap.size, 0, none⟩) (Nat.lt_succ_self _) (fun q => q)).trans c0))
    (first
      | (refine upon_make_blk _ 57 52 i0 .u64 0 Tryd.underlying57 hi hz0 hz1 .i64 .i64 n HM3.out HM4.out (w.heap.size + 1) (HSZ.out _) ?_; intro w1 hown1 hC1; have hs1 := hC1.size; rw [HSZ.out] at hs1; have hsrc := dg_news (Dg.ch hC1 HDX0.out.drew HXB2.out); have HSRC := Lib.hid hsrc; clear hsrc; have HOWN1 := Lib.hid hown1; clear hown1)
      | (refine step_append_src _ (by rfl) _ _ 57 (by rfl) _ 52 i0 _ 8 Tryd.underlying57 hi hz0 hz1 hz2 rfl _ n _ (by rfl) HOWN1.out px x cx ((ds X).map U) (by rfl) HXM.out HNONE.out HSRC.out (ints_one _) HM1.out HM2.out hs1 ?_; intro v2 w2 hown2 hgrow2; have hC2 := Ch.of_grown_own hgrow2; clear hgrow2; rw [HCAST.out] at hown2; obtain ⟨p2, c2, rfl, hd2, hnc2, hcm2, hp2⟩ := dg_of_own hown2 HZS.out; have hCC := (hC0.drew.trans (hC1.mono (Nat.le_succ _) (fun _ _ q => q))).trans (hC2.mono (Nat.le_trans (Nat.le_succ _) hs1) (fun k hk q => absurd q (Nat.ne_of_lt (Nat.lt_succ_of_lt hk)))); have htr := dg_take hd2 (tlen zs) HTLE.out; rw [HTD.out] at htr; have HTR := Lib.hid htr; have HD2 := Lib.hid hd2; have HMD2 := Lib.hid (Dg.ch hCC HDM.out HXM2.out); have HOWN2 := Lib.hid hown2; clear hown2 hd2 htr)
      | (go_at_call 73; refine (dtrim_any p2 (n + x) c2 zs _ HD2.out hnc2 hcm2).mono ?_; rintro e w3 ⟨rfl, rfl⟩)
      | (go_at_call 56; refine (divide_any (tlen zs) n c2 cm (X * D ^ n) M p2 pm _ HTR.out HMD2.out HN3.out HN4.out hM).mono ?_; rintro e w4 ⟨v3, v4, rfl, _, ho4, hC4⟩; have HO4 := Lib.hid ho4; clear ho4))
  have hds0 : ds 0 = [] := List.eq_nil_of_length_eq_zero (Nat.le_zero.1 ((ds_len 0 0).2 (by decide)))
  have hown4 : OwnD w4 w.heap.size v4 (X * D ^ n % M) := by
    rcases HO4.out with ⟨hlt, he⟩ | ho
    · have hX0 : X = 0 := by
        rcases Nat.eq_zero_or_pos X with h | h
        · exact h
        · have h1 := (ds_len M n).1 (by rw [HN.out]; exact Nat.le_refl _)
          have h2 := Nat.mul_le_mul_right (D ^ n) h
          omega
      have hz : tlen zs = 0 := by
        have h1 := HTD.out
        rw [hX0, Nat.zero_mul] at h1
        have h2 : (zs.take (tlen zs)).length = tlen zs := by rw [List.length_take, Nat.min_eq_left (tlen_le zs)]
        rw [h1] at h2
        rw [← h2, hds0]
        rfl
      have hn0 : 0 < n := by rw [← HN.out]; exact ds_pos_len hM
      rw [he, hz, hX0, Nat.zero_mul, Nat.zero_mod]
      unfold OwnD
      rw [hds0]
      obtain ⟨_, h2⟩ := HOWN2.out
      rcases h2 with ⟨q, _⟩ | ⟨g, cap, cur, hv, hb, hg, hn, hm, hs, ht⟩
      · simp only [Value.slice.injEq] at q
        omega
      · simp only [Value.slice.injEq] at hv
        obtain ⟨rfl, _, rfl⟩ := hv
        have hl := (Array.getElem?_eq_some_iff.1 hg).1
        exact ⟨rfl, .inr ⟨g, _, cur, rfl, by omega, by rw [hC4.block g hl (fun q => q)]; exact hg, Nat.zero_le _, hm, hs, by simp⟩⟩
    · exact ho.mono (Nat.le_trans (Nat.le_trans (Nat.le_succ _) hs1) hC2.size)
  have hC6 := hCC.step0 hC4 (Nat.le_refl _)
  have hrl : (ds (X * D ^ n % M)).length ≤ n := (ds_len _ _).2 (Nat.lt_trans (Nat.mod_lt _ hM) ((ds_len M n).1 (by rw [HN.out]; exact Nat.le_refl _)))
  obtain ⟨R, hR⟩ : ∃ R, X * D ^ n % M = R := ⟨_, rfl⟩
  rw [hR] at hown4 hrl
  have HRR := Lib.hid hR; clear hR
  obtain ⟨r, hr⟩ : ∃ r, (ds R).length = r := ⟨_, rfl⟩
  have hdg := hown4.dg
  unfold OwnD at hown4
  rw [hr] at hown4 hdg hrl
  obtain ⟨p4, c4, rfl, hd4, hnc4, hcm4, hp4⟩ := hdg
  have hsub : ((n : Int) - (r : Int)) = ((n - r : Nat) : Int) := by omega
  obtain ⟨p5, c5, w5, hrun, hd5, hC5⟩ := run_append_zeros_own w4 57 3 57 i0 .i64 .i64 Tryd.underlying57 Tryd.underlying3 hi hz0 hz1 hz2 w.heap.size r (n - r) _ (ds R) hown4 (dok_ds R) (by omega) hC6.size
  rw [← hsub, show r + (n - r) = n from by omega] at hrun
  rw [show r + (n - r) = n from by omega] at hd5
  have hv5 : dv (ds R ++ List.replicate (n - r) 0) = X * D ^ n % M := by rw [dv_append, dv_zeros, Nat.mul_zero, Nat.add_zero, dv_ds, HRR.out]
  have HRUN := Lib.hid hrun; clear hrun hsub
  have HD5 := Lib.hid hd5; clear hd5
  have HV5 := Lib.hid hv5; clear hv5
  have HR := Lib.hid hr; clear hr
  clear hd4 hown4
  go_wp2_with (at_builtin; refine Lib.wpList_append_run _ rfl _ _ 57 3 rfl _ _ rfl rfl _ _ HRUN.out ?_)
  go_ret
  exact ⟨_, rfl, ⟨p5, c5, _, rfl, HD5.out, HV5.out⟩, hC6.trans hC5⟩
end Go.Proofs.YtcghnkdfhiancaaDoor
