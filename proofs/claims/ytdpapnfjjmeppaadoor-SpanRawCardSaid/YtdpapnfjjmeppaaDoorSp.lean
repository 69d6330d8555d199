/- Package tithingref05: pieces, Norm, Union, Meet, Less. -/
import Derived.Test.YtdpapnfjjmeppaaDoorSo
import Derived.Test.YtdpapnfjjmeppaaDoorSk
import Derived.BigQuiet
import Derived.Deep.RegionHeld3
namespace Go.Proofs.YtdpapnfjjmeppaaDoor
open Go.RowKit Go.Shelf
/-- Where the loop of pieces stands. -/
def PcAt (C : List Int) (Q : Int → Bool) (i : Nat) (l : List Spn.Sp) : Prop := (C = [] ∧ l = [] ∧ i = 0) ∨ ∃ t, C[i]? = some t ∧ Spn.Pc Q t l
theorem pc_start {a b : List Spn.Sp} {C : List Int} (hc : Spn.rb (a ++ b) = C) {Q : Int → Bool} {q : Bool → Bool → Bool} (hQ : ∀ d, Q d = q (Spn.has a d) (Spn.has b d)) (h0 : q false false = false) : PcAt C Q 0 [] := by
  rcases hl : C[0]? with _ | t
  · left
    refine ⟨?_, rfl, rfl⟩
    rcases C with _ | ⟨x, C⟩
    · rfl
    · simp at hl
  · right
    exact ⟨t, hl, Spn.Pc.start fun d hd => by rw [hQ, (Spn.rb_first hc hl d hd).1, (Spn.rb_first hc hl d hd).2, h0]⟩
theorem pc_end {a b : List Spn.Sp} {C : List Int} (hc : Spn.rb (a ++ b) = C) {Q : Int → Bool} {q : Bool → Bool → Bool} (hQ : ∀ d, Q d = q (Spn.has a d) (Spn.has b d)) (h0 : q false false = false) {i : Nat} {l : List Spn.Sp} (hi : C.length ≤ i + 1) (h : PcAt C Q i l) : Spn.nf Q = l := by
  rcases h with ⟨rfl, rfl, _⟩ | ⟨t, ht, hp⟩
  · exact Spn.nf_eq Spn.Nrm.nil fun d => by rw [hQ, (Spn.rb_none hc d).1, (Spn.rb_none hc d).2, h0]; rfl
  · have hlt := (List.getElem?_eq_some_iff.1 ht).1
    exact hp.fin fun d hd => by rw [hQ, (Spn.rb_last hc ht (by omega) d hd).1, (Spn.rb_last hc ht (by omega) d hd).2, h0]
theorem own_heap {w w' : World} {B n size : Nat} {e : TypeId} {v : Value} {xs : List Value} (h : w.ownsRow B e size v n xs) (e1 : w'.heap = w.heap) : w'.ownsRow B e size v n xs := own_keep h fun g _ => by rw [e1]
theorem ch_heap {B : Nat} {R : Nat → Prop} {w w1 w' : World} (h : Ch B R w w1) (e1 : w'.heap = w1.heap) (e2 : w'.os = w1.os ∧ w'.tape = w1.tape ∧ w'.output = w1.output) : Ch B R w w' :=
  ⟨e2.1.trans h.os, e2.2.1.trans h.tape, e2.2.2.trans h.output, by rw [e1]; exact h.size, fun k hk hr => by rw [e1]; exact h.block k hk hr⟩
theorem own_set {w : World} {B n size g cap : Nat} {e : TypeId} {xs : List Value} (h : w.ownsRow B e size (.slice (some ⟨g, 0, none⟩) n cap) n xs) {j : Nat} (_hj : j < xs.length) (u : Value) : (w.setCell ⟨g, j, none⟩ u).ownsRow B e size (.slice (some ⟨g, 0, none⟩) n cap) n (xs.set j u) := by
  obtain ⟨h1, ⟨hv, _⟩ | ⟨g', cap', cur, hv, hb, hg, hlt, hm, hs, ht⟩⟩ := h
  · cases hv
  · simp only [Value.slice.injEq, Option.some.injEq, Addr.mk.injEq, and_true, true_and] at hv
    obtain ⟨rfl, rfl⟩ := hv
    refine ⟨by simpa using h1, .inr ⟨g, cap, cur.setIfInBounds j u, rfl, hb, ?_, hlt, hm, by simpa using hs, ?_⟩⟩
    · simp [World.setCell, Array.getElem?_modify, hg]
    · rw [Array.toList_setIfInBounds, ← ht, List.take_set]
theorem own_at {w : World} {B n size : Nat} {e : TypeId} {p : Option Addr} {cap : Nat} {xs : List Value} (h : w.ownsRow B e size (.slice p n cap) n xs) (hn : 0 < n) : ∃ g, p = some ⟨g, 0, none⟩ ∧ B ≤ g ∧ g < w.heap.size ∧ (∀ j u, xs[j]? = some u → w.cell? ⟨g, j, none⟩ = some u) ∧ ∀ j, w.frozen? ⟨g, j, none⟩ = false := by
  obtain ⟨h1, ⟨hv, h0⟩ | ⟨g, cap', cur, hv, hb, hg, hlt, hm, hs, ht⟩⟩ := h
  · omega
  · simp only [Value.slice.injEq] at hv
    obtain ⟨rfl, -, rfl⟩ := hv
    have hB : Blk w g e cur.toList := by unfold Blk; simpa using hg
    refine ⟨g, rfl, hb, hB.lt, fun j u hu => ?_, fun j => hB.frozen j⟩
    rw [hB.cell]
    have := (List.getElem?_eq_some_iff.1 hu).1
    rw [← ht] at hu this
    rwa [List.getElem?_take_of_lt (by rw [List.length_take] at this; omega)] at hu
/-- 'append' to a slice of one's own, at a step of a region that draws its order. -/
theorem step_append {P : Program} (w : World) {ops : Array Oper} {o : Oper} {a : Act} {K : Act → World → Prop} {Q : Exit → Act → World → Prop} {E : Prop} (hgd : o.guard = none) (s x : Operand) (t : TypeId)
    (ho : o.op = .call { callee := .builtin .append, args := #[s, x], argTypes := #[t, t] })
    (base : Nat) (e : TypeId) (i : TypeInfo) (z : Value) (size bytes : Nat) (ht : P.underlying t = some (.slice e)) (hi : P.info? e = some i) (hz : i.zero = some z)
    (hsize : i.size = size) (hby : i.bytes = bytes) (hzs : z.cells.size = size) (hsz : 0 < size)
    (v : Value) (n : Nat) (xs : List Value) (hs : a.eval s = v) (hown : w.ownsRow base e size v n xs)
    (ad : Addr) (m c : Nat) (news : List Value) (hx : a.eval x = .slice (some ad) m c) (hl : news.length = m * size) (hnews : ∀ j u, news[j]? = some u → w.cell? (ad.add j) = some u) (h1 : ∀ u ∈ news, u.oneCell' = true)
    (h63 : n + m ≤ maxLen) (hbytes : (n + m) * bytes ≤ 140737488355328) (hbase : base ≤ w.heap.size)
    (h : ∀ v' w', w'.ownsRow base e size v' (n + m) (xs ++ news) → w.grownBy w' v.ownBlock → K (a.put o.dst v') w') :
    if Region.wanted o (yielded ops a.tmps) = true then Oper.wp P o a w K Q else E := by
  have hw : Region.wanted o (yielded ops a.tmps) = true := by simp [Region.wanted, hgd]
  rw [if_pos hw]
  exact wp_append_own w s x t ho base e i z size bytes ht hi hz hsize hby hzs hsz v n xs hs hown ad m c news hx hl hnews h1 h63 hbytes hbase fun v' w' h2 h3 _ => h v' w' h2 h3
theorem flat_last (l : List Spn.Sp) (f e : Int) : ((l ++ [(f, e)]).flatMap spc)[l.length * 2 + 1]? = some (iz e) := by
  rw [List.flatMap_append, List.getElem?_append_right (by rw [flat_len spc_len]; omega), flat_len spc_len, show l.length * 2 + 1 - l.length * 2 = 1 by omega]
  rfl
theorem flat_set (l : List Spn.Sp) (f e e' : Int) : ((l ++ [(f, e)]).flatMap spc).set (l.length * 2 + 1) (iz e') = (l ++ [(f, e')]).flatMap spc := by
  have hl := flat_len spc_len l
  rw [List.flatMap_append, List.flatMap_append, List.set_append_right _ _ (by omega), hl, show l.length * 2 + 1 - l.length * 2 = 1 by omega]
  rfl
set_option maxRecDepth 100000 in
set_option maxHeartbeats 8000000 in
theorem pieces0 (a b : List Spn.Sp) (pa pb : Option Addr) (na nb ca cb : Nat) (w : World) (ha : Rd spc 2 w pa na a) (hb : Rd spc 2 w pb nb b) (hna : na ≤ 1000) (hnb : nb ≤ 1000) :
    Calls Tryd.prog 39 #[.slice pa na ca, .slice pb nb cb, iz 0] w (Ys w (Spn.nf (dUnion a b))) := by
  have HA := Lib.hid ha
  have HB := Lib.hid hb
  have H0 := Lib.hid (refBounds_any a b pa pb na nb ca cb w ha hb hna hnb)
  have hlen := (Spn.rb_spec (a ++ b)).2.1
  rw [List.length_append, ha.len, hb.len] at hlen
  have HQQ := Lib.hid (show ∀ d, dUnion a b d = kUnion (Spn.has a d) (Spn.has b d) from fun _ => rfl)
  obtain ⟨Q, hQ⟩ : ∃ Q, dUnion a b = Q := ⟨_, rfl⟩
  rw [hQ] at HQQ ⊢
  obtain ⟨C, hC⟩ : ∃ C, Spn.rb (a ++ b) = C := ⟨_, rfl⟩
  rw [hC] at H0 hlen
  have HCC := Lib.hid hC
  have HLEN := Lib.hid hlen
  clear ha hb hQ hC hlen
  obtain ⟨i0, hi0, hz0, hz1, hz2⟩ := info_parts sp_info
  go_enter Tryd.func39, Tryd.ntmps39
  go_wp2_with fail
  refine H0.out.mono ?_
  rintro e w1 ⟨p, m, c, rfl, hr, hC1⟩
  have HR := Lib.hid hr
  have HC1 := Lib.hid hC1
  have hm : m ≤ 4000 := by have h1 := hr.len; have h2 := HLEN.out; omega
  obtain ⟨G, hG⟩ : ∃ G, w1.heap.size = G := ⟨_, rfl⟩
  have HG := Lib.hid hG
  clear hr hC1 hG H0
  go_wp2_with fail
  go_loopw [8, 9] (fun v b wr => ∃ (i : Nat) (l : List Spn.Sp), b = .int .i64 i ∧ wr.ownsRow G 33 2 v l.length (l.flatMap spc) ∧ Ch G none1 w1 wr ∧ PcAt C Q i l ∧ l.length ≤ i ∧ i ≤ m) (fun _ b _ => m + 1 - (intOf b).toNat)
  case atStart => exact ⟨0, [], rfl, own_nil _ _ _ _, Ch.refl _ _ _, pc_start HCC.out HQQ.out rfl, Nat.le_refl _, Nat.zero_le _⟩
  case round =>
    obtain ⟨i, l, rfl, hown, hC, hpc, hli, him⟩ := hrel
    have HO := Lib.hid hown
    have HC := Lib.hid hC
    have HPC := Lib.hid hpc
    have HWS := Lib.hid (show G ≤ wr.heap.size by have := hC.size; rw [HG.out] at this; exact this)
    clear hown hC hpc
    by_cases hlt : i + 1 < m
    · obtain ⟨g, o, rfl, hg⟩ := HR.out.addr (by omega)
      obtain ⟨t, ht⟩ : ∃ t, C[i]? = some t := ⟨C[i]'(by rw [HR.out.len]; omega), List.getElem?_eq_getElem _⟩
      obtain ⟨t', ht'⟩ : ∃ t, C[i + 1]? = some t := ⟨C[i + 1]'(by rw [HR.out.len]; omega), List.getElem?_eq_getElem _⟩
      have hpc2 : Spn.Pc Q t l := by
        rcases HPC.out with ⟨h1, _, _⟩ | ⟨t2, h1, h2⟩
        · rw [h1] at ht; simp at ht
        · rw [ht] at h1; rw [Option.some.inj h1]; exact h2
      have hgG : g < G := by rw [← HG.out]; exact hg
      have hrr : ∀ W, Ch G none1 w1 W → W.cell? ⟨g, o + i, none⟩ = some (iz t) ∧ W.cell? ⟨g, o + (i + 1), none⟩ = some (iz t') := fun W hW =>
        ⟨(HR.out.chB hW (by intro x hx; cases hx; exact hgG)).in ht, (HR.out.chB hW (by intro x hx; cases hx; exact hgG)).in ht'⟩
      have HCE := Lib.hid hrr
      obtain ⟨c0, c1⟩ := hrr wr HC.out
      have HT := Lib.hid ht'
      have hrg := Spn.rb_range HCC.out ht
      have hrg' := Spn.rb_range HCC.out ht'
      have HTL := Lib.hid (Spn.rb_lt HCC.out ht ht')
      have HRG := Lib.hid (And.intro hrg hrg')
      have HQ2 := Lib.hid (show ∀ d, t ≤ d → d < t' → Q d = kUnion (Spn.has a t) (Spn.has b t) from fun d h1 h2 => by
        have := Spn.rb_between HCC.out ht ht' d h1 h2
        rw [HQQ.out, this.1, this.2])
      have HP2 := Lib.hid hpc2
      have h1 := refHas_any t wr pa na ca a (HA.out.ch (HC1.out.step0 (HC.out.mono (by rw [HG.out]; exact Nat.le_refl _) (fun _ _ q => q)) (Nat.le_refl _))) (by omega)
      have HRB := Lib.hid (fun W (hW : Ch w.heap.size none1 w W) => refHas_any t W pb nb cb b (HB.out.ch hW) (by omega))
      obtain ⟨x, hx⟩ : ∃ x, Spn.has a t = x := ⟨_, rfl⟩
      obtain ⟨y, hy⟩ : ∃ y, Spn.has b t = y := ⟨_, rfl⟩
      rw [hx] at h1 HQ2
      rw [hy] at HQ2 HRB
      have H1 := Lib.hid h1
      have hlb : l.length ≤ 4000 := by omega
      clear hrg hrg' hpc2 hrr h1 hx hy ht ht' HPC
      go_wp2_with fail
      refine H1.out.mono ?_
      rintro e w2 ⟨rfl, hC2⟩
      have HC2 := Lib.hid (HC.out.trans (hC2.mono HWS.out (fun _ _ q => q)))
      have HO2 := Lib.hid (own_ch HO.out hC2 (Nat.le_refl _))
      have HW2 := Lib.hid (HC1.out.step0 (HC2.out.mono (by rw [HG.out]; exact Nat.le_refl _) (fun _ _ q => q)) (Nat.le_refl _))
      clear hC2 c0 c1
      obtain ⟨c0, c1⟩ := HCE.out w2 HC2.out
      go_wp2_with fail
      refine (HRB.out w2 HW2.out).mono ?_
      rintro e w3 ⟨rfl, hC3⟩
      have HC3 := Lib.hid (HC2.out.trans (hC3.mono (by have := HC2.out.size; rw [HG.out] at this; exact this) (fun _ _ q => q)))
      have HO3 := Lib.hid (own_ch HO2.out hC3 (Nat.le_refl _))
      have HWS3 := Lib.hid (show G ≤ w3.heap.size by have := HC3.out.size; rw [HG.out] at this; exact this)
      clear hC3 c0 c1 HC2 HO2 HW2 HO HC HWS
      obtain ⟨c0, c1⟩ := HCE.out w3 HC3.out
      obtain ⟨n, hn⟩ : ∃ n, l.length = n := ⟨_, rfl⟩
      rw [hn] at HO3
      have HN := Lib.hid hn
      have hnl : n ≤ 4000 := by omega
      have hni : n ≤ i := by omega
      obtain ⟨pp, cc, rfl⟩ := own_val HO3.out
      clear hn hlb hli
      cases x <;> cases y
      · skip
        go_wp2_with fail
        go_roundw
        case rel => exact ⟨i + 1, l, by go_num, by rw [HN.out]; exact HO3.out, HC3.out, .inr ⟨t', HT.out, HP2.out.skip (by have := HTL.out; omega) HQ2.out⟩, by rw [HN.out]; omega, by omega⟩
        case measure => simp [intOf]; omega
      · rcases List.eq_nil_or_concat l with hl | ⟨l0, ⟨f, e⟩, hl⟩
        · subst hl
          obtain rfl : n = 0 := by rw [← HN.out]; rfl
          go_wp2_with fail
          go_quiet (fail)
          obtain ⟨W5, hW5⟩ : ∃ W5, w3.drewN nq = W5 := ⟨_, rfl⟩
          rw [hW5]
          have HO5 := Lib.hid (own_heap HO3.out (show W5.heap = w3.heap by rw [← hW5]; rfl))
          have HC5 := Lib.hid (ch_heap HC3.out (show W5.heap = w3.heap by rw [← hW5]; rfl) (by rw [← hW5]; exact ⟨rfl, rfl, rfl⟩))
          have HWS5 := Lib.hid (show G ≤ W5.heap.size by rw [← hW5]; exact HWS3.out)
          obtain ⟨X5, hX5⟩ : ∃ X5, W5.heap.size = X5 := ⟨_, rfl⟩
          have HOA := Lib.hid (show (W5.drew.alloc (.cells #[iz t, iz t'] 33)).ownsRow G 33 2 (.slice pp 0 cc) 0 ((([] : List Spn.Sp)).flatMap spc) from own_ch (own_heap (w' := W5.drew) HO5.out rfl) ((Ch.refl W5.drew.heap.size none1 W5.drew).alloc (Nat.le_refl _) _) (Nat.le_refl _))
          have HNW := Lib.hid (show ∀ j u, [iz t, iz t'][j]? = some u → (W5.drew.alloc (.cells #[iz t, iz t'] 33 (0, 0))).cell? ((⟨X5, 0, none⟩ : Addr).add j) = some u by rw [← hX5]; exact sp_news W5.drew t t')
          have HM1 := Lib.hid (show 0 + 1 ≤ maxLen by unfold maxLen; omega)
          have HM2 := Lib.hid (show (0 + 1) * 16 ≤ 140737488355328 by omega)
          have HBS := Lib.hid (show G ≤ (W5.drew.alloc (.cells #[iz t, iz t'] 33)).heap.size by have := HWS5.out; simp; omega)
          have HCA := Lib.hid ((HC5.out.drew).alloc HWS5.out (.cells #[iz t, iz t'] 33))
          have HE1 := Lib.hid (HCE.out _ HC5.out.drew)
          have HE2 := Lib.hid (HCE.out _ HCA.out)
          clear hW5 c0 c1
          have him2 : i < m := by omega
          have hi1 : (0 : Int) ≤ (i : Int) := by omega
          have hi2 : (i : Int) < (m : Int) := by omega
          have hi3 : (0 : Int) ≤ (i : Int) + 1 := by omega
          have hi4 : (i : Int) + 1 < (m : Int) := by omega
          have hi5 : IntKind.i64.wrap ((i : Int) + 1) = (i : Int) + 1 := by simp [IntKind.wrap, IntKind.bits, IntKind.signed]; omega
          go_wp2_with fail
          go_region_held3 (fun w' => w'.cell? ⟨g, o + i, none⟩ = some (iz t) ∧ w'.cell? ⟨g, o + (i + 1), none⟩ = some (iz t'))
            (first
              | (with_reducible exact HE1.out)
              | (exact HE2.out)
              | go_keep
              | (exact HE3.out))
            (first
              | (refine step_append _ (by rfl) _ _ 24 (by rfl) G 33 i0 _ 2 16 Tryd.underlying24 hi0 hz0 hz1 hz2 rfl (by decide) (.slice pp 0 cc) 0 ((([] : List Spn.Sp)).flatMap spc) (by rfl) HOA.out ⟨X5, 0, none⟩ 1 1 [iz t, iz t'] (by rfl) rfl HNW.out (two_one t t') HM1.out HM2.out HBS.out ?_; intro v6 w6 hown6 hgr6; have HO6 := Lib.hid hown6; have HC6 := Lib.hid (HCA.out.trans (ch_own HBS.out HOA.out hgr6)); have HE3 := Lib.hid (HCE.out _ HC6.out); clear hown6 hgr6))
          go_wp2_with fail
          go_roundw
          case rel =>
            refine ⟨i + 1, ([] : List Spn.Sp) ++ [(t, t')], by go_num, ?_, HC6.out, .inr ⟨t', HT.out, HP2.out.add HRG.out.1.1 HTL.out HRG.out.2.2 (by simp) HQ2.out⟩, by rw [List.length_append, HN.out]; show 0 + 1 ≤ i + 1; omega, by omega⟩
            rw [List.length_append, List.flatMap_append, HN.out]
            exact HO6.out
          case measure => simp [intOf]; omega
        · rw [List.concat_eq_append] at hl
          subst hl
          obtain ⟨k, rfl⟩ : ∃ k, n = k + 1 := ⟨l0.length, by rw [← HN.out]; simp⟩
          have HK0 := Lib.hid (show l0.length = k by have := HN.out; simpa using this)
          obtain ⟨g2, rfl, hg2, hg3, hcl, hfz⟩ := own_at HO3.out (by omega)
          have q0 : w3.cell? ⟨g2, k * 2 + 1, none⟩ = some (iz e) := hcl _ _ (by rw [← HK0.out]; exact flat_last l0 f e)
          have q1 := hfz (k * 2 + 1)
          clear hcl hfz
          by_cases he : e = t
          · subst he
            go_wp2_with fail
            go_quiet (fail)
            obtain ⟨W5, hW5⟩ : ∃ W5, w3.drewN nq = W5 := ⟨_, rfl⟩
            rw [hW5]
            have HO5 := Lib.hid (own_heap HO3.out (show W5.heap = w3.heap by rw [← hW5]; rfl))
            have HC5 := Lib.hid (ch_heap HC3.out (show W5.heap = w3.heap by rw [← hW5]; rfl) (by rw [← hW5]; exact ⟨rfl, rfl, rfl⟩))
            obtain ⟨d0, d1⟩ := HCE.out W5 HC5.out
            have s0 : W5.cell? ⟨g2, k * 2 + 1, none⟩ = some (iz e) := by rw [← hW5]; exact q0
            have s1 : W5.frozen? ⟨g2, k * 2 + 1, none⟩ = false := by rw [← hW5]; exact q1
            clear hW5 c0 c1 q0 q1
            go_wp2_with fail
            go_roundw
            case rel =>
              refine ⟨i + 1, l0 ++ [(f, t')], by go_num, ?_, HC5.out.setCell (p := ⟨g2, k * 2 + 1, none⟩) (.inl hg2) _, .inr ⟨t', HT.out, HP2.out.ext HTL.out HRG.out.2.2 HQ2.out⟩, by rw [List.length_append, HK0.out]; show k + 1 ≤ i + 1; omega, by omega⟩
              have h := own_set HO5.out (j := k * 2 + 1) (by rw [flat_len spc_len, List.length_append, HK0.out]; show _ < (k + 1) * 2; omega) (iz t')
              rw [← HK0.out, flat_set, HK0.out] at h
              rw [List.length_append, HK0.out]
              exact h
            case measure => simp [intOf]; omega
          · have hne : (e == t) = false := beq_eq_false_iff_ne.2 he
            have HFA := Lib.hid (HP2.out.far he)
            clear he
            go_wp2_with fail
            go_quiet (fail)
            obtain ⟨W5, hW5⟩ : ∃ W5, w3.drewN nq = W5 := ⟨_, rfl⟩
            rw [hW5]
            have HO5 := Lib.hid (own_heap HO3.out (show W5.heap = w3.heap by rw [← hW5]; rfl))
            have HC5 := Lib.hid (ch_heap HC3.out (show W5.heap = w3.heap by rw [← hW5]; rfl) (by rw [← hW5]; exact ⟨rfl, rfl, rfl⟩))
            have HWS5 := Lib.hid (show G ≤ W5.heap.size by rw [← hW5]; exact HWS3.out)
            obtain ⟨X5, hX5⟩ : ∃ X5, W5.heap.size = X5 := ⟨_, rfl⟩
            have HOA := Lib.hid (show (W5.drew.alloc (.cells #[iz t, iz t'] 33)).ownsRow G 33 2 (.slice (some ⟨g2, 0, none⟩) (k + 1) cc) (k + 1) ((l0 ++ [(f, e)]).flatMap spc) from own_ch (own_heap (w' := W5.drew) HO5.out rfl) ((Ch.refl W5.drew.heap.size none1 W5.drew).alloc (Nat.le_refl _) _) (Nat.le_refl _))
            have HNW := Lib.hid (show ∀ j u, [iz t, iz t'][j]? = some u → (W5.drew.alloc (.cells #[iz t, iz t'] 33 (0, 0))).cell? ((⟨X5, 0, none⟩ : Addr).add j) = some u by rw [← hX5]; exact sp_news W5.drew t t')
            have HM1 := Lib.hid (show (k + 1) + 1 ≤ maxLen by unfold maxLen; omega)
            have HM2 := Lib.hid (show ((k + 1) + 1) * 16 ≤ 140737488355328 by omega)
            have HBS := Lib.hid (show G ≤ (W5.drew.alloc (.cells #[iz t, iz t'] 33)).heap.size by have := HWS5.out; simp; omega)
            have HCA := Lib.hid ((HC5.out.drew).alloc HWS5.out (.cells #[iz t, iz t'] 33))
            have HE1 := Lib.hid (HCE.out _ HC5.out.drew)
            have HE2 := Lib.hid (HCE.out _ HCA.out)
            clear hW5 c0 c1 q0 q1
            have him2 : i < m := by omega
            have hi1 : (0 : Int) ≤ (i : Int) := by omega
            have hi2 : (i : Int) < (m : Int) := by omega
            have hi3 : (0 : Int) ≤ (i : Int) + 1 := by omega
            have hi4 : (i : Int) + 1 < (m : Int) := by omega
            have hi5 : IntKind.i64.wrap ((i : Int) + 1) = (i : Int) + 1 := by simp [IntKind.wrap, IntKind.bits, IntKind.signed]; omega
            go_wp2_with fail
            go_region_held3 (fun w' => w'.cell? ⟨g, o + i, none⟩ = some (iz t) ∧ w'.cell? ⟨g, o + (i + 1), none⟩ = some (iz t'))
              (first
                | (with_reducible exact HE1.out)
                | (exact HE2.out)
                | go_keep
                | (exact HE3.out))
              (first
                | (refine step_append _ (by rfl) _ _ 24 (by rfl) G 33 i0 _ 2 16 Tryd.underlying24 hi0 hz0 hz1 hz2 rfl (by decide) (.slice (some ⟨g2, 0, none⟩) (k + 1) cc) (k + 1) ((l0 ++ [(f, e)]).flatMap spc) (by rfl) HOA.out ⟨X5, 0, none⟩ 1 1 [iz t, iz t'] (by rfl) rfl HNW.out (two_one t t') HM1.out HM2.out HBS.out ?_; intro v6 w6 hown6 hgr6; have HO6 := Lib.hid hown6; have HC6 := Lib.hid (HCA.out.trans (ch_own HBS.out HOA.out hgr6)); have HE3 := Lib.hid (HCE.out _ HC6.out); clear hown6 hgr6))
            go_wp2_with fail
            go_roundw
            case rel =>
              refine ⟨i + 1, l0 ++ [(f, e)] ++ [(t, t')], by go_num, ?_, HC6.out, .inr ⟨t', HT.out, HP2.out.add HRG.out.1.1 HTL.out HRG.out.2.2 HFA.out HQ2.out⟩, by rw [List.length_append, HN.out]; show (k + 1) + 1 ≤ i + 1; omega, by omega⟩
              rw [List.length_append, List.flatMap_append, HN.out]
              exact HO6.out
            case measure => simp [intOf]; omega
      · rcases List.eq_nil_or_concat l with hl | ⟨l0, ⟨f, e⟩, hl⟩
        · subst hl
          obtain rfl : n = 0 := by rw [← HN.out]; rfl
          go_wp2_with fail
          go_quiet (fail)
          obtain ⟨W5, hW5⟩ : ∃ W5, w3.drewN nq = W5 := ⟨_, rfl⟩
          rw [hW5]
          have HO5 := Lib.hid (own_heap HO3.out (show W5.heap = w3.heap by rw [← hW5]; rfl))
          have HC5 := Lib.hid (ch_heap HC3.out (show W5.heap = w3.heap by rw [← hW5]; rfl) (by rw [← hW5]; exact ⟨rfl, rfl, rfl⟩))
          have HWS5 := Lib.hid (show G ≤ W5.heap.size by rw [← hW5]; exact HWS3.out)
          obtain ⟨X5, hX5⟩ : ∃ X5, W5.heap.size = X5 := ⟨_, rfl⟩
          have HOA := Lib.hid (show (W5.drew.alloc (.cells #[iz t, iz t'] 33)).ownsRow G 33 2 (.slice pp 0 cc) 0 ((([] : List Spn.Sp)).flatMap spc) from own_ch (own_heap (w' := W5.drew) HO5.out rfl) ((Ch.refl W5.drew.heap.size none1 W5.drew).alloc (Nat.le_refl _) _) (Nat.le_refl _))
          have HNW := Lib.hid (show ∀ j u, [iz t, iz t'][j]? = some u → (W5.drew.alloc (.cells #[iz t, iz t'] 33 (0, 0))).cell? ((⟨X5, 0, none⟩ : Addr).add j) = some u by rw [← hX5]; exact sp_news W5.drew t t')
          have HM1 := Lib.hid (show 0 + 1 ≤ maxLen by unfold maxLen; omega)
          have HM2 := Lib.hid (show (0 + 1) * 16 ≤ 140737488355328 by omega)
          have HBS := Lib.hid (show G ≤ (W5.drew.alloc (.cells #[iz t, iz t'] 33)).heap.size by have := HWS5.out; simp; omega)
          have HCA := Lib.hid ((HC5.out.drew).alloc HWS5.out (.cells #[iz t, iz t'] 33))
          have HE1 := Lib.hid (HCE.out _ HC5.out.drew)
          have HE2 := Lib.hid (HCE.out _ HCA.out)
          clear hW5 c0 c1
          have him2 : i < m := by omega
          have hi1 : (0 : Int) ≤ (i : Int) := by omega
          have hi2 : (i : Int) < (m : Int) := by omega
          have hi3 : (0 : Int) ≤ (i : Int) + 1 := by omega
          have hi4 : (i : Int) + 1 < (m : Int) := by omega
          have hi5 : IntKind.i64.wrap ((i : Int) + 1) = (i : Int) + 1 := by simp [IntKind.wrap, IntKind.bits, IntKind.signed]; omega
          go_wp2_with fail
          go_region_held3 (fun w' => w'.cell? ⟨g, o + i, none⟩ = some (iz t) ∧ w'.cell? ⟨g, o + (i + 1), none⟩ = some (iz t'))
            (first
              | (with_reducible exact HE1.out)
              | (exact HE2.out)
              | go_keep
              | (exact HE3.out))
            (first
              | (refine step_append _ (by rfl) _ _ 24 (by rfl) G 33 i0 _ 2 16 Tryd.underlying24 hi0 hz0 hz1 hz2 rfl (by decide) (.slice pp 0 cc) 0 ((([] : List Spn.Sp)).flatMap spc) (by rfl) HOA.out ⟨X5, 0, none⟩ 1 1 [iz t, iz t'] (by rfl) rfl HNW.out (two_one t t') HM1.out HM2.out HBS.out ?_; intro v6 w6 hown6 hgr6; have HO6 := Lib.hid hown6; have HC6 := Lib.hid (HCA.out.trans (ch_own HBS.out HOA.out hgr6)); have HE3 := Lib.hid (HCE.out _ HC6.out); clear hown6 hgr6))
          go_wp2_with fail
          go_roundw
          case rel =>
            refine ⟨i + 1, ([] : List Spn.Sp) ++ [(t, t')], by go_num, ?_, HC6.out, .inr ⟨t', HT.out, HP2.out.add HRG.out.1.1 HTL.out HRG.out.2.2 (by simp) HQ2.out⟩, by rw [List.length_append, HN.out]; show 0 + 1 ≤ i + 1; omega, by omega⟩
            rw [List.length_append, List.flatMap_append, HN.out]
            exact HO6.out
          case measure => simp [intOf]; omega
        · rw [List.concat_eq_append] at hl
          subst hl
          obtain ⟨k, rfl⟩ : ∃ k, n = k + 1 := ⟨l0.length, by rw [← HN.out]; simp⟩
          have HK0 := Lib.hid (show l0.length = k by have := HN.out; simpa using this)
          obtain ⟨g2, rfl, hg2, hg3, hcl, hfz⟩ := own_at HO3.out (by omega)
          have q0 : w3.cell? ⟨g2, k * 2 + 1, none⟩ = some (iz e) := hcl _ _ (by rw [← HK0.out]; exact flat_last l0 f e)
          have q1 := hfz (k * 2 + 1)
          clear hcl hfz
          by_cases he : e = t
          · subst he
            go_wp2_with fail
            go_quiet (fail)
            obtain ⟨W5, hW5⟩ : ∃ W5, w3.drewN nq = W5 := ⟨_, rfl⟩
            rw [hW5]
            have HO5 := Lib.hid (own_heap HO3.out (show W5.heap = w3.heap by rw [← hW5]; rfl))
            have HC5 := Lib.hid (ch_heap HC3.out (show W5.heap = w3.heap by rw [← hW5]; rfl) (by rw [← hW5]; exact ⟨rfl, rfl, rfl⟩))
            obtain ⟨d0, d1⟩ := HCE.out W5 HC5.out
            have s0 : W5.cell? ⟨g2, k * 2 + 1, none⟩ = some (iz e) := by rw [← hW5]; exact q0
            have s1 : W5.frozen? ⟨g2, k * 2 + 1, none⟩ = false := by rw [← hW5]; exact q1
            clear hW5 c0 c1 q0 q1
            go_wp2_with fail
            go_roundw
            case rel =>
              refine ⟨i + 1, l0 ++ [(f, t')], by go_num, ?_, HC5.out.setCell (p := ⟨g2, k * 2 + 1, none⟩) (.inl hg2) _, .inr ⟨t', HT.out, HP2.out.ext HTL.out HRG.out.2.2 HQ2.out⟩, by rw [List.length_append, HK0.out]; show k + 1 ≤ i + 1; omega, by omega⟩
              have h := own_set HO5.out (j := k * 2 + 1) (by rw [flat_len spc_len, List.length_append, HK0.out]; show _ < (k + 1) * 2; omega) (iz t')
              rw [← HK0.out, flat_set, HK0.out] at h
              rw [List.length_append, HK0.out]
              exact h
            case measure => simp [intOf]; omega
          · have hne : (e == t) = false := beq_eq_false_iff_ne.2 he
            have HFA := Lib.hid (HP2.out.far he)
            clear he
            go_wp2_with fail
            go_quiet (fail)
            obtain ⟨W5, hW5⟩ : ∃ W5, w3.drewN nq = W5 := ⟨_, rfl⟩
            rw [hW5]
            have HO5 := Lib.hid (own_heap HO3.out (show W5.heap = w3.heap by rw [← hW5]; rfl))
            have HC5 := Lib.hid (ch_heap HC3.out (show W5.heap = w3.heap by rw [← hW5]; rfl) (by rw [← hW5]; exact ⟨rfl, rfl, rfl⟩))
            have HWS5 := Lib.hid (show G ≤ W5.heap.size by rw [← hW5]; exact HWS3.out)
            obtain ⟨X5, hX5⟩ : ∃ X5, W5.heap.size = X5 := ⟨_, rfl⟩
            have HOA := Lib.hid (show (W5.drew.alloc (.cells #[iz t, iz t'] 33)).ownsRow G 33 2 (.slice (some ⟨g2, 0, none⟩) (k + 1) cc) (k + 1) ((l0 ++ [(f, e)]).flatMap spc) from own_ch (own_heap (w' := W5.drew) HO5.out rfl) ((Ch.refl W5.drew.heap.size none1 W5.drew).alloc (Nat.le_refl _) _) (Nat.le_refl _))
            have HNW := Lib.hid (show ∀ j u, [iz t, iz t'][j]? = some u → (W5.drew.alloc (.cells #[iz t, iz t'] 33 (0, 0))).cell? ((⟨X5, 0, none⟩ : Addr).add j) = some u by rw [← hX5]; exact sp_news W5.drew t t')
            have HM1 := Lib.hid (show (k + 1) + 1 ≤ maxLen by unfold maxLen; omega)
            have HM2 := Lib.hid (show ((k + 1) + 1) * 16 ≤ 140737488355328 by omega)
            have HBS := Lib.hid (show G ≤ (W5.drew.alloc (.cells #[iz t, iz t'] 33)).heap.size by have := HWS5.out; simp; omega)
            have HCA := Lib.hid ((HC5.out.drew).alloc HWS5.out (.cells #[iz t, iz t'] 33))
            have HE1 := Lib.hid (HCE.out _ HC5.out.drew)
            have HE2 := Lib.hid (HCE.out _ HCA.out)
            clear hW5 c0 c1 q0 q1
            have him2 : i < m := by omega
            have hi1 : (0 : Int) ≤ (i : Int) := by omega
            have hi2 : (i : Int) < (m : Int) := by omega
            have hi3 : (0 : Int) ≤ (i : Int) + 1 := by omega
            have hi4 : (i : Int) + 1 < (m : Int) := by omega
            have hi5 : IntKind.i64.wrap ((i : Int) + 1) = (i : Int) + 1 := by simp [IntKind.wrap, IntKind.bits, IntKind.signed]; omega
            go_wp2_with fail
            go_region_held3 (fun w' => w'.cell? ⟨g, o + i, none⟩ = some (iz t) ∧ w'.cell? ⟨g, o + (i + 1), none⟩ = some (iz t'))
              (first
                | (with_reducible exact HE1.out)
                | (exact HE2.out)
                | go_keep
                | (exact HE3.out))
              (first
                | (refine step_append _ (by rfl) _ _ 24 (by rfl) G 33 i0 _ 2 16 Tryd.underlying24 hi0 hz0 hz1 hz2 rfl (by decide) (.slice (some ⟨g2, 0, none⟩) (k + 1) cc) (k + 1) ((l0 ++ [(f, e)]).flatMap spc) (by rfl) HOA.out ⟨X5, 0, none⟩ 1 1 [iz t, iz t'] (by rfl) rfl HNW.out (two_one t t') HM1.out HM2.out HBS.out ?_; intro v6 w6 hown6 hgr6; have HO6 := Lib.hid hown6; have HC6 := Lib.hid (HCA.out.trans (ch_own HBS.out HOA.out hgr6)); have HE3 := Lib.hid (HCE.out _ HC6.out); clear hown6 hgr6))
            go_wp2_with fail
            go_roundw
            case rel =>
              refine ⟨i + 1, l0 ++ [(f, e)] ++ [(t, t')], by go_num, ?_, HC6.out, .inr ⟨t', HT.out, HP2.out.add HRG.out.1.1 HTL.out HRG.out.2.2 HFA.out HQ2.out⟩, by rw [List.length_append, HN.out]; show (k + 1) + 1 ≤ i + 1; omega, by omega⟩
              rw [List.length_append, List.flatMap_append, HN.out]
              exact HO6.out
            case measure => simp [intOf]; omega
      · rcases List.eq_nil_or_concat l with hl | ⟨l0, ⟨f, e⟩, hl⟩
        · subst hl
          obtain rfl : n = 0 := by rw [← HN.out]; rfl
          go_wp2_with fail
          go_quiet (fail)
          obtain ⟨W5, hW5⟩ : ∃ W5, w3.drewN nq = W5 := ⟨_, rfl⟩
          rw [hW5]
          have HO5 := Lib.hid (own_heap HO3.out (show W5.heap = w3.heap by rw [← hW5]; rfl))
          have HC5 := Lib.hid (ch_heap HC3.out (show W5.heap = w3.heap by rw [← hW5]; rfl) (by rw [← hW5]; exact ⟨rfl, rfl, rfl⟩))
          have HWS5 := Lib.hid (show G ≤ W5.heap.size by rw [← hW5]; exact HWS3.out)
          obtain ⟨X5, hX5⟩ : ∃ X5, W5.heap.size = X5 := ⟨_, rfl⟩
          have HOA := Lib.hid (show (W5.drew.alloc (.cells #[iz t, iz t'] 33)).ownsRow G 33 2 (.slice pp 0 cc) 0 ((([] : List Spn.Sp)).flatMap spc) from own_ch (own_heap (w' := W5.drew) HO5.out rfl) ((Ch.refl W5.drew.heap.size none1 W5.drew).alloc (Nat.le_refl _) _) (Nat.le_refl _))
          have HNW := Lib.hid (show ∀ j u, [iz t, iz t'][j]? = some u → (W5.drew.alloc (.cells #[iz t, iz t'] 33 (0, 0))).cell? ((⟨X5, 0, none⟩ : Addr).add j) = some u by rw [← hX5]; exact sp_news W5.drew t t')
          have HM1 := Lib.hid (show 0 + 1 ≤ maxLen by unfold maxLen; omega)
          have HM2 := Lib.hid (show (0 + 1) * 16 ≤ 140737488355328 by omega)
          have HBS := Lib.hid (show G ≤ (W5.drew.alloc (.cells #[iz t, iz t'] 33)).heap.size by have := HWS5.out; simp; omega)
          have HCA := Lib.hid ((HC5.out.drew).alloc HWS5.out (.cells #[iz t, iz t'] 33))
          have HE1 := Lib.hid (HCE.out _ HC5.out.drew)
          have HE2 := Lib.hid (HCE.out _ HCA.out)
          clear hW5 c0 c1
          have him2 : i < m := by omega
          have hi1 : (0 : Int) ≤ (i : Int) := by omega
          have hi2 : (i : Int) < (m : Int) := by omega
          have hi3 : (0 : Int) ≤ (i : Int) + 1 := by omega
          have hi4 : (i : Int) + 1 < (m : Int) := by omega
          have hi5 : IntKind.i64.wrap ((i : Int) + 1) = (i : Int) + 1 := by simp [IntKind.wrap, IntKind.bits, IntKind.signed]; omega
          go_wp2_with fail
          go_region_held3 (fun w' => w'.cell? ⟨g, o + i, none⟩ = some (iz t) ∧ w'.cell? ⟨g, o + (i + 1), none⟩ = some (iz t'))
            (first
              | (with_reducible exact HE1.out)
              | (exact HE2.out)
              | go_keep
              | (exact HE3.out))
            (first
              | (refine step_append _ (by rfl) _ _ 24 (by rfl) G 33 i0 _ 2 16 Tryd.underlying24 hi0 hz0 hz1 hz2 rfl (by decide) (.slice pp 0 cc) 0 ((([] : List Spn.Sp)).flatMap spc) (by rfl) HOA.out ⟨X5, 0, none⟩ 1 1 [iz t, iz t'] (by rfl) rfl HNW.out (two_one t t') HM1.out HM2.out HBS.out ?_; intro v6 w6 hown6 hgr6; have HO6 := Lib.hid hown6; have HC6 := Lib.hid (HCA.out.trans (ch_own HBS.out HOA.out hgr6)); have HE3 := Lib.hid (HCE.out _ HC6.out); clear hown6 hgr6))
          go_wp2_with fail
          go_roundw
          case rel =>
            refine ⟨i + 1, ([] : List Spn.Sp) ++ [(t, t')], by go_num, ?_, HC6.out, .inr ⟨t', HT.out, HP2.out.add HRG.out.1.1 HTL.out HRG.out.2.2 (by simp) HQ2.out⟩, by rw [List.length_append, HN.out]; show 0 + 1 ≤ i + 1; omega, by omega⟩
            rw [List.length_append, List.flatMap_append, HN.out]
            exact HO6.out
          case measure => simp [intOf]; omega
        · rw [List.concat_eq_append] at hl
          subst hl
          obtain ⟨k, rfl⟩ : ∃ k, n = k + 1 := ⟨l0.length, by rw [← HN.out]; simp⟩
          have HK0 := Lib.hid (show l0.length = k by have := HN.out; simpa using this)
          obtain ⟨g2, rfl, hg2, hg3, hcl, hfz⟩ := own_at HO3.out (by omega)
          have q0 : w3.cell? ⟨g2, k * 2 + 1, none⟩ = some (iz e) := hcl _ _ (by rw [← HK0.out]; exact flat_last l0 f e)
          have q1 := hfz (k * 2 + 1)
          clear hcl hfz
          by_cases he : e = t
          · subst he
            go_wp2_with fail
            go_quiet (fail)
            obtain ⟨W5, hW5⟩ : ∃ W5, w3.drewN nq = W5 := ⟨_, rfl⟩
            rw [hW5]
            have HO5 := Lib.hid (own_heap HO3.out (show W5.heap = w3.heap by rw [← hW5]; rfl))
            have HC5 := Lib.hid (ch_heap HC3.out (show W5.heap = w3.heap by rw [← hW5]; rfl) (by rw [← hW5]; exact ⟨rfl, rfl, rfl⟩))
            obtain ⟨d0, d1⟩ := HCE.out W5 HC5.out
            have s0 : W5.cell? ⟨g2, k * 2 + 1, none⟩ = some (iz e) := by rw [← hW5]; exact q0
            have s1 : W5.frozen? ⟨g2, k * 2 + 1, none⟩ = false := by rw [← hW5]; exact q1
            clear hW5 c0 c1 q0 q1
            go_wp2_with fail
            go_roundw
            case rel =>
              refine ⟨i + 1, l0 ++ [(f, t')], by go_num, ?_, HC5.out.setCell (p := ⟨g2, k * 2 + 1, none⟩) (.inl hg2) _, .inr ⟨t', HT.out, HP2.out.ext HTL.out HRG.out.2.2 HQ2.out⟩, by rw [List.length_append, HK0.out]; show k + 1 ≤ i + 1; omega, by omega⟩
              have h := own_set HO5.out (j := k * 2 + 1) (by rw [flat_len spc_len, List.length_append, HK0.out]; show _ < (k + 1) * 2; omega) (iz t')
              rw [← HK0.out, flat_set, HK0.out] at h
              rw [List.length_append, HK0.out]
              exact h
            case measure => simp [intOf]; omega
          · have hne : (e == t) = false := beq_eq_false_iff_ne.2 he
            have HFA := Lib.hid (HP2.out.far he)
            clear he
            go_wp2_with fail
            go_quiet (fail)
            obtain ⟨W5, hW5⟩ : ∃ W5, w3.drewN nq = W5 := ⟨_, rfl⟩
            rw [hW5]
            have HO5 := Lib.hid (own_heap HO3.out (show W5.heap = w3.heap by rw [← hW5]; rfl))
            have HC5 := Lib.hid (ch_heap HC3.out (show W5.heap = w3.heap by rw [← hW5]; rfl) (by rw [← hW5]; exact ⟨rfl, rfl, rfl⟩))
            have HWS5 := Lib.hid (show G ≤ W5.heap.size by rw [← hW5]; exact HWS3.out)
            obtain ⟨X5, hX5⟩ : ∃ X5, W5.heap.size = X5 := ⟨_, rfl⟩
            have HOA := Lib.hid (show (W5.drew.alloc (.cells #[iz t, iz t'] 33)).ownsRow G 33 2 (.slice (some ⟨g2, 0, none⟩) (k + 1) cc) (k + 1) ((l0 ++ [(f, e)]).flatMap spc) from own_ch (own_heap (w' := W5.drew) HO5.out rfl) ((Ch.refl W5.drew.heap.size none1 W5.drew).alloc (Nat.le_refl _) _) (Nat.le_refl _))
            have HNW := Lib.hid (show ∀ j u, [iz t, iz t'][j]? = some u → (W5.drew.alloc (.cells #[iz t, iz t'] 33 (0, 0))).cell? ((⟨X5, 0, none⟩ : Addr).add j) = some u by rw [← hX5]; exact sp_news W5.drew t t')
            have HM1 := Lib.hid (show (k + 1) + 1 ≤ maxLen by unfold maxLen; omega)
            have HM2 := Lib.hid (show ((k + 1) + 1) * 16 ≤ 140737488355328 by omega)
            have HBS := Lib.hid (show G ≤ (W5.drew.alloc (.cells #[iz t, iz t'] 33)).heap.size by have := HWS5.out; simp; omega)
            have HCA := Lib.hid ((HC5.out.drew).alloc HWS5.out (.cells #[iz t, iz t'] 33))
            have HE1 := Lib.hid (HCE.out _ HC5.out.drew)
            have HE2 := Lib.hid (HCE.out _ HCA.out)
            clear hW5 c0 c1 q0 q1
            have him2 : i < m := by omega
            have hi1 : (0 : Int) ≤ (i : Int) := by omega
            have hi2 : (i : Int) < (m : Int) := by omega
            have hi3 : (0 : Int) ≤ (i : Int) + 1 := by omega
            have hi4 : (i : Int) + 1 < (m : Int) := by omega
            have hi5 : IntKind.i64.wrap ((i : Int) + 1) = (i : Int) + 1 := by simp [IntKind.wrap, IntKind.bits, IntKind.signed]; omega
            go_wp2_with fail
            go_region_held3 (fun w' => w'.cell? ⟨g, o + i, none⟩ = some (iz t) ∧ w'.cell? ⟨g, o + (i + 1), none⟩ = some (iz t'))
              (first
                | (with_reducible exact HE1.out)
                | (exact HE2.out)
                | go_keep
                | (exact HE3.out))
              (first
                | (refine step_append _ (by rfl) _ _ 24 (by rfl) G 33 i0 _ 2 16 Tryd.underlying24 hi0 hz0 hz1 hz2 rfl (by decide) (.slice (some ⟨g2, 0, none⟩) (k + 1) cc) (k + 1) ((l0 ++ [(f, e)]).flatMap spc) (by rfl) HOA.out ⟨X5, 0, none⟩ 1 1 [iz t, iz t'] (by rfl) rfl HNW.out (two_one t t') HM1.out HM2.out HBS.out ?_; intro v6 w6 hown6 hgr6; have HO6 := Lib.hid hown6; have HC6 := Lib.hid (HCA.out.trans (ch_own HBS.out HOA.out hgr6)); have HE3 := Lib.hid (HCE.out _ HC6.out); clear hown6 hgr6))
            go_wp2_with fail
            go_roundw
            case rel =>
              refine ⟨i + 1, l0 ++ [(f, e)] ++ [(t, t')], by go_num, ?_, HC6.out, .inr ⟨t', HT.out, HP2.out.add HRG.out.1.1 HTL.out HRG.out.2.2 HFA.out HQ2.out⟩, by rw [List.length_append, HN.out]; show (k + 1) + 1 ≤ i + 1; omega, by omega⟩
              rw [List.length_append, List.flatMap_append, HN.out]
              exact HO6.out
            case measure => simp [intOf]; omega
    · have HF := Lib.hid (pc_end HCC.out HQQ.out rfl (by rw [HR.out.len]; omega) HPC.out)
      obtain ⟨pp, cc, rfl⟩ := own_val HO.out
      have HRD := Lib.hid (Rd.own spc_len HO.out rfl).2
      go_wp2_with fail
      go_ret
      exact ⟨pp, _, cc, rfl, by rw [HF.out]; exact HRD.out, HC1.out.step0 (HC.out.mono (by rw [HG.out]; exact Nat.le_refl _) (fun _ _ q => q)) (Nat.le_refl _)⟩
set_option maxRecDepth 100000 in
set_option maxHeartbeats 8000000 in
theorem pieces1 (a b : List Spn.Sp) (pa pb : Option Addr) (na nb ca cb : Nat) (w : World) (ha : Rd spc 2 w pa na a) (hb : Rd spc 2 w pb nb b) (hna : na ≤ 1000) (hnb : nb ≤ 1000) :
    Calls Tryd.prog 39 #[.slice pa na ca, .slice pb nb cb, iz 1] w (Ys w (Spn.nf (dMeet a b))) := by
  have HA := Lib.hid ha
  have HB := Lib.hid hb
  have H0 := Lib.hid (refBounds_any a b pa pb na nb ca cb w ha hb hna hnb)
  have hlen := (Spn.rb_spec (a ++ b)).2.1
  rw [List.length_append, ha.len, hb.len] at hlen
  have HQQ := Lib.hid (show ∀ d, dMeet a b d = kMeet (Spn.has a d) (Spn.has b d) from fun _ => rfl)
  obtain ⟨Q, hQ⟩ : ∃ Q, dMeet a b = Q := ⟨_, rfl⟩
  rw [hQ] at HQQ ⊢
  obtain ⟨C, hC⟩ : ∃ C, Spn.rb (a ++ b) = C := ⟨_, rfl⟩
  rw [hC] at H0 hlen
  have HCC := Lib.hid hC
  have HLEN := Lib.hid hlen
  clear ha hb hQ hC hlen
  obtain ⟨i0, hi0, hz0, hz1, hz2⟩ := info_parts sp_info
  go_enter Tryd.func39, Tryd.ntmps39
  go_wp2_with fail
  refine H0.out.mono ?_
  rintro e w1 ⟨p, m, c, rfl, hr, hC1⟩
  have HR := Lib.hid hr
  have HC1 := Lib.hid hC1
  have hm : m ≤ 4000 := by have h1 := hr.len; have h2 := HLEN.out; omega
  obtain ⟨G, hG⟩ : ∃ G, w1.heap.size = G := ⟨_, rfl⟩
  have HG := Lib.hid hG
  clear hr hC1 hG H0
  go_wp2_with fail
  go_loopw [8, 9] (fun v b wr => ∃ (i : Nat) (l : List Spn.Sp), b = .int .i64 i ∧ wr.ownsRow G 33 2 v l.length (l.flatMap spc) ∧ Ch G none1 w1 wr ∧ PcAt C Q i l ∧ l.length ≤ i ∧ i ≤ m) (fun _ b _ => m + 1 - (intOf b).toNat)
  case atStart => exact ⟨0, [], rfl, own_nil _ _ _ _, Ch.refl _ _ _, pc_start HCC.out HQQ.out rfl, Nat.le_refl _, Nat.zero_le _⟩
  case round =>
    obtain ⟨i, l, rfl, hown, hC, hpc, hli, him⟩ := hrel
    have HO := Lib.hid hown
    have HC := Lib.hid hC
    have HPC := Lib.hid hpc
    have HWS := Lib.hid (show G ≤ wr.heap.size by have := hC.size; rw [HG.out] at this; exact this)
    clear hown hC hpc
    by_cases hlt : i + 1 < m
    · obtain ⟨g, o, rfl, hg⟩ := HR.out.addr (by omega)
      obtain ⟨t, ht⟩ : ∃ t, C[i]? = some t := ⟨C[i]'(by rw [HR.out.len]; omega), List.getElem?_eq_getElem _⟩
      obtain ⟨t', ht'⟩ : ∃ t, C[i + 1]? = some t := ⟨C[i + 1]'(by rw [HR.out.len]; omega), List.getElem?_eq_getElem _⟩
      have hpc2 : Spn.Pc Q t l := by
        rcases HPC.out with ⟨h1, _, _⟩ | ⟨t2, h1, h2⟩
        · rw [h1] at ht; simp at ht
        · rw [ht] at h1; rw [Option.some.inj h1]; exact h2
      have hgG : g < G := by rw [← HG.out]; exact hg
      have hrr : ∀ W, Ch G none1 w1 W → W.cell? ⟨g, o + i, none⟩ = some (iz t) ∧ W.cell? ⟨g, o + (i + 1), none⟩ = some (iz t') := fun W hW =>
        ⟨(HR.out.chB hW (by intro x hx; cases hx; exact hgG)).in ht, (HR.out.chB hW (by intro x hx; cases hx; exact hgG)).in ht'⟩
      have HCE := Lib.hid hrr
      obtain ⟨c0, c1⟩ := hrr wr HC.out
      have HT := Lib.hid ht'
      have hrg := Spn.rb_range HCC.out ht
      have hrg' := Spn.rb_range HCC.out ht'
      have HTL := Lib.hid (Spn.rb_lt HCC.out ht ht')
      have HRG := Lib.hid (And.intro hrg hrg')
      have HQ2 := Lib.hid (show ∀ d, t ≤ d → d < t' → Q d = kMeet (Spn.has a t) (Spn.has b t) from fun d h1 h2 => by
        have := Spn.rb_between HCC.out ht ht' d h1 h2
        rw [HQQ.out, this.1, this.2])
      have HP2 := Lib.hid hpc2
      have h1 := refHas_any t wr pa na ca a (HA.out.ch (HC1.out.step0 (HC.out.mono (by rw [HG.out]; exact Nat.le_refl _) (fun _ _ q => q)) (Nat.le_refl _))) (by omega)
      have HRB := Lib.hid (fun W (hW : Ch w.heap.size none1 w W) => refHas_any t W pb nb cb b (HB.out.ch hW) (by omega))
      obtain ⟨x, hx⟩ : ∃ x, Spn.has a t = x := ⟨_, rfl⟩
      obtain ⟨y, hy⟩ : ∃ y, Spn.has b t = y := ⟨_, rfl⟩
      rw [hx] at h1 HQ2
      rw [hy] at HQ2 HRB
      have H1 := Lib.hid h1
      have hlb : l.length ≤ 4000 := by omega
      clear hrg hrg' hpc2 hrr h1 hx hy ht ht' HPC
      go_wp2_with fail
      refine H1.out.mono ?_
      rintro e w2 ⟨rfl, hC2⟩
      have HC2 := Lib.hid (HC.out.trans (hC2.mono HWS.out (fun _ _ q => q)))
      have HO2 := Lib.hid (own_ch HO.out hC2 (Nat.le_refl _))
      have HW2 := Lib.hid (HC1.out.step0 (HC2.out.mono (by rw [HG.out]; exact Nat.le_refl _) (fun _ _ q => q)) (Nat.le_refl _))
      clear hC2 c0 c1
      obtain ⟨c0, c1⟩ := HCE.out w2 HC2.out
      go_wp2_with fail
      refine (HRB.out w2 HW2.out).mono ?_
      rintro e w3 ⟨rfl, hC3⟩
      have HC3 := Lib.hid (HC2.out.trans (hC3.mono (by have := HC2.out.size; rw [HG.out] at this; exact this) (fun _ _ q => q)))
      have HO3 := Lib.hid (own_ch HO2.out hC3 (Nat.le_refl _))
      have HWS3 := Lib.hid (show G ≤ w3.heap.size by have := HC3.out.size; rw [HG.out] at this; exact this)
      clear hC3 c0 c1 HC2 HO2 HW2 HO HC HWS
      obtain ⟨c0, c1⟩ := HCE.out w3 HC3.out
      obtain ⟨n, hn⟩ : ∃ n, l.length = n := ⟨_, rfl⟩
      rw [hn] at HO3
      have HN := Lib.hid hn
      have hnl : n ≤ 4000 := by omega
      have hni : n ≤ i := by omega
      obtain ⟨pp, cc, rfl⟩ := own_val HO3.out
      clear hn hlb hli
      cases x <;> cases y
      · skip
        go_wp2_with fail
        go_roundw
        case rel => exact ⟨i + 1, l, by go_num, by rw [HN.out]; exact HO3.out, HC3.out, .inr ⟨t', HT.out, HP2.out.skip (by have := HTL.out; omega) HQ2.out⟩, by rw [HN.out]; omega, by omega⟩
        case measure => simp [intOf]; omega
      · skip
        go_wp2_with fail
        go_roundw
        case rel => exact ⟨i + 1, l, by go_num, by rw [HN.out]; exact HO3.out, HC3.out, .inr ⟨t', HT.out, HP2.out.skip (by have := HTL.out; omega) HQ2.out⟩, by rw [HN.out]; omega, by omega⟩
        case measure => simp [intOf]; omega
      · skip
        go_wp2_with fail
        go_roundw
        case rel => exact ⟨i + 1, l, by go_num, by rw [HN.out]; exact HO3.out, HC3.out, .inr ⟨t', HT.out, HP2.out.skip (by have := HTL.out; omega) HQ2.out⟩, by rw [HN.out]; omega, by omega⟩
        case measure => simp [intOf]; omega
      · rcases List.eq_nil_or_concat l with hl | ⟨l0, ⟨f, e⟩, hl⟩
        · subst hl
          obtain rfl : n = 0 := by rw [← HN.out]; rfl
          go_wp2_with fail
          go_quiet (fail)
          obtain ⟨W5, hW5⟩ : ∃ W5, w3.drewN nq = W5 := ⟨_, rfl⟩
          rw [hW5]
          have HO5 := Lib.hid (own_heap HO3.out (show W5.heap = w3.heap by rw [← hW5]; rfl))
          have HC5 := Lib.hid (ch_heap HC3.out (show W5.heap = w3.heap by rw [← hW5]; rfl) (by rw [← hW5]; exact ⟨rfl, rfl, rfl⟩))
          have HWS5 := Lib.hid (show G ≤ W5.heap.size by rw [← hW5]; exact HWS3.out)
          obtain ⟨X5, hX5⟩ : ∃ X5, W5.heap.size = X5 := ⟨_, rfl⟩
          have HOA := Lib.hid (show (W5.drew.alloc (.cells #[iz t, iz t'] 33)).ownsRow G 33 2 (.slice pp 0 cc) 0 ((([] : List Spn.Sp)).flatMap spc) from own_ch (own_heap (w' := W5.drew) HO5.out rfl) ((Ch.refl W5.drew.heap.size none1 W5.drew).alloc (Nat.le_refl _) _) (Nat.le_refl _))
          have HNW := Lib.hid (show ∀ j u, [iz t, iz t'][j]? = some u → (W5.drew.alloc (.cells #[iz t, iz t'] 33 (0, 0))).cell? ((⟨X5, 0, none⟩ : Addr).add j) = some u by rw [← hX5]; exact sp_news W5.drew t t')
          have HM1 := Lib.hid (show 0 + 1 ≤ maxLen by unfold maxLen; omega)
          have HM2 := Lib.hid (show (0 + 1) * 16 ≤ 140737488355328 by omega)
          have HBS := Lib.hid (show G ≤ (W5.drew.alloc (.cells #[iz t, iz t'] 33)).heap.size by have := HWS5.out; simp; omega)
          have HCA := Lib.hid ((HC5.out.drew).alloc HWS5.out (.cells #[iz t, iz t'] 33))
          have HE1 := Lib.hid (HCE.out _ HC5.out.drew)
          have HE2 := Lib.hid (HCE.out _ HCA.out)
          clear hW5 c0 c1
          have him2 : i < m := by omega
          have hi1 : (0 : Int) ≤ (i : Int) := by omega
          have hi2 : (i : Int) < (m : Int) := by omega
          have hi3 : (0 : Int) ≤ (i : Int) + 1 := by omega
          have hi4 : (i : Int) + 1 < (m : Int) := by omega
          have hi5 : IntKind.i64.wrap ((i : Int) + 1) = (i : Int) + 1 := by simp [IntKind.wrap, IntKind.bits, IntKind.signed]; omega
          go_wp2_with fail
          go_region_held3 (fun w' => w'.cell? ⟨g, o + i, none⟩ = some (iz t) ∧ w'.cell? ⟨g, o + (i + 1), none⟩ = some (iz t'))
            (first
              | (with_reducible exact HE1.out)
              | (exact HE2.out)
              | go_keep
              | (exact HE3.out))
            (first
              | (refine step_append _ (by rfl) _ _ 24 (by rfl) G 33 i0 _ 2 16 Tryd.underlying24 hi0 hz0 hz1 hz2 rfl (by decide) (.slice pp 0 cc) 0 ((([] : List Spn.Sp)).flatMap spc) (by rfl) HOA.out ⟨X5, 0, none⟩ 1 1 [iz t, iz t'] (by rfl) rfl HNW.out (two_one t t') HM1.out HM2.out HBS.out ?_; intro v6 w6 hown6 hgr6; have HO6 := Lib.hid hown6; have HC6 := Lib.hid (HCA.out.trans (ch_own HBS.out HOA.out hgr6)); have HE3 := Lib.hid (HCE.out _ HC6.out); clear hown6 hgr6))
          go_wp2_with fail
          go_roundw
          case rel =>
            refine ⟨i + 1, ([] : List Spn.Sp) ++ [(t, t')], by go_num, ?_, HC6.out, .inr ⟨t', HT.out, HP2.out.add HRG.out.1.1 HTL.out HRG.out.2.2 (by simp) HQ2.out⟩, by rw [List.length_append, HN.out]; show 0 + 1 ≤ i + 1; omega, by omega⟩
            rw [List.length_append, List.flatMap_append, HN.out]
            exact HO6.out
          case measure => simp [intOf]; omega
        · rw [List.concat_eq_append] at hl
          subst hl
          obtain ⟨k, rfl⟩ : ∃ k, n = k + 1 := ⟨l0.length, by rw [← HN.out]; simp⟩
          have HK0 := Lib.hid (show l0.length = k by have := HN.out; simpa using this)
          obtain ⟨g2, rfl, hg2, hg3, hcl, hfz⟩ := own_at HO3.out (by omega)
          have q0 : w3.cell? ⟨g2, k * 2 + 1, none⟩ = some (iz e) := hcl _ _ (by rw [← HK0.out]; exact flat_last l0 f e)
          have q1 := hfz (k * 2 + 1)
          clear hcl hfz
          by_cases he : e = t
          · subst he
            go_wp2_with fail
            go_quiet (fail)
            obtain ⟨W5, hW5⟩ : ∃ W5, w3.drewN nq = W5 := ⟨_, rfl⟩
            rw [hW5]
            have HO5 := Lib.hid (own_heap HO3.out (show W5.heap = w3.heap by rw [← hW5]; rfl))
            have HC5 := Lib.hid (ch_heap HC3.out (show W5.heap = w3.heap by rw [← hW5]; rfl) (by rw [← hW5]; exact ⟨rfl, rfl, rfl⟩))
            obtain ⟨d0, d1⟩ := HCE.out W5 HC5.out
            have s0 : W5.cell? ⟨g2, k * 2 + 1, none⟩ = some (iz e) := by rw [← hW5]; exact q0
            have s1 : W5.frozen? ⟨g2, k * 2 + 1, none⟩ = false := by rw [← hW5]; exact q1
            clear hW5 c0 c1 q0 q1
            go_wp2_with fail
            go_roundw
            case rel =>
              refine ⟨i + 1, l0 ++ [(f, t')], by go_num, ?_, HC5.out.setCell (p := ⟨g2, k * 2 + 1, none⟩) (.inl hg2) _, .inr ⟨t', HT.out, HP2.out.ext HTL.out HRG.out.2.2 HQ2.out⟩, by rw [List.length_append, HK0.out]; show k + 1 ≤ i + 1; omega, by omega⟩
              have h := own_set HO5.out (j := k * 2 + 1) (by rw [flat_len spc_len, List.length_append, HK0.out]; show _ < (k + 1) * 2; omega) (iz t')
              rw [← HK0.out, flat_set, HK0.out] at h
              rw [List.length_append, HK0.out]
              exact h
            case measure => simp [intOf]; omega
          · have hne : (e == t) = false := beq_eq_false_iff_ne.2 he
            have HFA := Lib.hid (HP2.out.far he)
            clear he
            go_wp2_with fail
            go_quiet (fail)
            obtain ⟨W5, hW5⟩ : ∃ W5, w3.drewN nq = W5 := ⟨_, rfl⟩
            rw [hW5]
            have HO5 := Lib.hid (own_heap HO3.out (show W5.heap = w3.heap by rw [← hW5]; rfl))
            have HC5 := Lib.hid (ch_heap HC3.out (show W5.heap = w3.heap by rw [← hW5]; rfl) (by rw [← hW5]; exact ⟨rfl, rfl, rfl⟩))
            have HWS5 := Lib.hid (show G ≤ W5.heap.size by rw [← hW5]; exact HWS3.out)
            obtain ⟨X5, hX5⟩ : ∃ X5, W5.heap.size = X5 := ⟨_, rfl⟩
            have HOA := Lib.hid (show (W5.drew.alloc (.cells #[iz t, iz t'] 33)).ownsRow G 33 2 (.slice (some ⟨g2, 0, none⟩) (k + 1) cc) (k + 1) ((l0 ++ [(f, e)]).flatMap spc) from own_ch (own_heap (w' := W5.drew) HO5.out rfl) ((Ch.refl W5.drew.heap.size none1 W5.drew).alloc (Nat.le_refl _) _) (Nat.le_refl _))
            have HNW := Lib.hid (show ∀ j u, [iz t, iz t'][j]? = some u → (W5.drew.alloc (.cells #[iz t, iz t'] 33 (0, 0))).cell? ((⟨X5, 0, none⟩ : Addr).add j) = some u by rw [← hX5]; exact sp_news W5.drew t t')
            have HM1 := Lib.hid (show (k + 1) + 1 ≤ maxLen by unfold maxLen; omega)
            have HM2 := Lib.hid (show ((k + 1) + 1) * 16 ≤ 140737488355328 by omega)
            have HBS := Lib.hid (show G ≤ (W5.drew.alloc (.cells #[iz t, iz t'] 33)).heap.size by have := HWS5.out; simp; omega)
            have HCA := Lib.hid ((HC5.out.drew).alloc HWS5.out (.cells #[iz t, iz t'] 33))
            have HE1 := Lib.hid (HCE.out _ HC5.out.drew)
            have HE2 := Lib.hid (HCE.out _ HCA.out)
            clear hW5 c0 c1 q0 q1
            have him2 : i < m := by omega
            have hi1 : (0 : Int) ≤ (i : Int) := by omega
            have hi2 : (i : Int) < (m : Int) := by omega
            have hi3 : (0 : Int) ≤ (i : Int) + 1 := by omega
            have hi4 : (i : Int) + 1 < (m : Int) := by omega
            have hi5 : IntKind.i64.wrap ((i : Int) + 1) = (i : Int) + 1 := by simp [IntKind.wrap, IntKind.bits, IntKind.signed]; omega
            go_wp2_with fail
            go_region_held3 (fun w' => w'.cell? ⟨g, o + i, none⟩ = some (iz t) ∧ w'.cell? ⟨g, o + (i + 1), none⟩ = some (iz t'))
              (first
                | (with_reducible exact HE1.out)
                | (exact HE2.out)
                | go_keep
                | (exact HE3.out))
              (first
                | (refine step_append _ (by rfl) _ _ 24 (by rfl) G 33 i0 _ 2 16 Tryd.underlying24 hi0 hz0 hz1 hz2 rfl (by decide) (.slice (some ⟨g2, 0, none⟩) (k + 1) cc) (k + 1) ((l0 ++ [(f, e)]).flatMap spc) (by rfl) HOA.out ⟨X5, 0, none⟩ 1 1 [iz t, iz t'] (by rfl) rfl HNW.out (two_one t t') HM1.out HM2.out HBS.out ?_; intro v6 w6 hown6 hgr6; have HO6 := Lib.hid hown6; have HC6 := Lib.hid (HCA.out.trans (ch_own HBS.out HOA.out hgr6)); have HE3 := Lib.hid (HCE.out _ HC6.out); clear hown6 hgr6))
            go_wp2_with fail
            go_roundw
            case rel =>
              refine ⟨i + 1, l0 ++ [(f, e)] ++ [(t, t')], by go_num, ?_, HC6.out, .inr ⟨t', HT.out, HP2.out.add HRG.out.1.1 HTL.out HRG.out.2.2 HFA.out HQ2.out⟩, by rw [List.length_append, HN.out]; show (k + 1) + 1 ≤ i + 1; omega, by omega⟩
              rw [List.length_append, List.flatMap_append, HN.out]
              exact HO6.out
            case measure => simp [intOf]; omega
    · have HF := Lib.hid (pc_end HCC.out HQQ.out rfl (by rw [HR.out.len]; omega) HPC.out)
      obtain ⟨pp, cc, rfl⟩ := own_val HO.out
      have HRD := Lib.hid (Rd.own spc_len HO.out rfl).2
      go_wp2_with fail
      go_ret
      exact ⟨pp, _, cc, rfl, by rw [HF.out]; exact HRD.out, HC1.out.step0 (HC.out.mono (by rw [HG.out]; exact Nat.le_refl _) (fun _ _ q => q)) (Nat.le_refl _)⟩
set_option maxRecDepth 100000 in
set_option maxHeartbeats 8000000 in
theorem pieces2 (a b : List Spn.Sp) (pa pb : Option Addr) (na nb ca cb : Nat) (w : World) (ha : Rd spc 2 w pa na a) (hb : Rd spc 2 w pb nb b) (hna : na ≤ 1000) (hnb : nb ≤ 1000) :
    Calls Tryd.prog 39 #[.slice pa na ca, .slice pb nb cb, iz 2] w (Ys w (Spn.nf (dLess a b))) := by
  have HA := Lib.hid ha
  have HB := Lib.hid hb
  have H0 := Lib.hid (refBounds_any a b pa pb na nb ca cb w ha hb hna hnb)
  have hlen := (Spn.rb_spec (a ++ b)).2.1
  rw [List.length_append, ha.len, hb.len] at hlen
  have HQQ := Lib.hid (show ∀ d, dLess a b d = kLess (Spn.has a d) (Spn.has b d) from fun _ => rfl)
  obtain ⟨Q, hQ⟩ : ∃ Q, dLess a b = Q := ⟨_, rfl⟩
  rw [hQ] at HQQ ⊢
  obtain ⟨C, hC⟩ : ∃ C, Spn.rb (a ++ b) = C := ⟨_, rfl⟩
  rw [hC] at H0 hlen
  have HCC := Lib.hid hC
  have HLEN := Lib.hid hlen
  clear ha hb hQ hC hlen
  obtain ⟨i0, hi0, hz0, hz1, hz2⟩ := info_parts sp_info
  go_enter Tryd.func39, Tryd.ntmps39
  go_wp2_with fail
  refine H0.out.mono ?_
  rintro e w1 ⟨p, m, c, rfl, hr, hC1⟩
  have HR := Lib.hid hr
  have HC1 := Lib.hid hC1
  have hm : m ≤ 4000 := by have h1 := hr.len; have h2 := HLEN.out; omega
  obtain ⟨G, hG⟩ : ∃ G, w1.heap.size = G := ⟨_, rfl⟩
  have HG := Lib.hid hG
  clear hr hC1 hG H0
  go_wp2_with fail
  go_loopw [8, 9] (fun v b wr => ∃ (i : Nat) (l : List Spn.Sp), b = .int .i64 i ∧ wr.ownsRow G 33 2 v l.length (l.flatMap spc) ∧ Ch G none1 w1 wr ∧ PcAt C Q i l ∧ l.length ≤ i ∧ i ≤ m) (fun _ b _ => m + 1 - (intOf b).toNat)
  case atStart => exact ⟨0, [], rfl, own_nil _ _ _ _, Ch.refl _ _ _, pc_start HCC.out HQQ.out rfl, Nat.le_refl _, Nat.zero_le _⟩
  case round =>
    obtain ⟨i, l, rfl, hown, hC, hpc, hli, him⟩ := hrel
    have HO := Lib.hid hown
    have HC := Lib.hid hC
    have HPC := Lib.hid hpc
    have HWS := Lib.hid (show G ≤ wr.heap.size by have := hC.size; rw [HG.out] at this; exact this)
    clear hown hC hpc
    by_cases hlt : i + 1 < m
    · obtain ⟨g, o, rfl, hg⟩ := HR.out.addr (by omega)
      obtain ⟨t, ht⟩ : ∃ t, C[i]? = some t := ⟨C[i]'(by rw [HR.out.len]; omega), List.getElem?_eq_getElem _⟩
      obtain ⟨t', ht'⟩ : ∃ t, C[i + 1]? = some t := ⟨C[i + 1]'(by rw [HR.out.len]; omega), List.getElem?_eq_getElem _⟩
      have hpc2 : Spn.Pc Q t l := by
        rcases HPC.out with ⟨h1, _, _⟩ | ⟨t2, h1, h2⟩
        · rw [h1] at ht; simp at ht
        · rw [ht] at h1; rw [Option.some.inj h1]; exact h2
      have hgG : g < G := by rw [← HG.out]; exact hg
      have hrr : ∀ W, Ch G none1 w1 W → W.cell? ⟨g, o + i, none⟩ = some (iz t) ∧ W.cell? ⟨g, o + (i + 1), none⟩ = some (iz t') := fun W hW =>
        ⟨(HR.out.chB hW (by intro x hx; cases hx; exact hgG)).in ht, (HR.out.chB hW (by intro x hx; cases hx; exact hgG)).in ht'⟩
      have HCE := Lib.hid hrr
      obtain ⟨c0, c1⟩ := hrr wr HC.out
      have HT := Lib.hid ht'
      have hrg := Spn.rb_range HCC.out ht
      have hrg' := Spn.rb_range HCC.out ht'
      have HTL := Lib.hid (Spn.rb_lt HCC.out ht ht')
      have HRG := Lib.hid (And.intro hrg hrg')
      have HQ2 := Lib.hid (show ∀ d, t ≤ d → d < t' → Q d = kLess (Spn.has a t) (Spn.has b t) from fun d h1 h2 => by
        have := Spn.rb_between HCC.out ht ht' d h1 h2
        rw [HQQ.out, this.1, this.2])
      have HP2 := Lib.hid hpc2
      have h1 := refHas_any t wr pa na ca a (HA.out.ch (HC1.out.step0 (HC.out.mono (by rw [HG.out]; exact Nat.le_refl _) (fun _ _ q => q)) (Nat.le_refl _))) (by omega)
      have HRB := Lib.hid (fun W (hW : Ch w.heap.size none1 w W) => refHas_any t W pb nb cb b (HB.out.ch hW) (by omega))
      obtain ⟨x, hx⟩ : ∃ x, Spn.has a t = x := ⟨_, rfl⟩
      obtain ⟨y, hy⟩ : ∃ y, Spn.has b t = y := ⟨_, rfl⟩
      rw [hx] at h1 HQ2
      rw [hy] at HQ2 HRB
      have H1 := Lib.hid h1
      have hlb : l.length ≤ 4000 := by omega
      clear hrg hrg' hpc2 hrr h1 hx hy ht ht' HPC
      go_wp2_with fail
      refine H1.out.mono ?_
      rintro e w2 ⟨rfl, hC2⟩
      have HC2 := Lib.hid (HC.out.trans (hC2.mono HWS.out (fun _ _ q => q)))
      have HO2 := Lib.hid (own_ch HO.out hC2 (Nat.le_refl _))
      have HW2 := Lib.hid (HC1.out.step0 (HC2.out.mono (by rw [HG.out]; exact Nat.le_refl _) (fun _ _ q => q)) (Nat.le_refl _))
      clear hC2 c0 c1
      obtain ⟨c0, c1⟩ := HCE.out w2 HC2.out
      go_wp2_with fail
      refine (HRB.out w2 HW2.out).mono ?_
      rintro e w3 ⟨rfl, hC3⟩
      have HC3 := Lib.hid (HC2.out.trans (hC3.mono (by have := HC2.out.size; rw [HG.out] at this; exact this) (fun _ _ q => q)))
      have HO3 := Lib.hid (own_ch HO2.out hC3 (Nat.le_refl _))
      have HWS3 := Lib.hid (show G ≤ w3.heap.size by have := HC3.out.size; rw [HG.out] at this; exact this)
      clear hC3 c0 c1 HC2 HO2 HW2 HO HC HWS
      obtain ⟨c0, c1⟩ := HCE.out w3 HC3.out
      obtain ⟨n, hn⟩ : ∃ n, l.length = n := ⟨_, rfl⟩
      rw [hn] at HO3
      have HN := Lib.hid hn
      have hnl : n ≤ 4000 := by omega
      have hni : n ≤ i := by omega
      obtain ⟨pp, cc, rfl⟩ := own_val HO3.out
      clear hn hlb hli
      cases x <;> cases y
      · skip
        go_wp2_with fail
        go_roundw
        case rel => exact ⟨i + 1, l, by go_num, by rw [HN.out]; exact HO3.out, HC3.out, .inr ⟨t', HT.out, HP2.out.skip (by have := HTL.out; omega) HQ2.out⟩, by rw [HN.out]; omega, by omega⟩
        case measure => simp [intOf]; omega
      · skip
        go_wp2_with fail
        go_roundw
        case rel => exact ⟨i + 1, l, by go_num, by rw [HN.out]; exact HO3.out, HC3.out, .inr ⟨t', HT.out, HP2.out.skip (by have := HTL.out; omega) HQ2.out⟩, by rw [HN.out]; omega, by omega⟩
        case measure => simp [intOf]; omega
      · rcases List.eq_nil_or_concat l with hl | ⟨l0, ⟨f, e⟩, hl⟩
        · subst hl
          obtain rfl : n = 0 := by rw [← HN.out]; rfl
          go_wp2_with fail
          go_quiet (fail)
          obtain ⟨W5, hW5⟩ : ∃ W5, w3.drewN nq = W5 := ⟨_, rfl⟩
          rw [hW5]
          have HO5 := Lib.hid (own_heap HO3.out (show W5.heap = w3.heap by rw [← hW5]; rfl))
          have HC5 := Lib.hid (ch_heap HC3.out (show W5.heap = w3.heap by rw [← hW5]; rfl) (by rw [← hW5]; exact ⟨rfl, rfl, rfl⟩))
          have HWS5 := Lib.hid (show G ≤ W5.heap.size by rw [← hW5]; exact HWS3.out)
          obtain ⟨X5, hX5⟩ : ∃ X5, W5.heap.size = X5 := ⟨_, rfl⟩
          have HOA := Lib.hid (show (W5.drew.alloc (.cells #[iz t, iz t'] 33)).ownsRow G 33 2 (.slice pp 0 cc) 0 ((([] : List Spn.Sp)).flatMap spc) from own_ch (own_heap (w' := W5.drew) HO5.out rfl) ((Ch.refl W5.drew.heap.size none1 W5.drew).alloc (Nat.le_refl _) _) (Nat.le_refl _))
          have HNW := Lib.hid (show ∀ j u, [iz t, iz t'][j]? = some u → (W5.drew.alloc (.cells #[iz t, iz t'] 33 (0, 0))).cell? ((⟨X5, 0, none⟩ : Addr).add j) = some u by rw [← hX5]; exact sp_news W5.drew t t')
          have HM1 := Lib.hid (show 0 + 1 ≤ maxLen by unfold maxLen; omega)
          have HM2 := Lib.hid (show (0 + 1) * 16 ≤ 140737488355328 by omega)
          have HBS := Lib.hid (show G ≤ (W5.drew.alloc (.cells #[iz t, iz t'] 33)).heap.size by have := HWS5.out; simp; omega)
          have HCA := Lib.hid ((HC5.out.drew).alloc HWS5.out (.cells #[iz t, iz t'] 33))
          have HE1 := Lib.hid (HCE.out _ HC5.out.drew)
          have HE2 := Lib.hid (HCE.out _ HCA.out)
          clear hW5 c0 c1
          have him2 : i < m := by omega
          have hi1 : (0 : Int) ≤ (i : Int) := by omega
          have hi2 : (i : Int) < (m : Int) := by omega
          have hi3 : (0 : Int) ≤ (i : Int) + 1 := by omega
          have hi4 : (i : Int) + 1 < (m : Int) := by omega
          have hi5 : IntKind.i64.wrap ((i : Int) + 1) = (i : Int) + 1 := by simp [IntKind.wrap, IntKind.bits, IntKind.signed]; omega
          go_wp2_with fail
          go_region_held3 (fun w' => w'.cell? ⟨g, o + i, none⟩ = some (iz t) ∧ w'.cell? ⟨g, o + (i + 1), none⟩ = some (iz t'))
            (first
              | (with_reducible exact HE1.out)
              | (exact HE2.out)
              | go_keep
              | (exact HE3.out))
            (first
              | (refine step_append _ (by rfl) _ _ 24 (by rfl) G 33 i0 _ 2 16 Tryd.underlying24 hi0 hz0 hz1 hz2 rfl (by decide) (.slice pp 0 cc) 0 ((([] : List Spn.Sp)).flatMap spc) (by rfl) HOA.out ⟨X5, 0, none⟩ 1 1 [iz t, iz t'] (by rfl) rfl HNW.out (two_one t t') HM1.out HM2.out HBS.out ?_; intro v6 w6 hown6 hgr6; have HO6 := Lib.hid hown6; have HC6 := Lib.hid (HCA.out.trans (ch_own HBS.out HOA.out hgr6)); have HE3 := Lib.hid (HCE.out _ HC6.out); clear hown6 hgr6))
          go_wp2_with fail
          go_roundw
          case rel =>
            refine ⟨i + 1, ([] : List Spn.Sp) ++ [(t, t')], by go_num, ?_, HC6.out, .inr ⟨t', HT.out, HP2.out.add HRG.out.1.1 HTL.out HRG.out.2.2 (by simp) HQ2.out⟩, by rw [List.length_append, HN.out]; show 0 + 1 ≤ i + 1; omega, by omega⟩
            rw [List.length_append, List.flatMap_append, HN.out]
            exact HO6.out
          case measure => simp [intOf]; omega
        · rw [List.concat_eq_append] at hl
          subst hl
          obtain ⟨k, rfl⟩ : ∃ k, n = k + 1 := ⟨l0.length, by rw [← HN.out]; simp⟩
          have HK0 := Lib.hid (show l0.length = k by have := HN.out; simpa using this)
          obtain ⟨g2, rfl, hg2, hg3, hcl, hfz⟩ := own_at HO3.out (by omega)
          have q0 : w3.cell? ⟨g2, k * 2 + 1, none⟩ = some (iz e) := hcl _ _ (by rw [← HK0.out]; exact flat_last l0 f e)
          have q1 := hfz (k * 2 + 1)
          clear hcl hfz
          by_cases he : e = t
          · subst he
            go_wp2_with fail
            go_quiet (fail)
            obtain ⟨W5, hW5⟩ : ∃ W5, w3.drewN nq = W5 := ⟨_, rfl⟩
            rw [hW5]
            have HO5 := Lib.hid (own_heap HO3.out (show W5.heap = w3.heap by rw [← hW5]; rfl))
            have HC5 := Lib.hid (ch_heap HC3.out (show W5.heap = w3.heap by rw [← hW5]; rfl) (by rw [← hW5]; exact ⟨rfl, rfl, rfl⟩))
            obtain ⟨d0, d1⟩ := HCE.out W5 HC5.out
            have s0 : W5.cell? ⟨g2, k * 2 + 1, none⟩ = some (iz e) := by rw [← hW5]; exact q0
            have s1 : W5.frozen? ⟨g2, k * 2 + 1, none⟩ = false := by rw [← hW5]; exact q1
            clear hW5 c0 c1 q0 q1
            go_wp2_with fail
            go_roundw
            case rel =>
              refine ⟨i + 1, l0 ++ [(f, t')], by go_num, ?_, HC5.out.setCell (p := ⟨g2, k * 2 + 1, none⟩) (.inl hg2) _, .inr ⟨t', HT.out, HP2.out.ext HTL.out HRG.out.2.2 HQ2.out⟩, by rw [List.length_append, HK0.out]; show k + 1 ≤ i + 1; omega, by omega⟩
              have h := own_set HO5.out (j := k * 2 + 1) (by rw [flat_len spc_len, List.length_append, HK0.out]; show _ < (k + 1) * 2; omega) (iz t')
              rw [← HK0.out, flat_set, HK0.out] at h
              rw [List.length_append, HK0.out]
              exact h
            case measure => simp [intOf]; omega
          · have hne : (e == t) = false := beq_eq_false_iff_ne.2 he
            have HFA := Lib.hid (HP2.out.far he)
            clear he
            go_wp2_with fail
            go_quiet (fail)
            obtain ⟨W5, hW5⟩ : ∃ W5, w3.drewN nq = W5 := ⟨_, rfl⟩
            rw [hW5]
            have HO5 := Lib.hid (own_heap HO3.out (show W5.heap = w3.heap by rw [← hW5]; rfl))
            have HC5 := Lib.hid (ch_heap HC3.out (show W5.heap = w3.heap by rw [← hW5]; rfl) (by rw [← hW5]; exact ⟨rfl, rfl, rfl⟩))
            have HWS5 := Lib.hid (show G ≤ W5.heap.size by rw [← hW5]; exact HWS3.out)
            obtain ⟨X5, hX5⟩ : ∃ X5, W5.heap.size = X5 := ⟨_, rfl⟩
            have HOA := Lib.hid (show (W5.drew.alloc (.cells #[iz t, iz t'] 33)).ownsRow G 33 2 (.slice (some ⟨g2, 0, none⟩) (k + 1) cc) (k + 1) ((l0 ++ [(f, e)]).flatMap spc) from own_ch (own_heap (w' := W5.drew) HO5.out rfl) ((Ch.refl W5.drew.heap.size none1 W5.drew).alloc (Nat.le_refl _) _) (Nat.le_refl _))
            have HNW := Lib.hid (show ∀ j u, [iz t, iz t'][j]? = some u → (W5.drew.alloc (.cells #[iz t, iz t'] 33 (0, 0))).cell? ((⟨X5, 0, none⟩ : Addr).add j) = some u by rw [← hX5]; exact sp_news W5.drew t t')
            have HM1 := Lib.hid (show (k + 1) + 1 ≤ maxLen by unfold maxLen; omega)
            have HM2 := Lib.hid (show ((k + 1) + 1) * 16 ≤ 140737488355328 by omega)
            have HBS := Lib.hid (show G ≤ (W5.drew.alloc (.cells #[iz t, iz t'] 33)).heap.size by have := HWS5.out; simp; omega)
            have HCA := Lib.hid ((HC5.out.drew).alloc HWS5.out (.cells #[iz t, iz t'] 33))
            have HE1 := Lib.hid (HCE.out _ HC5.out.drew)
            have HE2 := Lib.hid (HCE.out _ HCA.out)
            clear hW5 c0 c1 q0 q1
            have him2 : i < m := by omega
            have hi1 : (0 : Int) ≤ (i : Int) := by omega
            have hi2 : (i : Int) < (m : Int) := by omega
            have hi3 : (0 : Int) ≤ (i : Int) + 1 := by omega
            have hi4 : (i : Int) + 1 < (m : Int) := by omega
            have hi5 : IntKind.i64.wrap ((i : Int) + 1) = (i : Int) + 1 := by simp [IntKind.wrap, IntKind.bits, IntKind.signed]; omega
            go_wp2_with fail
            go_region_held3 (fun w' => w'.cell? ⟨g, o + i, none⟩ = some (iz t) ∧ w'.cell? ⟨g, o + (i + 1), none⟩ = some (iz t'))
              (first
                | (with_reducible exact HE1.out)
                | (exact HE2.out)
                | go_keep
                | (exact HE3.out))
              (first
                | (refine step_append _ (by rfl) _ _ 24 (by rfl) G 33 i0 _ 2 16 Tryd.underlying24 hi0 hz0 hz1 hz2 rfl (by decide) (.slice (some ⟨g2, 0, none⟩) (k + 1) cc) (k + 1) ((l0 ++ [(f, e)]).flatMap spc) (by rfl) HOA.out ⟨X5, 0, none⟩ 1 1 [iz t, iz t'] (by rfl) rfl HNW.out (two_one t t') HM1.out HM2.out HBS.out ?_; intro v6 w6 hown6 hgr6; have HO6 := Lib.hid hown6; have HC6 := Lib.hid (HCA.out.trans (ch_own HBS.out HOA.out hgr6)); have HE3 := Lib.hid (HCE.out _ HC6.out); clear hown6 hgr6))
            go_wp2_with fail
            go_roundw
            case rel =>
              refine ⟨i + 1, l0 ++ [(f, e)] ++ [(t, t')], by go_num, ?_, HC6.out, .inr ⟨t', HT.out, HP2.out.add HRG.out.1.1 HTL.out HRG.out.2.2 HFA.out HQ2.out⟩, by rw [List.length_append, HN.out]; show (k + 1) + 1 ≤ i + 1; omega, by omega⟩
              rw [List.length_append, List.flatMap_append, HN.out]
              exact HO6.out
            case measure => simp [intOf]; omega
      · skip
        go_wp2_with fail
        go_roundw
        case rel => exact ⟨i + 1, l, by go_num, by rw [HN.out]; exact HO3.out, HC3.out, .inr ⟨t', HT.out, HP2.out.skip (by have := HTL.out; omega) HQ2.out⟩, by rw [HN.out]; omega, by omega⟩
        case measure => simp [intOf]; omega
    · have HF := Lib.hid (pc_end HCC.out HQQ.out rfl (by rw [HR.out.len]; omega) HPC.out)
      obtain ⟨pp, cc, rfl⟩ := own_val HO.out
      have HRD := Lib.hid (Rd.own spc_len HO.out rfl).2
      go_wp2_with fail
      go_ret
      exact ⟨pp, _, cc, rfl, by rw [HF.out]; exact HRD.out, HC1.out.step0 (HC.out.mono (by rw [HG.out]; exact Nat.le_refl _) (fun _ _ q => q)) (Nat.le_refl _)⟩
set_option maxRecDepth 100000 in
set_option maxHeartbeats 1600000 in
theorem refUnion_any (a b : List Spn.Sp) (pa pb : Option Addr) (na nb ca cb : Nat) (w : World) (ha : Rd spc 2 w pa na a) (hb : Rd spc 2 w pb nb b) (hna : na ≤ 1000) (hnb : nb ≤ 1000) :
    Calls Tryd.prog 18 #[.slice pa na ca, .slice pb nb cb] w (Ys w (Spn.nf (dUnion a b))) := by
  have H1 := Lib.hid (pieces0 a b pa pb na nb ca cb w ha hb hna hnb)
  clear ha hb
  go_enter Tryd.func18, Tryd.ntmps18
  go_wp2_with fail
  refine H1.out.mono ?_
  rintro e w' ⟨p, m, c, rfl, hr, hC2⟩
  have HR := Lib.hid hr
  have HC2 := Lib.hid hC2
  clear hr hC2
  go_wp2_with fail
  go_ret
  exact ⟨p, m, c, rfl, HR.out, HC2.out⟩
set_option maxRecDepth 100000 in
set_option maxHeartbeats 1600000 in
theorem refMeet_any (a b : List Spn.Sp) (pa pb : Option Addr) (na nb ca cb : Nat) (w : World) (ha : Rd spc 2 w pa na a) (hb : Rd spc 2 w pb nb b) (hna : na ≤ 1000) (hnb : nb ≤ 1000) :
    Calls Tryd.prog 20 #[.slice pa na ca, .slice pb nb cb] w (Ys w (Spn.nf (dMeet a b))) := by
  have H1 := Lib.hid (pieces1 a b pa pb na nb ca cb w ha hb hna hnb)
  clear ha hb
  go_enter Tryd.func20, Tryd.ntmps20
  go_wp2_with fail
  refine H1.out.mono ?_
  rintro e w' ⟨p, m, c, rfl, hr, hC2⟩
  have HR := Lib.hid hr
  have HC2 := Lib.hid hC2
  clear hr hC2
  go_wp2_with fail
  go_ret
  exact ⟨p, m, c, rfl, HR.out, HC2.out⟩
set_option maxRecDepth 100000 in
set_option maxHeartbeats 1600000 in
theorem refLess_any (a b : List Spn.Sp) (pa pb : Option Addr) (na nb ca cb : Nat) (w : World) (ha : Rd spc 2 w pa na a) (hb : Rd spc 2 w pb nb b) (hna : na ≤ 1000) (hnb : nb ≤ 1000) :
    Calls Tryd.prog 22 #[.slice pa na ca, .slice pb nb cb] w (Ys w (Spn.nf (dLess a b))) := by
  have H1 := Lib.hid (pieces2 a b pa pb na nb ca cb w ha hb hna hnb)
  clear ha hb
  go_enter Tryd.func22, Tryd.ntmps22
  go_wp2_with fail
  refine H1.out.mono ?_
  rintro e w' ⟨p, m, c, rfl, hr, hC2⟩
  have HR := Lib.hid hr
  have HC2 := Lib.hid hC2
  clear hr hC2
  go_wp2_with fail
  go_ret
  exact ⟨p, m, c, rfl, HR.out, HC2.out⟩
set_option maxRecDepth 100000 in
set_option maxHeartbeats 1600000 in
theorem refNorm_any (a : List Spn.Sp) (pa : Option Addr) (na ca : Nat) (w : World) (ha : Rd spc 2 w pa na a) (hna : na ≤ 1000) :
    Calls Tryd.prog 16 #[.slice pa na ca] w (Ys w (Spn.nf (Spn.has a))) := by
  have h := pieces0 a [] pa none na 0 ca 0 w ha (Rd.none w) hna (by omega)
  rw [show dUnion a [] = Spn.has a from funext fun d => by unfold dUnion; rw [Spn.has_nil, Bool.or_false]] at h
  have H1 := Lib.hid h
  clear h ha
  go_enter Tryd.func16, Tryd.ntmps16
  go_wp2_with fail
  refine H1.out.mono ?_
  rintro e w' ⟨p, m, c, rfl, hr, hC2⟩
  have HR := Lib.hid hr
  have HC2 := Lib.hid hC2
  clear hr hC2
  go_wp2_with fail
  go_ret
  exact ⟨p, m, c, rfl, HR.out, HC2.out⟩
end Go.Proofs.YtdpapnfjjmeppaaDoor
