/- Package date's replaced. -/
import Derived.Test.YtehgkpbjbkeoeaaDoorDh
namespace Go.Proofs.YtehgkpbjbkeoeaaDoor
open Go.RowKit Go.Shelf
attribute [local go_sem] Oper.semAt_some
theorem Lay.parts_len (l : List UInt8) : (Lay.parts l).length ≤ l.length := by
  induction l using Lay.parts_ind with
  | h0 => simp [Lay.parts_nil]
  | h1 l h ih =>
    have h1 := Lay.fw_pos l
    have h2 : 0 < l.length := List.length_pos_iff.2 h
    rw [Lay.parts_cons h, List.length_cons]
    rw [List.length_drop] at ih
    omega
theorem Lay.pad_len (k : Nat) {n : Int} (h0 : 0 ≤ n) (h1 : n ≤ 99999) (hk : k ≤ 4) : (Lay.pad k n).length ≤ 100010 := by
  have := dec_len n.toNat
  unfold Lay.pad
  rw [List.length_append, List.length_replicate]
  omega
theorem Lay.wr_len {y m d : Int} (hd : Dat y m d) {p : List UInt8} (hp : Lay.Ok p) : (Lay.wr y m d p).length ≤ 100010 := by
  obtain ⟨y0, y1, m0, m1, d0, d1⟩ := hd
  cases hp with
  | y => exact Lay.pad_len 4 y0 y1 (by omega)
  | mm => exact Lay.pad_len 2 m0 m1 (by omega)
  | m => exact Lay.pad_len 1 m0 m1 (by omega)
  | dd => exact Lay.pad_len 2 d0 d1 (by omega)
  | d => exact Lay.pad_len 1 d0 d1 (by omega)
  | one c h1 h2 => simp [Lay.wr, h1, h2]
/-- What has been written of the parts. -/
def wrs (y m d : Int) (pre : List Pt) : List UInt8 := (raw pre).flatMap (Lay.wr y m d)
theorem wrs_snoc (y m d : Int) (pre : List Pt) (x : Pt) : wrs y m d (pre ++ [x]) = wrs y m d pre ++ Lay.wr y m d x.1 := by simp [wrs, raw]
theorem wrs_len {y m d : Int} (hd : Dat y m d) (pre : List Pt) : (wrs y m d pre).length ≤ pre.length * 100010 := by
  induction pre with
  | nil => simp [wrs]
  | cons x t ih =>
    have := Lay.wr_len hd x.2
    simp only [wrs, raw, List.map_cons, List.flatMap_cons, List.length_append, List.length_cons] at ih ⊢
    omega
theorem dkeep_grown {W W' : World} {row : Option Nat} {k : Nat} {c : Array Value} {t : TypeId} {fr : Nat × Nat} (hg : W.grownBy W' row) (hr : ∀ r, row = some r → ∃ o : Obj, W.heap[r]? = some o ∧ o.isCells = false) (hk : W.heap[k]? = some (Obj.cells c t fr)) : W'.heap[k]? = some (Obj.cells c t fr) := by
  refine (hg.block k (Array.getElem?_eq_some_iff.1 hk).1 (fun e => ?_)).trans hk
  obtain ⟨o, ho, hc⟩ := hr k e.symm
  rw [hk] at ho
  rw [← Option.some.inj ho] at hc
  exact Bool.noConfusion hc
theorem dblk_grown {W W' : World} {row : Option Nat} {g : Nat} {t : TypeId} {cs : List Value} (h : Blk W g t cs) (hg : W.grownBy W' row) (hr : ∀ r, row = some r → ∃ o : Obj, W.heap[r]? = some o ∧ o.isCells = false) : Blk W' g t cs := dkeep_grown hg hr h
theorem Bld.grown {b : Nat} {l : List UInt8} {W W' : World} {row : Option Nat} (h : Bld b l W) (hg : W.grownBy W' row) (hr : ∀ r, row = some r → ∃ o : Obj, W.heap[r]? = some o ∧ o.isCells = false) : Bld b l W' := by
  have key : ∀ p, Lib.BuilderAtF 65 5 b b p (Lib.byteCells l) W → Lib.BuilderAtF 65 5 b b p (Lib.byteCells l) W' := fun p hp => by
    obtain ⟨h1, v, h2, ⟨h3, h4⟩, h5⟩ := hp
    refine ⟨h1, v, dkeep_grown hg hr h2, ⟨h3, ?_⟩, h5⟩
    rcases h4 with h4 | ⟨g, cap, cur, fz, a1, a2, a3, a4⟩
    · exact .inl h4
    · exact .inr ⟨g, cap, cur, fz, a1, a2, dkeep_grown hg hr a3, a4⟩
  rcases h with h | h
  · exact .inl (key _ h)
  · exact .inr (key _ h)
theorem Bld.alloc {b : Nat} {l : List UInt8} {W : World} (h : Bld b l W) (o : Obj) : Bld b l (W.alloc o) := by
  rcases h with h | h
  · exact .inl (h.alloc o)
  · exact .inr (h.alloc o)
theorem Bld.on {b : Nat} {l : List UInt8} {W W' : World} (h : Bld b l W) (hC : Ch W.heap.size none1 W W') : Bld b l W' := by
  have hb : ∀ k c t fr, W.heap[k]? = some (Obj.cells c t fr) → W'.heap[k]? = some (Obj.cells c t fr) := fun k c t fr hk => (hC.block k (Array.getElem?_eq_some_iff.1 hk).1 (fun q => q)).trans hk
  have key : ∀ p, Lib.BuilderAtF 65 5 b b p (Lib.byteCells l) W → Lib.BuilderAtF 65 5 b b p (Lib.byteCells l) W' := fun p hp => by
    obtain ⟨h1, v, h2, ⟨h3, h4⟩, h5⟩ := hp
    refine ⟨h1, v, hb _ _ _ _ h2, ⟨h3, ?_⟩, h5⟩
    rcases h4 with h4 | ⟨g, cap, cur, fz, a1, a2, a3, a4⟩
    · exact .inl h4
    · exact .inr ⟨g, cap, cur, fz, a1, a2, hb _ _ _ _ a3, a4⟩
  rcases h with h | h
  · exact .inl (key _ h)
  · exact .inr (key _ h)
theorem Bld.fresh (W : World) : Bld W.heap.size [] (W.alloc (.cells #[.pointer none, .slice none 0 0] 65)) := by
  have h := Lib.fresh_isBuilder 65 5 W
  rcases h with h | h
  · exact .inl (Lib.BuilderAtF.of h)
  · exact .inr (Lib.BuilderAtF.of h)
theorem Bld.lt {b : Nat} {l : List UInt8} {W : World} (h : Bld b l W) : b < W.heap.size := by rcases h with h | h <;> exact h.lt
theorem dkeeps_ch {W W' : World} (h : Ch W.heap.size none1 W W') : KeepsOthers W W' :=
  ⟨h.size, fun k o ho _ => by
    have hlt : k < W.heap.size := (Array.getElem?_eq_some_iff.1 ho).1
    rw [h.block k hlt (fun q => q)]; exact ho⟩
theorem blk_others {W W' : World} {b g : Nat} {t : TypeId} {cs : List Value} (h : Blk W g t cs) (hk : Lib.OthersKept 5 (some b) W W') (hg : g ≠ b) (ht : t ≠ 5) : Blk W' g t cs :=
  hk g _ h (fun e => hg (Option.some.inj e)) (fun c fz e => by injection e with _ e2 _; exact ht e2)
abbrev wrFn (y m d : Int) : Value := .func (.func 28) #[.agg #[iz y, iz m, iz d]] #[]
set_option maxRecDepth 100000 in
set_option maxHeartbeats 800000 in
theorem parts_any (L : List UInt8) (w : World) :
    Calls Tryd.prog 41 #[S L] w fun e w' => e = .returned (.func (.func 49) #[] #[.pointer (some ⟨w.heap.size, 0, none⟩)]) ∧ w' = w.alloc (.cells #[S L] 9) := by
  go_enter Tryd.func41, Tryd.ntmps41
  go_wp2_with fail
  go_ret
  exact ⟨rfl, rfl⟩
set_option maxRecDepth 100000 in
set_option maxHeartbeats 2000000 in
theorem replaced_any {y m d : Int} (hd : Dat y m d) (L : List UInt8) (hL : L.length ≤ 1000) (w : World) (hw : Tw w) :
    Calls Tryd.prog 27 #[S L, wrFn y m d] w (Yd w (S (Lay.fmt L y m d))) := by
  have HD := Lib.hid hd; clear hd
  have HW := Lib.hid hw; clear hw
  refine (callsIn_wide (n := 6)).1 ?_
  refine callsIn_of_wp_marks Tryd.func27 rfl trivial ?_ rfl
  simp only [Tryd.ntmps27, List.size_toArray, List.length_cons, List.length_nil, Nat.reduceAdd, Nat.reduceSub, Array.replicate_succ, Array.replicate_zero, List.push_toArray, List.append_toArray, List.nil_append, List.cons_append]
  gi_wp2
  refine ⟨trivial, ?_⟩
  refine (callsIn_wide.2 (parts_any L _)).mono ?_
  rintro e w' ⟨rfl, rfl⟩
  gi_wp2
  have hb0 : Blk (((w.alloc (.cells #[wrFn y m d] 51)).alloc (.cells #[.pointer none, .slice none 0 0] 65)).alloc (.cells #[S L] 9)) w.heap.size 51 [wrFn y m d] :=
    ((Blk.new w _ _).alloc _).alloc _
  have hb1 : Bld (w.heap.size + 1) [] (((w.alloc (.cells #[wrFn y m d] 51)).alloc (.cells #[.pointer none, .slice none 0 0] 65)).alloc (.cells #[S L] 9)) := by
    have := Bld.alloc (Bld.fresh (w.alloc (.cells #[wrFn y m d] 51))) (.cells #[S L] 9)
    rwa [World.size_alloc] at this
  have hb2 : Blk (((w.alloc (.cells #[wrFn y m d] 51)).alloc (.cells #[.pointer none, .slice none 0 0] 65)).alloc (.cells #[S L] 9)) (w.heap.size + 1 + 1) 9 [S L] := by
    have := Blk.new ((w.alloc (.cells #[wrFn y m d] 51)).alloc (.cells #[.pointer none, .slice none 0 0] 65)) #[S L] 9
    simp only [World.size_alloc] at this
    exact this
  have hch : Ch w.heap.size none1 w (((w.alloc (.cells #[wrFn y m d] 51)).alloc (.cells #[.pointer none, .slice none 0 0] 65)).alloc (.cells #[S L] 9)) :=
    (((Ch.refl _ _ w).alloc (Nat.le_refl _) _).alloc (by simp) _).alloc (by simp; omega) _
  have hsz : (((w.alloc (.cells #[wrFn y m d] 51)).alloc (.cells #[.pointer none, .slice none 0 0] 65)).alloc (.cells #[S L] 9)).heap.size = w.heap.size + 1 + 1 + 1 := by simp
  obtain ⟨W0, hW0⟩ : ∃ W0, (((w.alloc (.cells #[wrFn y m d] 51)).alloc (.cells #[.pointer none, .slice none 0 0] 65)).alloc (.cells #[S L] 9)) = W0 := ⟨_, rfl⟩
  rw [hW0] at hb0 hb1 hb2 hch hsz ⊢
  clear hW0
  refine wpIn_rangeFunc_ownF (F := Fence.wide) rfl (by omega) (gf := 49) (lb := #[.pointer (some ⟨w.heap.size + 1 + 1, 0, none⟩)]) rfl trivial (enters_of Tryd.func49 (by kernel_rfl) rfl)
    (encs := fun x : Pt => #[S x.1]) (Kp := KpC (w.heap.size + 1 + 1)) (S := fun ys => raw ys = Lay.parts L) (Sp := fun pre => raw pre <+: Lay.parts L) (N := (Lay.parts L).length) (w0 := W0)
    (fun l J Jx W hW _ _ hY h0 => parts_in Fence.wide _ trivial trivial rfl (by omega) l _ L J Jx hL (fun s W => callsIn_wide.2 (firstWidth_any s W)) hY W (by rw [hW.cell (p := ⟨w.heap.size + 1 + 1, 0, none⟩) (by show w.heap.size + 1 + 1 < W0.heap.size; omega), hb2.cell]; rfl) h0)
    (fun h1 h2 => h2.trans h1)
    (fun W l o o' hl ho hc _ => ?kb) (Below.refl _ _) (fun _ => rfl)
    (fun pre W => Bld (w.heap.size + 1) (wrs y m d pre) W ∧ Blk W w.heap.size 51 [wrFn y m d] ∧ Blk W (w.heap.size + 1 + 1) 9 [S L] ∧ Below w.heap.size w W)
    (fun _ _ _ => False) ?hI (fun _ _ _ _ _ hs _ _ => hs) ⟨hb1, hb0, hb2, hch.below⟩
    (fun x => { tmps := #[S L, wrFn y m d, undef, .pointer (some ⟨w.heap.size, 0, none⟩), .string ⟨#[]⟩, .pointer (some ⟨w.heap.size + 1, 0, none⟩), S x.1, S L, .func (.func 49) #[] #[.pointer (some ⟨w.heap.size + 1 + 1, 0, none⟩)], S x.1, undef, undef, undef, undef, undef], defers := [] }) ?assign ?body ?done ?stop
  case kb =>
    exact World.cell?_of_block (w := W) (a := ⟨w.heap.size + 1 + 1, 0, none⟩) ((grownBy_putObj' W l o').block (w.heap.size + 1 + 1) (by have := (Array.getElem?_eq_some_iff.1 ho).1; omega) (by simp; omega))
  case hI =>
    rintro pre W W' row ⟨hb, h0, h2, hB⟩ hg hrow
    exact ⟨hb.grown hg (fun r e => (hrow r e).2), dblk_grown h0 hg (fun r e => (hrow r e).2), dblk_grown h2 hg (fun r e => (hrow r e).2), hB.grown hg hB.size (fun k e => by have := (hrow k e).1; omega)⟩
  case assign =>
    intro l x W K hK
    gi_wp2
    exact hK
  case body =>
    rintro l pre x W ⟨hb, h0, h2, hB⟩ hlen
    have c0 := h0.cell 0
    have HB := Lib.hid hb; clear hb
    have H0 := Lib.hid h0; clear h0
    have H2 := Lib.hid h2; clear h2
    have HBB := Lib.hid hB; clear hB
    have hpl := Lay.parts_len L
    have hwl := wrs_len HD.out pre
    have hxl := Lay.wr_len HD.out x.2
    obtain ⟨t, ht⟩ : ∃ t, Lay.wr y m d x.1 = t := ⟨_, rfl⟩
    rw [ht] at hxl
    have HWR := Lib.hid (C_written HD.out x.2 ht W (HW.out.ch (Ch.of_below HBB.out)))
    have hx := wrs_snoc y m d pre x
    rw [ht] at hx
    have HX := Lib.hid hx
    obtain ⟨q, hq⟩ : ∃ q, wrs y m d pre = q := ⟨_, rfl⟩
    rw [hq] at HB HX hwl
    have hql : q.length + t.length ≤ 1000000000 := by
      have : pre.length * 100010 ≤ 1000 * 100010 := Nat.mul_le_mul_right _ (by omega)
      omega
    clear ht hx hq hwl hxl hpl
    gi_wp2
    refine ⟨trivial, ?_⟩
    refine (CallsIn.inRound l (callsIn_wide.2 HWR.out)).mono ?_
    rintro e W2 ⟨rfl, hC2⟩
    have hbl := Lib.hid (HB.out.on hC2)
    have HC2 := Lib.hid hC2
    clear hC2 c0
    gi_wp2
    refine ⟨trivial, ?_⟩
    refine (CallsIn.inRound l (callsIn_wide.2 (writeString_any (w.heap.size + 1) q t W2 hbl.out hql))).mono ?_
    rintro e W3 ⟨rfl, hb3, hl3, ho3, hk3⟩
    have G0 := Lib.hid (HC2.out.blk H0.out H0.out.lt (fun q => q))
    have G2 := Lib.hid (HC2.out.blk H2.out H2.out.lt (fun q => q))
    have K2 := Lib.hid (blk_others G2.out ho3 (by omega) (by decide))
    have K0 := Lib.hid (blk_others G0.out ho3 (by omega) (by decide))
    have HK3 := Lib.hid ((dkeeps_ch HC2.out).trans hk3)
    have HB3 := Lib.hid hb3
    have HL3 := Lib.hid ((HBB.out.trans (HC2.out.below.mono HBB.out.size)).trans (hl3.mono (Nat.le_succ _)))
    clear hb3 hl3 ho3 hk3
    gi_wp2
    refine ⟨HK3.out, ?_, ?_, K0.out, K2.out, HL3.out⟩
    · unfold KpC
      rw [K2.out.cell, H2.out.cell]
    · rw [HX.out]
      exact HB3.out
  case done =>
    rintro D ys W hD hys ⟨hb, h0, h2, hB⟩ hK
    have HS := Lib.hid (show wrs y m d ys = Lay.fmt L y m d by unfold wrs Lay.fmt; rw [hys])
    gi_wp2
    refine ⟨trivial, ?_⟩
    refine (callsIn_wide.2 (Tryd.Builder_String_any_k (w.heap.size + 1) (w.heap.size + 1) (wrs y m d ys) W hb (Nat.le_of_lt (Bld.lt hb)))).mono ?_
    rintro e W2 ⟨rfl, hb2', hl2, ho2⟩
    have hK2 : W2.heap[D]? = some (.deferred (some [])) := ho2 D _ hK (fun e => by have := Option.some.inj e; omega) (fun c fz e => by cases e)
    have HL := Lib.hid (hB.trans (hl2.mono (Nat.le_succ _)))
    clear hb2' hl2 ho2 hb h0 h2 hB
    gi_wp2
    refine ⟨by simp, .inl ⟨_, _, rfl, run_takeDeferred hK2, ?_⟩⟩
    exact ⟨_, results_tmp rfl _ _ _, by rw [← HS.out]; rfl, Ch.of_below (HL.out.trans (belowK_b (w := w) (Nat.le_refl _) W2 D _ _ (by omega) hK2 rfl rfl))⟩
  case stop =>
    rintro D c pre W _ _ h _
    exact h.elim
end Go.Proofs.YtehgkpbjbkeoeaaDoor
