/- Contract of package nat's power, for products modulo an even number. -/
import Derived.Test.YtcghnkdfhiancaaDoorNy
namespace Go.Proofs.YtcghnkdfhiancaaDoor
open Go.RowKit Go.Shelf
attribute [local go_sem] Oper.semAt_some
set_option maxRecDepth 100000 in
set_option maxHeartbeats 2000000 in
theorem bitsFromTop_any (es : List UInt8) (w : World) :
    Calls Tryd.prog 99 #[S es] w fun e w' => e = .returned (.func (.func 106) #[] #[.pointer (some ⟨w.heap.size, 0, none⟩)]) ∧ w' = w.alloc (.cells #[S es] 24) := by
  go_enter Tryd.func99, Tryd.ntmps99
  go_wp2_with fail
  go_ret
  exact ⟨rfl, rfl⟩
theorem blk_grown {W W' : World} {row : Option Nat} {B g : Nat} {t : TypeId} {cs : List Value} (h : Blk W g t cs) (hg : W.grownBy W' row) (hr : ∀ r, row = some r → B ≤ r ∧ ∃ o : Obj, W.heap[r]? = some o ∧ o.isCells = false) : Blk W' g t cs := by
  have hlt := h.lt
  unfold Blk at h ⊢
  rw [hg.block g hlt ?_]
  · exact h
  · intro e
    obtain ⟨_, o, ho, hc⟩ := hr g e.symm
    rw [h] at ho
    simp only [Option.some.injEq] at ho
    subst ho
    simp [Obj.isCells] at hc
theorem rd_grown {W W' : World} {row : Option Nat} {B N : Nat} {v : Value} (h : RdD W v N) (hg : W.grownBy W' row) (hr : ∀ r, row = some r → B ≤ r ∧ ∃ o : Obj, W.heap[r]? = some o ∧ o.isCells = false) : RdD W' v N := by
  obtain ⟨p, cap, rfl, hd⟩ := h
  refine ⟨p, cap, rfl, hd.len, hd.lt, hd.nil, fun a ha => ?_⟩
  obtain ⟨h1, t, pre, post, hb, hl⟩ := hd.at' a ha
  exact ⟨h1, t, pre, post, blk_grown hb hg hr, hl⟩
/-- A store into a cell that holds a slice leaves digits as they are. -/
theorem rd_set {W : World} {N b : Nat} {v u : Value} {q : Option Addr} {n c : Nat} (h : RdD W v N) (hc : W.cell? ⟨b, 0, none⟩ = some (.slice q n c)) : RdD (W.setCell ⟨b, 0, none⟩ u) v N := by
  obtain ⟨p, cap, rfl, hd⟩ := h
  refine ⟨p, cap, rfl, hd.len, hd.lt, hd.nil, fun a ha => ?_⟩
  obtain ⟨h1, t, pre, post, hb, hl⟩ := hd.at' a ha
  by_cases hne : a.block = b
  · have hc0 := hb.cell 0
    rw [hne, hc] at hc0
    rcases pre with _ | ⟨y, pre⟩
    · generalize ds N = xs at *
      rcases xs with _ | ⟨x, xs⟩
      · have := hb.set 0 u
        rw [hne] at this ⊢
        exact ⟨h1, t, [], post.set 0 u, this.cast (by simp), hl⟩
      · simp at hc0
    · have := hb.set 0 u
      rw [hne] at this ⊢
      exact ⟨h1, t, u :: pre, post, this.cast (by simp), hl⟩
  · exact ⟨h1, t, pre, post, hb.set_other hne 0 u, hl⟩
/-- The number of digits to the base 2, the most significant one first. -/
def bval (l : List Bool) : Nat := l.foldl (fun a b => 2 * a + b.toNat) 0
theorem bval_snoc (l : List Bool) (b : Bool) : bval (l ++ [b]) = 2 * bval l + b.toNat := by unfold bval; rw [List.foldl_append]; rfl
theorem bval_top (N k : Nat) (hk : k ≤ nbits N) : bval ((List.range k).map (bitTop N)) = N / 2 ^ (nbits N - k) := by
  induction k with
  | zero =>
    have := (nbits_iff N (nbits N)).1 (Nat.le_refl _)
    rw [Nat.sub_zero, Nat.div_eq_of_lt this]; rfl
  | succ k ih =>
    rw [List.range_succ, List.map_append, List.map_cons, List.map_nil, bval_snoc, ih (by omega)]
    have e : nbits N - k = (nbits N - (k + 1)) + 1 := by omega
    rw [e, Nat.pow_succ, ← Nat.div_div_eq_div_mul]
    unfold bitTop
    rw [show nbits N - 1 - k = nbits N - (k + 1) from by omega, Nat.testBit_eq_decide_div_mod_eq]
    generalize N / 2 ^ (nbits N - (k + 1)) = d
    by_cases h : d % 2 = 1
    · simp [h]; omega
    · simp [h]; omega
theorem bval_all (N : Nat) : bval ((List.range (nbits N)).map (bitTop N)) = N := by
  rw [bval_top N _ (Nat.le_refl _), Nat.sub_self, Nat.pow_zero, Nat.div_one]
theorem pow_step0 (X M a : Nat) : (X ^ a % M) * (X ^ a % M) % M = X ^ (2 * a) % M := by
  rw [← Nat.mul_mod, ← Nat.pow_add]; congr 2; omega
theorem pow_step1 (X M a : Nat) : (X ^ a % M) * X % M = X ^ (a + 1) % M := by
  rw [Nat.pow_succ, Nat.mul_mod, Nat.mod_mod, ← Nat.mul_mod]
theorem keeps_ch {W W' : World} (h : Ch W.heap.size none1 W W') : KeepsOthers W W' :=
  ⟨h.size, fun k o ho _ => by
    have hlt : k < W.heap.size := (Array.getElem?_eq_some_iff.1 ho).1
    rw [h.block k hlt (fun q => q)]; exact ho⟩
set_option maxRecDepth 100000 in
set_option maxHeartbeats 2000000 in
theorem power82 (X M bm : Nat) (es : List UInt8) (vx v1 vm : Value) (w : World) (hx : RdD w vx X) (h1 : RdD w v1 1) (hm : RdD w vm M) (hM : 1 < M) (hc : w.cell? ⟨bm, 0, none⟩ = some vm) (hbm : bm < w.heap.size) (he : es.length ≤ 1152921504606846975)
    (lx : (ds X).length ≤ 4398046511104) (lm : (ds M).length ≤ 4398046511104) :
    Calls Tryd.prog 83 #[vx, v1, S es, .func (.func 82) #[] #[.pointer (some ⟨bm, 0, none⟩)]] w fun e w' => ∃ v, e = .returned v ∧ RdD w' v (X ^ bv es % M) ∧ Below w.heap.size w w' := by
  obtain ⟨px, cx, rfl, hdx⟩ := hx
  obtain ⟨p1, c1, rfl, hd1⟩ := h1
  have HDX := Lib.hid hdx; clear hdx
  have HD1 := Lib.hid hd1; clear hd1
  have HM := Lib.hid hm; clear hm
  have HC := Lib.hid hc; clear hc
  refine (callsIn_wide (n := 6)).1 ?_
  refine callsIn_of_wp_marks Tryd.func83 rfl trivial ?_ rfl
  simp only [Tryd.ntmps83, List.size_toArray, List.length_cons, List.length_nil, Nat.reduceAdd, Nat.reduceSub, Array.replicate_succ, Array.replicate_zero, List.push_toArray, List.append_toArray, List.nil_append, List.cons_append]
  gi_wp2
  refine ⟨trivial, ?_⟩
  refine (callsIn_wide.2 (bitsFromTop_any es _)).mono ?_
  rintro e w' ⟨rfl, rfl⟩
  gi_wp2
  have hb0 : Blk ((((w.alloc (.cells #[.slice px (ds X).length cx] 57)).alloc (.cells #[.func (.func 82) #[] #[.pointer (some ⟨bm, 0, none⟩)]] 70)).alloc (.cells #[.slice p1 (ds 1).length c1] 57)).alloc (.cells #[S es] 24)) w.heap.size 57 [.slice px (ds X).length cx] :=
    (((Blk.new w _ _).alloc _).alloc _).alloc _
  have hb1 : Blk ((((w.alloc (.cells #[.slice px (ds X).length cx] 57)).alloc (.cells #[.func (.func 82) #[] #[.pointer (some ⟨bm, 0, none⟩)]] 70)).alloc (.cells #[.slice p1 (ds 1).length c1] 57)).alloc (.cells #[S es] 24)) (w.heap.size + 1) 70 [.func (.func 82) #[] #[.pointer (some ⟨bm, 0, none⟩)]] := by
    have := (((Blk.new (w.alloc (.cells #[.slice px (ds X).length cx] 57)) #[.func (.func 82) #[] #[.pointer (some ⟨bm, 0, none⟩)]] 70).alloc (.cells #[.slice p1 (ds 1).length c1] 57)).alloc (.cells #[S es] 24))
    rwa [World.size_alloc] at this
  have hb2 : Blk ((((w.alloc (.cells #[.slice px (ds X).length cx] 57)).alloc (.cells #[.func (.func 82) #[] #[.pointer (some ⟨bm, 0, none⟩)]] 70)).alloc (.cells #[.slice p1 (ds 1).length c1] 57)).alloc (.cells #[S es] 24)) (w.heap.size + 1 + 1) 57 [.slice p1 (ds 1).length c1] := by
    have := ((Blk.new ((w.alloc (.cells #[.slice px (ds X).length cx] 57)).alloc (.cells #[.func (.func 82) #[] #[.pointer (some ⟨bm, 0, none⟩)]] 70)) #[.slice p1 (ds 1).length c1] 57).alloc (.cells #[S es] 24))
    simp only [World.size_alloc] at this
    exact this
  have hb3 : Blk ((((w.alloc (.cells #[.slice px (ds X).length cx] 57)).alloc (.cells #[.func (.func 82) #[] #[.pointer (some ⟨bm, 0, none⟩)]] 70)).alloc (.cells #[.slice p1 (ds 1).length c1] 57)).alloc (.cells #[S es] 24)) (w.heap.size + 1 + 1 + 1) 24 [S es] := by
    have := Blk.new (((w.alloc (.cells #[.slice px (ds X).length cx] 57)).alloc (.cells #[.func (.func 82) #[] #[.pointer (some ⟨bm, 0, none⟩)]] 70)).alloc (.cells #[.slice p1 (ds 1).length c1] 57)) #[S es] 24
    simp only [World.size_alloc] at this
    exact this
  have hch : Ch w.heap.size none1 w ((((w.alloc (.cells #[.slice px (ds X).length cx] 57)).alloc (.cells #[.func (.func 82) #[] #[.pointer (some ⟨bm, 0, none⟩)]] 70)).alloc (.cells #[.slice p1 (ds 1).length c1] 57)).alloc (.cells #[S es] 24)) :=
    ((((Ch.refl _ _ w).alloc (Nat.le_refl _) _).alloc (by simp) _).alloc (by simp; omega) _).alloc (by simp; omega) _
  have hsz : ((((w.alloc (.cells #[.slice px (ds X).length cx] 57)).alloc (.cells #[.func (.func 82) #[] #[.pointer (some ⟨bm, 0, none⟩)]] 70)).alloc (.cells #[.slice p1 (ds 1).length c1] 57)).alloc (.cells #[S es] 24)).heap.size = w.heap.size + 1 + 1 + 1 + 1 := by simp
  obtain ⟨W0, hW0⟩ : ∃ W0, ((((w.alloc (.cells #[.slice px (ds X).length cx] 57)).alloc (.cells #[.func (.func 82) #[] #[.pointer (some ⟨bm, 0, none⟩)]] 70)).alloc (.cells #[.slice p1 (ds 1).length c1] 57)).alloc (.cells #[S es] 24)) = W0 := ⟨_, rfl⟩
  rw [hW0] at hb0 hb1 hb2 hb3 hch hsz ⊢
  clear hW0
  have hd1 : RdD W0 (.slice p1 (ds 1).length c1) (X ^ bval [] % M) := by
    have h1 : RdD w (.slice p1 (ds 1).length c1) 1 := ⟨p1, c1, rfl, HD1.out⟩
    have h2 : X ^ bval [] % M = 1 := by show X ^ 0 % M = 1; rw [Nat.pow_zero, Nat.mod_eq_of_lt hM]
    rw [h2]
    exact h1.ch hch
  refine wpIn_rangeFunc_ownF (F := Fence.wide) rfl (by omega) (gf := 106) (lb := #[.pointer (some ⟨w.heap.size + 1 + 1 + 1, 0, none⟩)]) rfl trivial (enters_of Tryd.func106 (by kernel_rfl) rfl)
    (encs := fun x : Bool => #[.bool x]) (Kp := KpCell (w.heap.size + 1 + 1 + 1)) (S := fun ys => ys = (List.range (nbits (bv es))).map (bitTop (bv es))) (Sp := fun _ => True) (N := nbits (bv es)) (w0 := W0)
    (fun l J Jx W hW _ _ hY h0 => bits_in Fence.wide _ trivial trivial rfl (by omega) l _ es J Jx he (fun W => callsIn_wide.2 (bits_any es W he)) hY W (by rw [hW.cell (p := ⟨w.heap.size + 1 + 1 + 1, 0, none⟩) (by show w.heap.size + 1 + 1 + 1 < W0.heap.size; omega), hb3.cell]; rfl) h0)
    (fun h1 h2 => h2.trans h1)
    (fun W l o o' hl ho hc _ => ?kb) (Below.refl _ _) (fun _ => rfl)
    (fun pre W => (∃ v, Blk W (w.heap.size + 1 + 1) 57 [v] ∧ RdD W v (X ^ bval pre % M)) ∧ Blk W w.heap.size 57 [.slice px (ds X).length cx] ∧ Blk W (w.heap.size + 1) 70 [.func (.func 82) #[] #[.pointer (some ⟨bm, 0, none⟩)]] ∧ Blk W (w.heap.size + 1 + 1 + 1) 24 [S es] ∧ Below w.heap.size w W)
    (fun _ _ _ => False) ?hI (fun _ _ _ _ _ hs _ _ => hs) ⟨⟨_, hb2, hd1⟩, hb0, hb1, hb3, hch.below⟩
    (fun x => { tmps := #[.slice px (ds X).length cx, .slice p1 (ds 1).length c1, S es, .func (.func 82) #[] #[.pointer (some ⟨bm, 0, none⟩)], .pointer (some ⟨w.heap.size, 0, none⟩), undef, undef, .pointer (some ⟨w.heap.size + 1, 0, none⟩), .slice none 0 0, .pointer (some ⟨w.heap.size + 1 + 1, 0, none⟩), .bool x, .slice p1 (ds 1).length c1, S es, .func (.func 106) #[] #[.pointer (some ⟨w.heap.size + 1 + 1 + 1, 0, none⟩)], .bool x, undef, undef, undef, undef, undef, undef, undef, undef, undef, undef], defers := [] }) ?assign ?body ?done ?stop
  case kb =>
    have hlt := (Array.getElem?_eq_some_iff.1 ho).1
    exact World.cell?_of_block (w := W) (a := ⟨w.heap.size + 1 + 1 + 1, 0, none⟩) ((grownBy_putObj' W l o').block (w.heap.size + 1 + 1 + 1) (by omega) (by simp; omega))
  case hI =>
    rintro pre W W' row ⟨⟨v, hb, hr⟩, h0, h1, h3, hB⟩ hg hrow
    exact ⟨⟨v, blk_grown hb hg hrow, rd_grown hr hg hrow⟩, blk_grown h0 hg hrow, blk_grown h1 hg hrow, blk_grown h3 hg hrow, hB.grown hg hB.size (fun k e => by have := (hrow k e).1; omega)⟩
  case assign =>
    intro l x W K hK
    gi_wp2
    exact hK
  case body =>
    rintro l pre x W ⟨⟨v, hb2, hr⟩, hb0, hb1, hb3, hB⟩ _
    obtain ⟨pv, cv, rfl, hdv⟩ := hr
    have hr : RdD W (.slice pv (ds (X ^ bval pre % M)).length cv) (X ^ bval pre % M) := ⟨pv, cv, rfl, hdv⟩
    have hal : (ds (X ^ bval pre % M)).length ≤ 4398046511104 := Nat.le_trans ((ds_len _ _).2 (Nat.lt_trans (Nat.mod_lt _ (by omega)) ((ds_len M _).1 (Nat.le_refl _)))) lm
    have hcw : Ch w.heap.size none1 w W := Ch.of_below hB
    have hx : RdD W (.slice px (ds X).length cx) X := RdD.ch ⟨px, cx, rfl, HDX.out⟩ hcw
    have hmm := HM.out.ch hcw
    have hcm := (hcw.cell (p := ⟨bm, 0, none⟩) hbm (fun q => q)).trans HC.out
    have hbmW : bm < W.heap.size := Nat.lt_of_lt_of_le hbm hB.size
    have hs2 := hb2.lt
    have hs3 := hb3.lt
    have c0 := hb0.cell 0
    have cf1 := hb1.cell 0
    have c2 := hb2.cell 0
    have f2 := hb2.frozen 0
    have HR := Lib.hid hr; clear hr hdv
    have HX := Lib.hid hx; clear hx
    have HMM := Lib.hid hmm; clear hmm
    have HCM := Lib.hid hcm; clear hcm
    generalize hnv : (ds (X ^ bval pre % M)).length = nv at *
    have HNV := Lib.hid hnv; clear hnv
    rcases x with _ | _
    · -- no digit
      gi_wp2
      refine ⟨trivial, ?_⟩
      refine (CallsIn.inRound l (callsIn_wide.2 (prod82 _ _ M bm _ _ vm W HR.out HR.out HMM.out (by omega) HCM.out hbmW (by rw [HNV.out]; exact hal) (by rw [HNV.out]; exact hal) lm))).mono ?_
      rintro e W2 ⟨v2, rfl, hr2, hC2⟩
      obtain ⟨p2, k2, rfl, hd2⟩ := hr2
      rw [pow_step0] at hd2
      have hr2 : RdD W2 (.slice p2 (ds (X ^ bval pre % M * (X ^ bval pre % M) % M)).length k2) (X ^ (2 * bval pre) % M) := ⟨p2, k2, by rw [pow_step0], hd2⟩
      generalize (ds (X ^ bval pre % M * (X ^ bval pre % M) % M)).length = n2 at *
      have g0 := hC2.blk hb0 (by omega) (fun q => q)
      have g1 := hC2.blk hb1 (by omega) (fun q => q)
      have g2 := hC2.blk hb2 (by omega) (fun q => q)
      have g3 := hC2.blk hb3 (by omega) (fun q => q)
      have d0 := g0.cell 0
      have d1 := g1.cell 0
      have d2 := g2.cell 0
      have e2 := g2.frozen 0
      have hsz2 := hC2.size
      have hx2 := RdD.ch HX.out hC2
      have hm2 := RdD.ch HMM.out hC2
      have hcm2 := (hC2.cell (p := ⟨bm, 0, none⟩) hbmW (fun q => q)).trans HCM.out
      have hk2 := keeps_ch hC2
      have hcw2 := hcw.trans (hC2.weak (B := w.heap.size) hB.size)
      have HX2 := Lib.hid (rd_set (u := .slice p2 n2 k2) hx2 d2)
      have HM2 := Lib.hid (rd_set (u := .slice p2 n2 k2) hm2 d2)
      have HR2 := Lib.hid (rd_set (u := .slice p2 n2 k2) hr2 d2)
      have HG0 := Lib.hid (g0.set_other (g' := w.heap.size + 1 + 1) (by omega) 0 (.slice p2 n2 k2))
      have HG1 := Lib.hid (g1.set_other (g' := w.heap.size + 1 + 1) (by omega) 0 (.slice p2 n2 k2))
      have HG2 := Lib.hid (g2.set 0 (.slice p2 n2 k2))
      have HG3 := Lib.hid (g3.set_other (g' := w.heap.size + 1 + 1) (by omega) 0 (.slice p2 n2 k2))
      have HCW := Lib.hid (hcw2.setCell (p := ⟨w.heap.size + 1 + 1, 0, none⟩) (.inl (by show w.heap.size ≤ w.heap.size + 1 + 1; omega)) (.slice p2 n2 k2))
      have HK2 := Lib.hid (hk2.trans (KeepsOthers.setCell W2 ⟨w.heap.size + 1 + 1, 0, none⟩ (.slice p2 n2 k2)))
      have HCM2 := Lib.hid hcm2
      clear hd2 hr2 hx2 hm2 hcm2 hk2 hcw2 g0 g1 g3
      gi_wp2
      refine ⟨HK2.out, ?_, ⟨_, HG2.out, ?_⟩, HG0.out, HG1.out, HG3.out, HCW.out.below⟩
      · unfold KpCell
        rw [HG3.out.cell, hb3.cell]
      · rw [bval_snoc]
        exact HR2.out
    · -- a digit
      gi_wp2
      refine ⟨trivial, ?_⟩
      refine (CallsIn.inRound l (callsIn_wide.2 (prod82 _ _ M bm _ _ vm W HR.out HR.out HMM.out (by omega) HCM.out hbmW (by rw [HNV.out]; exact hal) (by rw [HNV.out]; exact hal) lm))).mono ?_
      rintro e W2 ⟨v2, rfl, hr2, hC2⟩
      obtain ⟨p2, k2, rfl, hd2⟩ := hr2
      rw [pow_step0] at hd2
      have hr2 : RdD W2 (.slice p2 (ds (X ^ bval pre % M * (X ^ bval pre % M) % M)).length k2) (X ^ (2 * bval pre) % M) := ⟨p2, k2, by rw [pow_step0], hd2⟩
      generalize (ds (X ^ bval pre % M * (X ^ bval pre % M) % M)).length = n2 at *
      have g0 := hC2.blk hb0 (by omega) (fun q => q)
      have g1 := hC2.blk hb1 (by omega) (fun q => q)
      have g2 := hC2.blk hb2 (by omega) (fun q => q)
      have g3 := hC2.blk hb3 (by omega) (fun q => q)
      have d0 := g0.cell 0
      have d1 := g1.cell 0
      have d2 := g2.cell 0
      have e2 := g2.frozen 0
      have hsz2 := hC2.size
      have hx2 := RdD.ch HX.out hC2
      have hm2 := RdD.ch HMM.out hC2
      have hcm2 := (hC2.cell (p := ⟨bm, 0, none⟩) hbmW (fun q => q)).trans HCM.out
      have hk2 := keeps_ch hC2
      have hcw2 := hcw.trans (hC2.weak (B := w.heap.size) hB.size)
      have HX2 := Lib.hid (rd_set (u := .slice p2 n2 k2) hx2 d2)
      have HM2 := Lib.hid (rd_set (u := .slice p2 n2 k2) hm2 d2)
      have HR2 := Lib.hid (rd_set (u := .slice p2 n2 k2) hr2 d2)
      have HG0 := Lib.hid (g0.set_other (g' := w.heap.size + 1 + 1) (by omega) 0 (.slice p2 n2 k2))
      have HG1 := Lib.hid (g1.set_other (g' := w.heap.size + 1 + 1) (by omega) 0 (.slice p2 n2 k2))
      have HG2 := Lib.hid (g2.set 0 (.slice p2 n2 k2))
      have HG3 := Lib.hid (g3.set_other (g' := w.heap.size + 1 + 1) (by omega) 0 (.slice p2 n2 k2))
      have HCW := Lib.hid (hcw2.setCell (p := ⟨w.heap.size + 1 + 1, 0, none⟩) (.inl (by show w.heap.size ≤ w.heap.size + 1 + 1; omega)) (.slice p2 n2 k2))
      have HK2 := Lib.hid (hk2.trans (KeepsOthers.setCell W2 ⟨w.heap.size + 1 + 1, 0, none⟩ (.slice p2 n2 k2)))
      have HCM2 := Lib.hid hcm2
      clear hd2 hr2 hx2 hm2 hcm2 hk2 hcw2 g0 g1 g3
      have HHS := Lib.hid HCW.out.size
      gi_wp2
      refine ⟨trivial, ?_⟩
      have hl2 : (ds (X ^ (2 * bval pre) % M)).length ≤ 4398046511104 := Nat.le_trans ((ds_len _ _).2 (Nat.lt_trans (Nat.mod_lt _ (by omega)) ((ds_len M _).1 (Nat.le_refl _)))) lm
      refine (CallsIn.inRound l (callsIn_wide.2 (prod82 _ _ M bm _ _ vm _ HR2.out HX2.out HM2.out (by omega) ((HCW.out.cell (p := ⟨bm, 0, none⟩) hbm (fun q => q)).trans HC.out) (Nat.lt_of_lt_of_le hbm HHS.out) hl2 lx lm))).mono ?_
      rintro e W4 ⟨v4, rfl, hr4, hC4⟩
      obtain ⟨p4, k4, rfl, hd4⟩ := hr4
      rw [pow_step1] at hd4
      have hr4 : RdD W4 (.slice p4 (ds (X ^ (2 * bval pre) % M * X % M)).length k4) (X ^ (2 * bval pre + 1) % M) := ⟨p4, k4, by rw [pow_step1], hd4⟩
      generalize (ds (X ^ (2 * bval pre) % M * X % M)).length = n4 at *
      have hs4 := HG2.out.lt
      have hs5 := HG3.out.lt
      have j0 := hC4.blk HG0.out (by omega) (fun q => q)
      have j1 := hC4.blk HG1.out (by omega) (fun q => q)
      have j2 := hC4.blk HG2.out (by omega) (fun q => q)
      have j3 := hC4.blk HG3.out (by omega) (fun q => q)
      have i2 := j2.cell 0
      have i3 := j2.frozen 0
      have i2' : W4.cell? ⟨w.heap.size + 1 + 1, 0, none⟩ = some (.slice p2 n2 k2) := i2
      clear i2
      have HR4 := Lib.hid (rd_set (u := .slice p4 n4 k4) hr4 i2')
      have HJ0 := Lib.hid (j0.set_other (g' := w.heap.size + 1 + 1) (by omega) 0 (.slice p4 n4 k4))
      have HJ1 := Lib.hid (j1.set_other (g' := w.heap.size + 1 + 1) (by omega) 0 (.slice p4 n4 k4))
      have HJ2 := Lib.hid (j2.set 0 (.slice p4 n4 k4))
      have HJ3 := Lib.hid (j3.set_other (g' := w.heap.size + 1 + 1) (by omega) 0 (.slice p4 n4 k4))
      have HK4 := Lib.hid ((HK2.out.trans (keeps_ch hC4)).trans (KeepsOthers.setCell W4 ⟨w.heap.size + 1 + 1, 0, none⟩ (.slice p4 n4 k4)))
      have HCW4 := Lib.hid ((HCW.out.trans (hC4.weak (B := w.heap.size) HHS.out)).setCell (p := ⟨w.heap.size + 1 + 1, 0, none⟩) (.inl (by show w.heap.size ≤ w.heap.size + 1 + 1; omega)) (.slice p4 n4 k4))
      clear hd4 hr4 j0 j1 j2 j3
      gi_wp2
      refine ⟨HK4.out, ?_, ⟨_, HJ2.out, ?_⟩, HJ0.out, HJ1.out, HJ3.out, HCW4.out.below⟩
      · unfold KpCell
        rw [HJ3.out.cell, hb3.cell]
      · rw [bval_snoc]
        exact HR4.out
  case done =>
    rintro D ys W hD rfl ⟨⟨v, hb2, hr⟩, _, _, _, hB⟩ hK
    rw [bval_all] at hr
    have c2 := hb2.cell 0
    have HR := Lib.hid hr; clear hr
    gi_wp2
    refine ⟨by simp, .inl ⟨_, _, rfl, run_takeDeferred hK, ?_⟩⟩
    exact ⟨_, results_tmp rfl _ _ _, v, rfl, rd_grown HR.out (grownBy_putObj' W D _) (fun r e => by cases e; exact ⟨hD, _, hK, rfl⟩), hB.trans (belowK_b (w := w) (Nat.le_refl _) W D _ _ (by omega) hK rfl rfl)⟩
  case stop =>
    rintro D c pre W _ _ h _
    exact h.elim
end Go.Proofs.YtcghnkdfhiancaaDoor
