/- Package date's isRight. -/
import Derived.Test.YtehgkpbjbkeoeaaDoorDj
namespace Go.Proofs.YtehgkpbjbkeoeaaDoor
open Go.RowKit Go.Shelf
attribute [local go_sem] Oper.semAt_some
/-- What isRight's loop holds: the counts, and whether the part before was open. -/
structure RInv (w : World) (B : Nat) (L : List UInt8) (pre : List Pt) (W : World) : Prop where
  res : Blk W B 4 [.bool false]
  ys : Blk W (B + 1) 3 [iz ((raw pre).countP Lay.isY : Nat)]
  ms : Blk W (B + 1 + 1) 3 [iz ((raw pre).countP Lay.isM : Nat)]
  ds : Blk W (B + 1 + 1 + 1) 3 [iz ((raw pre).countP Lay.isD : Nat)]
  op : Blk W (B + 1 + 1 + 1 + 1) 4 [.bool (Lay.openAfter (raw pre))]
  box : Blk W (B + 1 + 1 + 1 + 1 + 1) 9 [S L]
  good : Lay.good false (raw pre) = true
  bel : Below B w W
theorem raw_snoc (pre : List Pt) (x : Pt) : raw (pre ++ [x]) = raw pre ++ [x.1] := by simp [raw]
theorem cnt_snoc (f : List UInt8 → Bool) (pre : List Pt) (x : Pt) {b : Bool} (h : f x.1 = b) : (raw (pre ++ [x])).countP f = (raw pre).countP f + (if b then 1 else 0) := by
  rw [raw_snoc, List.countP_append]
  cases b <;> simp [h]
theorem RInv.stepN {w W : World} {B : Nat} {L : List UInt8} {pre : List Pt} (h : RInv w B L pre W) (x : Pt) (h1 : Lay.isY x.1 = false) (h2 : Lay.isM x.1 = false) (h3 : Lay.isD x.1 = false) (h4 : Lay.isO x.1 = false) (hg : Lay.node (Lay.openAfter (raw pre)) x.1 = true) :
    RInv w B L (pre ++ [x]) (W.setCell ⟨B + 1 + 1 + 1 + 1, 0, none⟩ (.bool false)) where
  res := h.res.set_other (by omega) 0 _
  ys := (h.ys.set_other (by omega) 0 _).cast (by rw [cnt_snoc _ _ _ h1]; rfl)
  ms := (h.ms.set_other (by omega) 0 _).cast (by rw [cnt_snoc _ _ _ h2]; rfl)
  ds := (h.ds.set_other (by omega) 0 _).cast (by rw [cnt_snoc _ _ _ h3]; rfl)
  op := (h.op.set 0 _).cast (by rw [raw_snoc, Lay.openAfter_snoc, h4]; rfl)
  box := h.box.set_other (by omega) 0 _
  good := by rw [raw_snoc, Lay.good_snoc, h.good, hg]; rfl
  bel := h.bel.setCell (p := ⟨B + 1 + 1 + 1 + 1, 0, none⟩) (by show B ≤ B + 1 + 1 + 1 + 1; omega) _
theorem RInv.stepY {w W : World} {B : Nat} {L : List UInt8} {pre : List Pt} (h : RInv w B L pre W) (x : Pt) {o : Bool} {n : Nat} (h1 : Lay.isY x.1 = true) (h2 : Lay.isM x.1 = false) (h3 : Lay.isD x.1 = false) (h4 : Lay.isO x.1 = o) (hg : Lay.node (Lay.openAfter (raw pre)) x.1 = true) (hn : (raw pre).countP Lay.isY = n) :
    RInv w B L (pre ++ [x]) ((W.setCell ⟨B + 1, 0, none⟩ (iz ((n : Int) + 1))).setCell ⟨B + 1 + 1 + 1 + 1, 0, none⟩ (.bool o)) where
  res := (h.res.set_other (by omega) 0 _).set_other (by omega) 0 _
  ys := ((h.ys.set 0 _).set_other (by omega) 0 _).cast (by rw [cnt_snoc _ _ _ h1, hn]; rfl)
  ms := ((h.ms.set_other (by omega) 0 _).set_other (by omega) 0 _).cast (by rw [cnt_snoc _ _ _ h2]; rfl)
  ds := ((h.ds.set_other (by omega) 0 _).set_other (by omega) 0 _).cast (by rw [cnt_snoc _ _ _ h3]; rfl)
  op := ((h.op.set_other (by omega) 0 _).set 0 _).cast (by rw [raw_snoc, Lay.openAfter_snoc, h4]; rfl)
  box := (h.box.set_other (by omega) 0 _).set_other (by omega) 0 _
  good := by rw [raw_snoc, Lay.good_snoc, h.good, hg]; rfl
  bel := (h.bel.setCell (p := ⟨B + 1, 0, none⟩) (by show B ≤ B + 1; omega) _).setCell (p := ⟨B + 1 + 1 + 1 + 1, 0, none⟩) (by show B ≤ B + 1 + 1 + 1 + 1; omega) _
theorem RInv.stepM {w W : World} {B : Nat} {L : List UInt8} {pre : List Pt} (h : RInv w B L pre W) (x : Pt) {o : Bool} {n : Nat} (h1 : Lay.isY x.1 = false) (h2 : Lay.isM x.1 = true) (h3 : Lay.isD x.1 = false) (h4 : Lay.isO x.1 = o) (hg : Lay.node (Lay.openAfter (raw pre)) x.1 = true) (hn : (raw pre).countP Lay.isM = n) :
    RInv w B L (pre ++ [x]) ((W.setCell ⟨B + 1 + 1, 0, none⟩ (iz ((n : Int) + 1))).setCell ⟨B + 1 + 1 + 1 + 1, 0, none⟩ (.bool o)) where
  res := (h.res.set_other (by omega) 0 _).set_other (by omega) 0 _
  ys := ((h.ys.set_other (by omega) 0 _).set_other (by omega) 0 _).cast (by rw [cnt_snoc _ _ _ h1]; rfl)
  ms := ((h.ms.set 0 _).set_other (by omega) 0 _).cast (by rw [cnt_snoc _ _ _ h2, hn]; rfl)
  ds := ((h.ds.set_other (by omega) 0 _).set_other (by omega) 0 _).cast (by rw [cnt_snoc _ _ _ h3]; rfl)
  op := ((h.op.set_other (by omega) 0 _).set 0 _).cast (by rw [raw_snoc, Lay.openAfter_snoc, h4]; rfl)
  box := (h.box.set_other (by omega) 0 _).set_other (by omega) 0 _
  good := by rw [raw_snoc, Lay.good_snoc, h.good, hg]; rfl
  bel := (h.bel.setCell (p := ⟨B + 1 + 1, 0, none⟩) (by show B ≤ B + 1 + 1; omega) _).setCell (p := ⟨B + 1 + 1 + 1 + 1, 0, none⟩) (by show B ≤ B + 1 + 1 + 1 + 1; omega) _
theorem RInv.stepD {w W : World} {B : Nat} {L : List UInt8} {pre : List Pt} (h : RInv w B L pre W) (x : Pt) {o : Bool} {n : Nat} (h1 : Lay.isY x.1 = false) (h2 : Lay.isM x.1 = false) (h3 : Lay.isD x.1 = true) (h4 : Lay.isO x.1 = o) (hg : Lay.node (Lay.openAfter (raw pre)) x.1 = true) (hn : (raw pre).countP Lay.isD = n) :
    RInv w B L (pre ++ [x]) ((W.setCell ⟨B + 1 + 1 + 1, 0, none⟩ (iz ((n : Int) + 1))).setCell ⟨B + 1 + 1 + 1 + 1, 0, none⟩ (.bool o)) where
  res := (h.res.set_other (by omega) 0 _).set_other (by omega) 0 _
  ys := ((h.ys.set_other (by omega) 0 _).set_other (by omega) 0 _).cast (by rw [cnt_snoc _ _ _ h1]; rfl)
  ms := ((h.ms.set_other (by omega) 0 _).set_other (by omega) 0 _).cast (by rw [cnt_snoc _ _ _ h2]; rfl)
  ds := ((h.ds.set 0 _).set_other (by omega) 0 _).cast (by rw [cnt_snoc _ _ _ h3, hn]; rfl)
  op := ((h.op.set_other (by omega) 0 _).set 0 _).cast (by rw [raw_snoc, Lay.openAfter_snoc, h4]; rfl)
  box := (h.box.set_other (by omega) 0 _).set_other (by omega) 0 _
  good := by rw [raw_snoc, Lay.good_snoc, h.good, hg]; rfl
  bel := (h.bel.setCell (p := ⟨B + 1 + 1 + 1, 0, none⟩) (by show B ≤ B + 1 + 1 + 1; omega) _).setCell (p := ⟨B + 1 + 1 + 1 + 1, 0, none⟩) (by show B ≤ B + 1 + 1 + 1 + 1; omega) _
theorem RInv.grown {w W W' : World} {B : Nat} {L : List UInt8} {pre : List Pt} {row : Option Nat} (h : RInv w B L pre W) (hg : W.grownBy W' row) (hr : ∀ r, row = some r → B + 1 + 1 + 1 + 1 + 1 + 1 ≤ r ∧ ∃ o : Obj, W.heap[r]? = some o ∧ o.isCells = false) : RInv w B L pre W' :=
  have k := fun r e => (hr r e).2
  ⟨dblk_grown h.res hg k, dblk_grown h.ys hg k, dblk_grown h.ms hg k, dblk_grown h.ds hg k, dblk_grown h.op hg k, dblk_grown h.box hg k, h.good, h.bel.grown hg (by have := h.res.lt; omega) (fun r e => by have := (hr r e).1; omega)⟩
/-- A way out of the loop: the layout is not right. -/
structure ROut (w : World) (B : Nat) (pre : List Pt) (W : World) : Prop where
  res : Blk W B 4 [.bool false]
  bad : Lay.good false (raw pre) = false
  bel : Below B w W
theorem ROut.grown {w W W' : World} {B : Nat} {pre : List Pt} {row : Option Nat} (h : ROut w B pre W) (hg : W.grownBy W' row) (hr : ∀ r, row = some r → B + 1 + 1 + 1 + 1 + 1 + 1 ≤ r ∧ ∃ o : Obj, W.heap[r]? = some o ∧ o.isCells = false) : ROut w B pre W' :=
  ⟨dblk_grown h.res hg (fun r e => (hr r e).2), h.bad, h.bel.grown hg (by have := h.res.lt; omega) (fun r e => by have := (hr r e).1; omega)⟩
theorem bad_snoc {pre : List Pt} {x : Pt} (h : Lay.node (Lay.openAfter (raw pre)) x.1 = false) : Lay.good false (raw (pre ++ [x])) = false := by rw [raw_snoc, Lay.good_snoc, h, Bool.and_false]
theorem good_len {pre : List Pt} (f : List UInt8 → Bool) : (raw pre).countP f ≤ pre.length := by
  have := List.countP_le_length (p := f) (l := raw pre)
  simpa [raw] using this
theorem RInv.start (w : World) (L : List UInt8) {B : Nat} (hB : w.heap.size = B) : RInv w B L [] ((((((w.alloc (.cells #[.bool false] 4)).alloc (.cells #[iz 0] 3)).alloc (.cells #[iz 0] 3)).alloc (.cells #[iz 0] 3)).alloc (.cells #[.bool false] 4)).alloc (.cells #[S L] 9)) ∧ ((((((w.alloc (.cells #[.bool false] 4)).alloc (.cells #[iz 0] 3)).alloc (.cells #[iz 0] 3)).alloc (.cells #[iz 0] 3)).alloc (.cells #[.bool false] 4)).alloc (.cells #[S L] 9)).heap.size = B + 1 + 1 + 1 + 1 + 1 + 1 := by
  subst hB
  have b0 := (((((Blk.new w #[.bool false] 4).alloc (.cells #[iz 0] 3 (0, 0))).alloc (.cells #[iz 0] 3 (0, 0))).alloc (.cells #[iz 0] 3 (0, 0))).alloc (.cells #[.bool false] 4 (0, 0))).alloc (.cells #[S L] 9 (0, 0))
  have b1 := ((((Blk.new (w.alloc (.cells #[.bool false] 4)) #[iz 0] 3).alloc (.cells #[iz 0] 3 (0, 0))).alloc (.cells #[iz 0] 3 (0, 0))).alloc (.cells #[.bool false] 4 (0, 0))).alloc (.cells #[S L] 9 (0, 0))
  have b2 := (((Blk.new ((w.alloc (.cells #[.bool false] 4)).alloc (.cells #[iz 0] 3)) #[iz 0] 3).alloc (.cells #[iz 0] 3 (0, 0))).alloc (.cells #[.bool false] 4 (0, 0))).alloc (.cells #[S L] 9 (0, 0))
  have b3 := ((Blk.new (((w.alloc (.cells #[.bool false] 4)).alloc (.cells #[iz 0] 3)).alloc (.cells #[iz 0] 3)) #[iz 0] 3).alloc (.cells #[.bool false] 4 (0, 0))).alloc (.cells #[S L] 9 (0, 0))
  have b4 := (Blk.new ((((w.alloc (.cells #[.bool false] 4)).alloc (.cells #[iz 0] 3)).alloc (.cells #[iz 0] 3)).alloc (.cells #[iz 0] 3)) #[.bool false] 4).alloc (.cells #[S L] 9 (0, 0))
  have b5 := Blk.new (((((w.alloc (.cells #[.bool false] 4)).alloc (.cells #[iz 0] 3)).alloc (.cells #[iz 0] 3)).alloc (.cells #[iz 0] 3)).alloc (.cells #[.bool false] 4)) #[S L] 9
  simp only [World.size_alloc] at b0 b1 b2 b3 b4 b5
  refine ⟨⟨b0, b1, b2, b3, b4, b5, rfl, ?_⟩, by simp⟩
  exact ((((((Below.refl _ w).alloc (Nat.le_refl _) _).alloc (by simp) _).alloc (by simp; omega) _).alloc (by simp; omega) _).alloc (by simp; omega) _).alloc (by simp; omega) _
set_option maxRecDepth 100000 in
set_option maxHeartbeats 2000000 in
theorem isRight_long (L : List UInt8) (hL : 40 < L.length) (hL2 : L.length ≤ 9223372036854775807) (w : World) :
    Calls Tryd.prog 26 #[S L] w (Yd w (.bool false)) := by
  have hb := Blk.new w #[.bool false] 4
  have hc := hb.cell 0
  go_enter Tryd.func26, Tryd.ntmps26
  go_wp2_with fail
  refine bodyPost_ret (results_cell_bool rfl _ _ w.heap.size (.bool false) rfl hc Tryd.underlying4) rfl ?_
  exact ⟨rfl, (Ch.refl _ _ _).alloc (Nat.le_refl _) _⟩
set_option maxRecDepth 100000 in
set_option maxHeartbeats 4000000 in
theorem isRight_short (L : List UInt8) (hL : L.length ≤ 40) (w : World) :
    Calls Tryd.prog 26 #[S L] w (Yd w (.bool (Lay.right L))) := by
  have hd40 : decide (40 < (L.length : Int)) = false := decide_eq_false (by omega)
  refine (callsIn_wide (n := 6)).1 ?_
  refine callsIn_of_wp_marks Tryd.func26 rfl trivial ?_ rfl
  simp only [Tryd.ntmps26, List.size_toArray, List.length_cons, List.length_nil, Nat.reduceAdd, Nat.reduceSub, Array.replicate_succ, Array.replicate_zero, List.push_toArray, List.append_toArray, List.nil_append, List.cons_append]
  gi_wp2
  refine ⟨trivial, ?_⟩
  refine (callsIn_wide.2 (parts_any L _)).mono ?_
  rintro e w' ⟨rfl, rfl⟩
  gi_wp2
  clear hd40
  obtain ⟨B, hB⟩ : ∃ B, w.heap.size = B := ⟨_, rfl⟩
  obtain ⟨hst, hsz⟩ := RInv.start w L hB
  rw [hB]
  obtain ⟨W0, hW0⟩ : ∃ W0, ((((((w.alloc (.cells #[.bool false] 4)).alloc (.cells #[iz 0] 3)).alloc (.cells #[iz 0] 3)).alloc (.cells #[iz 0] 3)).alloc (.cells #[.bool false] 4)).alloc (.cells #[S L] 9)) = W0 := ⟨_, rfl⟩
  rw [hW0] at hst hsz ⊢
  clear hW0
  refine wpIn_rangeFunc_ownF (F := Fence.wide) rfl (by omega) (gf := 49) (lb := #[.pointer (some ⟨B + 1 + 1 + 1 + 1 + 1, 0, none⟩)]) rfl trivial (enters_of Tryd.func49 (by kernel_rfl) rfl)
    (encs := fun x : Pt => #[S x.1]) (Kp := KpC (B + 1 + 1 + 1 + 1 + 1)) (S := fun ys => raw ys = Lay.parts L) (Sp := fun pre => raw pre <+: Lay.parts L) (N := (Lay.parts L).length) (w0 := W0)
    (fun l J Jx W hW _ _ hY h0 => parts_in Fence.wide _ trivial trivial rfl (by omega) l _ L J Jx (by omega) (fun s W => callsIn_wide.2 (firstWidth_any s W)) hY W (by rw [hW.cell (p := ⟨B + 1 + 1 + 1 + 1 + 1, 0, none⟩) (by show B + 1 + 1 + 1 + 1 + 1 < W0.heap.size; omega), hst.box.cell]; rfl) h0)
    (fun h1 h2 => h2.trans h1)
    (fun W l o o' hl ho hc _ => ?kb) (Below.refl _ _) (fun _ => rfl)
    (RInv w B L)
    (fun c pre W => c = .ret ∧ ROut w B pre W) ?hI (fun c s A' B' row hs hg hr => ⟨hs.1, hs.2.grown hg (fun r e => by have := hr r e; rw [hsz] at this; exact this)⟩) hst
    (fun x => { tmps := #[S L, undef, .pointer (some ⟨B, 0, none⟩), .pointer (some ⟨B + 1, 0, none⟩), .pointer (some ⟨B + 1 + 1, 0, none⟩), .pointer (some ⟨B + 1 + 1 + 1, 0, none⟩), .pointer (some ⟨B + 1 + 1 + 1 + 1, 0, none⟩), S x.1, undef, S L, iz (L.length : Int), .bool false, S L, .func (.func 49) #[] #[.pointer (some ⟨B + 1 + 1 + 1 + 1 + 1, 0, none⟩)], S x.1, undef, undef, undef, undef, undef, undef, undef, undef, undef, undef, undef, undef, undef, undef, undef, undef, undef, undef, undef, undef, undef, undef, undef, undef, undef, undef, undef, undef, undef, undef, undef, undef, undef, undef, undef, undef, undef, undef, undef], defers := [] }) ?assign ?body ?done ?stop
  case kb =>
    exact World.cell?_of_block (w := W) (a := ⟨B + 1 + 1 + 1 + 1 + 1, 0, none⟩) ((grownBy_putObj' W l o').block (B + 1 + 1 + 1 + 1 + 1) (by have := (Array.getElem?_eq_some_iff.1 ho).1; omega) (by simp; omega))
  case hI =>
    rintro pre W W' row h hg hrow
    exact h.grown hg (fun r e => by have := hrow r e; rw [hsz] at this; exact this)
  case assign =>
    intro l x W K hK
    gi_wp2
    exact hK
  case body =>
    rintro l pre x W hi hlen
    have hpl := Lay.parts_len L
    have hn1 := good_len (pre := pre) Lay.isY
    have hn2 := good_len (pre := pre) Lay.isM
    have hn3 := good_len (pre := pre) Lay.isD
    have q0 := hi.res.cell 0
    have q1 := hi.ys.cell 0
    have q2 := hi.ms.cell 0
    have q3 := hi.ds.cell 0
    have q4 := hi.op.cell 0
    have g0 := hi.res.frozen 0
    have g1 := hi.ys.frozen 0
    have g2 := hi.ms.frozen 0
    have g3 := hi.ds.frozen 0
    have g4 := hi.op.frozen 0
    obtain ⟨n1, e1⟩ : ∃ n, (raw pre).countP Lay.isY = n := ⟨_, rfl⟩
    obtain ⟨n2, e2⟩ : ∃ n, (raw pre).countP Lay.isM = n := ⟨_, rfl⟩
    obtain ⟨n3, e3⟩ : ∃ n, (raw pre).countP Lay.isD = n := ⟨_, rfl⟩
    obtain ⟨o, e4⟩ : ∃ o, Lay.openAfter (raw pre) = o := ⟨_, rfl⟩
    rw [e1] at hn1 q1
    rw [e2] at hn2 q2
    rw [e3] at hn3 q3
    rw [e4] at q4
    have b1 : n1 ≤ 40 := by omega
    have b2 : n2 ≤ 40 := by omega
    have b3 : n3 ≤ 40 := by omega
    have HI := Lib.hid hi
    have E1 := Lib.hid e1
    have E2 := Lib.hid e2
    have E3 := Lib.hid e3
    have E4 := Lib.hid e4
    clear hi e1 e2 e3 e4 hn1 hn2 hn3 hpl hlen
    obtain ⟨p, hp⟩ := x
    cases hp with
    | y =>
      cases o with
      | false =>
        gi_wp2
        refine ⟨(KeepsOthers.setCell W ⟨B + 1, 0, none⟩ _).trans (KeepsOthers.setCell _ ⟨B + 1 + 1 + 1 + 1, 0, none⟩ _), ?_, HI.out.stepY ⟨[89, 89, 89, 89], .y⟩ (o := false) rfl rfl rfl rfl (by rw [E4.out]; rfl) E1.out⟩
        unfold KpC
        rw [((HI.out.box.set_other (by omega) 0 _).set_other (by omega) 0 _).cell, HI.out.box.cell]
      | true =>
        gi_wp2
        refine ⟨(KeepsOthers.setCell W ⟨B + 1, 0, none⟩ _).trans (KeepsOthers.setCell _ ⟨B, 0, none⟩ _), rfl, (HI.out.res.set_other (by omega) 0 _).set 0 _, bad_snoc (by rw [E4.out]; rfl), (HI.out.bel.setCell (p := ⟨B + 1, 0, none⟩) (by show B ≤ B + 1; omega) _).setCell (p := ⟨B, 0, none⟩) (Nat.le_refl _) _⟩
    | mm =>
      cases o with
      | false =>
        gi_wp2
        refine ⟨(KeepsOthers.setCell W ⟨B + 1 + 1, 0, none⟩ _).trans (KeepsOthers.setCell _ ⟨B + 1 + 1 + 1 + 1, 0, none⟩ _), ?_, HI.out.stepM ⟨[77, 77], .mm⟩ (o := false) rfl rfl rfl rfl (by rw [E4.out]; rfl) E2.out⟩
        unfold KpC
        rw [((HI.out.box.set_other (by omega) 0 _).set_other (by omega) 0 _).cell, HI.out.box.cell]
      | true =>
        gi_wp2
        refine ⟨(KeepsOthers.setCell W ⟨B + 1 + 1, 0, none⟩ _).trans (KeepsOthers.setCell _ ⟨B, 0, none⟩ _), rfl, (HI.out.res.set_other (by omega) 0 _).set 0 _, bad_snoc (by rw [E4.out]; rfl), (HI.out.bel.setCell (p := ⟨B + 1 + 1, 0, none⟩) (by show B ≤ B + 1 + 1; omega) _).setCell (p := ⟨B, 0, none⟩) (Nat.le_refl _) _⟩
    | m =>
      cases o with
      | false =>
        gi_wp2
        refine ⟨(KeepsOthers.setCell W ⟨B + 1 + 1, 0, none⟩ _).trans (KeepsOthers.setCell _ ⟨B + 1 + 1 + 1 + 1, 0, none⟩ _), ?_, HI.out.stepM ⟨[77], .m⟩ (o := true) rfl rfl rfl rfl (by rw [E4.out]; rfl) E2.out⟩
        unfold KpC
        rw [((HI.out.box.set_other (by omega) 0 _).set_other (by omega) 0 _).cell, HI.out.box.cell]
      | true =>
        gi_wp2
        refine ⟨(KeepsOthers.setCell W ⟨B + 1 + 1, 0, none⟩ _).trans (KeepsOthers.setCell _ ⟨B, 0, none⟩ _), rfl, (HI.out.res.set_other (by omega) 0 _).set 0 _, bad_snoc (by rw [E4.out]; rfl), (HI.out.bel.setCell (p := ⟨B + 1 + 1, 0, none⟩) (by show B ≤ B + 1 + 1; omega) _).setCell (p := ⟨B, 0, none⟩) (Nat.le_refl _) _⟩
    | dd =>
      cases o with
      | false =>
        gi_wp2
        refine ⟨(KeepsOthers.setCell W ⟨B + 1 + 1 + 1, 0, none⟩ _).trans (KeepsOthers.setCell _ ⟨B + 1 + 1 + 1 + 1, 0, none⟩ _), ?_, HI.out.stepD ⟨[68, 68], .dd⟩ (o := false) rfl rfl rfl rfl (by rw [E4.out]; rfl) E3.out⟩
        unfold KpC
        rw [((HI.out.box.set_other (by omega) 0 _).set_other (by omega) 0 _).cell, HI.out.box.cell]
      | true =>
        gi_wp2
        refine ⟨(KeepsOthers.setCell W ⟨B + 1 + 1 + 1, 0, none⟩ _).trans (KeepsOthers.setCell _ ⟨B, 0, none⟩ _), rfl, (HI.out.res.set_other (by omega) 0 _).set 0 _, bad_snoc (by rw [E4.out]; rfl), (HI.out.bel.setCell (p := ⟨B + 1 + 1 + 1, 0, none⟩) (by show B ≤ B + 1 + 1 + 1; omega) _).setCell (p := ⟨B, 0, none⟩) (Nat.le_refl _) _⟩
    | d =>
      cases o with
      | false =>
        gi_wp2
        refine ⟨(KeepsOthers.setCell W ⟨B + 1 + 1 + 1, 0, none⟩ _).trans (KeepsOthers.setCell _ ⟨B + 1 + 1 + 1 + 1, 0, none⟩ _), ?_, HI.out.stepD ⟨[68], .d⟩ (o := true) rfl rfl rfl rfl (by rw [E4.out]; rfl) E3.out⟩
        unfold KpC
        rw [((HI.out.box.set_other (by omega) 0 _).set_other (by omega) 0 _).cell, HI.out.box.cell]
      | true =>
        gi_wp2
        refine ⟨(KeepsOthers.setCell W ⟨B + 1 + 1 + 1, 0, none⟩ _).trans (KeepsOthers.setCell _ ⟨B, 0, none⟩ _), rfl, (HI.out.res.set_other (by omega) 0 _).set 0 _, bad_snoc (by rw [E4.out]; rfl), (HI.out.bel.setCell (p := ⟨B + 1 + 1 + 1, 0, none⟩) (by show B ≤ B + 1 + 1 + 1; omega) _).setCell (p := ⟨B, 0, none⟩) (Nat.le_refl _) _⟩
    | one c h1 h2 =>
      have e1 : (c == 77) = false := by simpa using h1
      have e2 : (c == 68) = false := by simpa using h2
      have hF : Lay.isF [c] = false := by simp [Lay.isF, Lay.isY, Lay.isM, Lay.isD, h1, h2]
      have hN : ∀ o, Lay.node o [c] = Lay.plain c := fun o => by unfold Lay.node; rw [hF]; rfl
      have HN := Lib.hid hN
      have HPL := Lib.hid (fun W => isPlain_any c W)
      have HO := Lib.hid (show Lay.isO [c] = false by simp [Lay.isO, h1, h2])
      have H1 := Lib.hid (show Lay.isM [c] = false by simp [Lay.isM, h1])
      have H2 := Lib.hid (show Lay.isD [c] = false by simp [Lay.isD, h2])
      have hg0 : ∀ h', (ByteArray.mk [c].toArray)[0]'h' = c := fun _ => rfl
      clear hF hN
      rcases hpc : Lay.plain c
      · rw [hpc] at HPL HN
        clear hpc
        gi_wp2
        refine ⟨trivial, ?_⟩
        refine (CallsIn.inRound l (callsIn_wide.2 (HPL.out W))).mono ?_
        rintro e w' ⟨rfl, rfl⟩
        gi_wp2
        exact ⟨KeepsOthers.setCell W ⟨B, 0, none⟩ _, rfl, HI.out.res.set 0 _, bad_snoc (HN.out _), HI.out.bel.setCell (p := ⟨B, 0, none⟩) (Nat.le_refl _) _⟩
      · rw [hpc] at HPL HN
        clear hpc
        gi_wp2
        refine ⟨trivial, ?_⟩
        refine (CallsIn.inRound l (callsIn_wide.2 (HPL.out W))).mono ?_
        rintro e w' ⟨rfl, rfl⟩
        gi_wp2
        refine ⟨KeepsOthers.setCell W ⟨B + 1 + 1 + 1 + 1, 0, none⟩ _, ?_, HI.out.stepN ⟨[c], .one c h1 h2⟩ (by simp [Lay.isY]) H1.out H2.out HO.out (HN.out _)⟩
        unfold KpC
        rw [(HI.out.box.set_other (by omega) 0 _).cell, HI.out.box.cell]
  case done =>
    rintro D ys W hD hys hi hK
    have q1 := hi.ys.cell 0
    have q2 := hi.ms.cell 0
    have q3 := hi.ds.cell 0
    have g0 := hi.res.frozen 0
    have q0 := hi.res.cell 0
    have hg := hi.good
    rw [hys] at q1 q2 q3 hg
    obtain ⟨n1, e1⟩ : ∃ n, (Lay.parts L).countP Lay.isY = n := ⟨_, rfl⟩
    obtain ⟨n2, e2⟩ : ∃ n, (Lay.parts L).countP Lay.isM = n := ⟨_, rfl⟩
    obtain ⟨n3, e3⟩ : ∃ n, (Lay.parts L).countP Lay.isD = n := ⟨_, rfl⟩
    have hG : Lay.right L = (n1 == 1 && (n2 == 1 && n3 == 1)) := by unfold Lay.right; rw [hg, e1, e2, e3, decide_eq_true hL]; simp
    rw [e1] at q1
    rw [e2] at q2
    rw [e3] at q3
    have HG := Lib.hid hG
    have HI := Lib.hid hi
    have hK2 : ∀ v, (W.setCell ⟨B, 0, none⟩ v).heap[D]? = some (.deferred (some [])) := fun v => (KeepsOthers.setCell W ⟨B, 0, none⟩ v).same D _ hK rfl
    have HK := Lib.hid hK2
    have HE := Lib.hid (fun v => HI.out.bel.setCell (p := ⟨B, 0, none⟩) (Nat.le_refl _) v)
    have hfin : ∀ v : Bool, Blk ((W.setCell ⟨B, 0, none⟩ (.bool v)).putObj D (.deferred none)) B 4 [.bool v] ∧ Below B w ((W.setCell ⟨B, 0, none⟩ (.bool v)).putObj D (.deferred none)) := fun v => by
      have hs := hi.res.lt
      refine ⟨dblk_grown (hi.res.set 0 (.bool v)) (grownBy_putObj' _ D (.deferred none)) (fun r e => by cases e; exact ⟨_, hK2 _, rfl⟩), ?_⟩
      have hb3 := HE.out (.bool v)
      exact hb3.grown (grownBy_putObj' _ D (.deferred none)) (by simp [World.setCell]; omega) (fun k e => by cases e; omega)
    have HF := Lib.hid hfin
    clear hi hys e1 e2 e3 hG hK2 hfin hg
    rcases h1 : (n1 == 1)
    · rw [h1] at HG
      have p1 : ((n1 : Int) == 1) = false := by rw [beq_eq_false_iff_ne] at h1 ⊢; omega
      clear h1
      gi_wp2
      refine ⟨by simp, .inl ⟨_, _, rfl, run_takeDeferred (HK.out _), ?_⟩⟩
      exact ⟨_, results_cell_bool rfl _ _ B (.bool false) rfl ((HF.out false).1.cell 0) Tryd.underlying4, by rw [HG.out]; rfl, by subst hB; exact Ch.of_below (HF.out false).2⟩
    · rw [h1] at HG
      have p1 : ((n1 : Int) == 1) = true := by rw [beq_iff_eq] at h1 ⊢; omega
      clear h1
      rcases h2 : (n2 == 1)
      · rw [h2] at HG
        have p2 : ((n2 : Int) == 1) = false := by rw [beq_eq_false_iff_ne] at h2 ⊢; omega
        clear h2
        gi_wp2
        refine ⟨by simp, .inl ⟨_, _, rfl, run_takeDeferred (HK.out _), ?_⟩⟩
        exact ⟨_, results_cell_bool rfl _ _ B (.bool false) rfl ((HF.out false).1.cell 0) Tryd.underlying4, by rw [HG.out]; rfl, by subst hB; exact Ch.of_below (HF.out false).2⟩
      · rw [h2] at HG
        have p2 : ((n2 : Int) == 1) = true := by rw [beq_iff_eq] at h2 ⊢; omega
        clear h2
        rcases h3 : (n3 == 1)
        · rw [h3] at HG
          have p3 : ((n3 : Int) == 1) = false := by rw [beq_eq_false_iff_ne] at h3 ⊢; omega
          clear h3
          gi_wp2
          refine ⟨by simp, .inl ⟨_, _, rfl, run_takeDeferred (HK.out _), ?_⟩⟩
          exact ⟨_, results_cell_bool rfl _ _ B (.bool false) rfl ((HF.out false).1.cell 0) Tryd.underlying4, by rw [HG.out]; rfl, by subst hB; exact Ch.of_below (HF.out false).2⟩
        · rw [h3] at HG
          have p3 : ((n3 : Int) == 1) = true := by rw [beq_iff_eq] at h3 ⊢; omega
          clear h3
          gi_wp2
          refine ⟨by simp, .inl ⟨_, _, rfl, run_takeDeferred (HK.out _), ?_⟩⟩
          exact ⟨_, results_cell_bool rfl _ _ B (.bool true) rfl ((HF.out true).1.cell 0) Tryd.underlying4, by rw [HG.out]; rfl, by subst hB; exact Ch.of_below (HF.out true).2⟩
  case stop =>
    rintro D c pre W hD hpre ⟨rfl, ho⟩ hK
    have HG := Lib.hid (show Lay.right L = false by unfold Lay.right; rw [Lay.good_prefix hpre ho.bad]; simp)
    have HO := Lib.hid ho
    clear ho hpre
    gi_wp2
    refine ⟨by simp, .inl ⟨_, _, rfl, run_takeDeferred hK, ?_⟩⟩
    have hb2 := HO.out.grown (grownBy_putObj' W D (.deferred none)) (fun r e => by cases e; exact ⟨by omega, _, hK, rfl⟩)
    exact ⟨_, results_cell_bool rfl _ _ B (.bool false) rfl (hb2.res.cell 0) Tryd.underlying4, by rw [HG.out], by subst hB; exact Ch.of_below hb2.bel⟩
end Go.Proofs.YtehgkpbjbkeoeaaDoor
