/- Package date's leading and found. -/
import Derived.Test.YtehgkpbjbkeoeaaDoorDk
import Derived.Laws.Rows
namespace Go.Proofs.YtehgkpbjbkeoeaaDoor
open Go.RowKit Go.Shelf
attribute [local go_sem] Oper.semAt_some
namespace Lay
/-- The number of at most so many digits at the beginning, behind a number, and the rest. -/
def lead : Nat → Int → Part → Int × Part
  | 0, n, s => (n, s)
  | _ + 1, n, [] => (n, [])
  | k + 1, n, c :: t => if dig c then lead k (n * 10 + ((c.toNat : Int) - 48)) t else (n, c :: t)
def bnd (j : Nat) : Int := if 4 ≤ j then 0 else if j = 3 then 9 else if j = 2 then 99 else if j = 1 then 999 else 9999
theorem dig_iff {c : UInt8} : dig c = true ↔ 48 ≤ c.toNat ∧ c.toNat ≤ 57 := by simp [dig]
theorem lead_bd (k : Nat) (hk : k ≤ 4) (n : Int) (s : Part) (h0 : 0 ≤ n) (h1 : n ≤ bnd k) : 0 ≤ (lead k n s).1 ∧ (lead k n s).1 ≤ 9999 := by
  induction k generalizing n s with
  | zero => exact ⟨h0, h1⟩
  | succ k ih =>
    have hb : n ≤ 9999 := by unfold bnd at h1; omega
    cases s with
    | nil => exact ⟨h0, hb⟩
    | cons c t =>
      rw [lead]
      split
      · rename_i hc
        have := dig_iff.1 hc
        exact ih (by omega) _ _ (by omega) (by unfold bnd at h1 ⊢; omega)
      · exact ⟨h0, hb⟩
theorem lead_len (k : Nat) (n : Int) (s : Part) : (lead k n s).2.length ≤ s.length := by
  induction k generalizing n s with
  | zero => exact Nat.le_refl _
  | succ k ih =>
    cases s with
    | nil => exact Nat.le_refl _
    | cons c t =>
      rw [lead]
      split
      · have := ih (n * 10 + ((c.toNat : Int) - 48)) t
        rw [List.length_cons]; omega
      · exact Nat.le_refl _
/-- What has been found: year, month, day, and the text that is left. -/
structure Fs where
  y : Int
  m : Int
  d : Int
  s : Part
def fstep (a : Fs) (p : Part) : Fs :=
  if isY p then ⟨(lead 4 0 a.s).1, a.m, a.d, (lead 4 0 a.s).2⟩
  else if isM p then ⟨a.y, (lead 2 0 a.s).1, a.d, (lead 2 0 a.s).2⟩
  else if isD p then ⟨a.y, a.m, (lead 2 0 a.s).1, (lead 2 0 a.s).2⟩
  else ⟨a.y, a.m, a.d, a.s.drop 1⟩
def fnd (ps : List Part) (s : Part) : Fs := ps.foldl fstep ⟨0, 0, 0, s⟩
theorem fnd_snoc (ps : List Part) (p s : Part) : fnd (ps ++ [p]) s = fstep (fnd ps s) p := by simp [fnd]
structure Fok (n : Nat) (a : Fs) : Prop where
  y0 : 0 ≤ a.y
  y1 : a.y ≤ 9999
  m0 : 0 ≤ a.m
  m1 : a.m ≤ 9999
  d0 : 0 ≤ a.d
  d1 : a.d ≤ 9999
  s : a.s.length ≤ n
theorem Fok.step {n : Nat} {a : Fs} (h : Fok n a) (p : Part) : Fok n (fstep a p) := by
  have l4 := lead_bd 4 (by omega) 0 a.s (by omega) (by decide)
  have l2 := lead_bd 2 (by omega) 0 a.s (by omega) (by decide)
  have s4 := lead_len 4 0 a.s
  have s2 := lead_len 2 0 a.s
  have hs := h.s
  unfold fstep
  split
  · exact ⟨l4.1, l4.2, h.m0, h.m1, h.d0, h.d1, by show (lead 4 0 a.s).2.length ≤ n; omega⟩
  · split
    · exact ⟨h.y0, h.y1, l2.1, l2.2, h.d0, h.d1, by show (lead 2 0 a.s).2.length ≤ n; omega⟩
    · split
      · exact ⟨h.y0, h.y1, h.m0, h.m1, l2.1, l2.2, by show (lead 2 0 a.s).2.length ≤ n; omega⟩
      · exact ⟨h.y0, h.y1, h.m0, h.m1, h.d0, h.d1, by show (a.s.drop 1).length ≤ n; rw [List.length_drop]; omega⟩
theorem fnd_ok (ps : List Part) (s : Part) : Fok s.length (fnd ps s) := by
  unfold fnd
  have h : Fok s.length ⟨0, 0, 0, s⟩ := ⟨Int.le_refl 0, (by decide : (0 : Int) ≤ 9999), Int.le_refl 0, (by decide : (0 : Int) ≤ 9999), Int.le_refl 0, (by decide : (0 : Int) ≤ 9999), Nat.le_refl _⟩
  generalize (⟨0, 0, 0, s⟩ : Fs) = a at h
  induction ps generalizing a with
  | nil => exact h
  | cons p ps ih => exact ih _ (h.step p)
end Lay
theorem ret_4 {a b : Int} {s t : List UInt8} (h1 : a = b) (h2 : s = t) : Ending.returned (.tuple #[iz a, S s]) = .returned (.tuple #[iz b, S t]) := by rw [h1, h2]
set_option maxRecDepth 100000 in
set_option maxHeartbeats 2000000 in
theorem leading_any (s0 : List UInt8) (k0 : Nat) (hk : k0 ≤ 4) (K : Int) (hK : K = (k0 : Int)) (hs : s0.length ≤ 9223372036854775807) (w : World) :
    Calls Tryd.prog 46 #[S s0, iz K] w fun e w' => e = .returned (.tuple #[iz (Lay.lead k0 0 s0).1, S (Lay.lead k0 0 s0).2]) ∧ w = w' := by
  subst hK
  go_enter Tryd.func46, Tryd.ntmps46
  go_wp2_with fail
  go_loop [0, 1, 4] (fun a b c => ∃ (j : Nat) (n : Int) (t : List UInt8), j ≤ 4 ∧ a = S t ∧ b = .int .i64 (j : Int) ∧ c = iz n ∧ 0 ≤ n ∧ n ≤ Lay.bnd j ∧ t.length ≤ s0.length ∧ Lay.lead j n t = Lay.lead k0 0 s0) (fun _ b _ => (intOf b).toNat)
  case atStart => exact ⟨k0, 0, s0, hk, rfl, rfl, rfl, by omega, by unfold Lay.bnd; omega, Nat.le_refl _, rfl⟩
  case round =>
    obtain ⟨j, n, t, hj, rfl, rfl, rfl, hn0, hn1, htl, hle⟩ := hrel
    have hn9 : n ≤ 9999 := by unfold Lay.bnd at hn1; omega
    have HN := Lib.hid hn1
    have HL := Lib.hid hle
    clear hn1 hle
    rcases j with _ | j
    · have HF := Lib.hid (show Lay.lead k0 0 s0 = (n, t) from HL.out.symm)
      go_wp2_with fail
      go_ret2
      exact ⟨by rw [HF.out]; rfl, rfl⟩
    · have hj0 : 0 < ((j + 1 : Nat) : Int) := by omega
      rcases t with _ | ⟨c, t⟩
      · have HF := Lib.hid (show Lay.lead k0 0 s0 = (n, []) from HL.out.symm)
        go_wp2_with fail
        go_ret2
        exact ⟨by rw [HF.out]; rfl, rfl⟩
      · have HD := Lib.hid (isDigit_any c w)
        have hg0 : ∀ h', (ByteArray.mk (c :: t).toArray)[0]'h' = c := fun _ => rfl
        rcases hc : Lay.dig c
        · rw [hc] at HD
          have HF := Lib.hid (show Lay.lead k0 0 s0 = (n, c :: t) by rw [← HL.out, Lay.lead, hc]; rfl)
          clear hc
          go_wp2_with (go_at_call 51; with_reducible refine HD.out.mono ?_; rintro e w' ⟨rfl, rfl⟩)
          go_ret2
          exact ⟨by rw [HF.out]; rfl, rfl⟩
        · rw [hc] at HD
          obtain ⟨c1, c2⟩ := Lay.dig_iff.1 hc
          have HF := Lib.hid (show Lay.lead j (n * 10 + ((c.toNat : Int) - 48)) t = Lay.lead k0 0 s0 by rw [← HL.out, Lay.lead, hc]; rfl)
          clear hc
          have E1 := Lib.hid (show (ByteArray.mk (c :: t).toArray).extract 1 (t.length + 1) = ⟨t.toArray⟩ from dext_drop (c :: t) 1)
          go_wp2_with (go_at_call 51; with_reducible refine HD.out.mono ?_; rintro e w' ⟨rfl, rfl⟩)
          go_round
          case rel => exact ⟨j, n * 10 + ((c.toNat : Int) - 48), t, by omega, congrArg Value.string E1.out, by go_num, by go_num, by omega, by have := HN.out; unfold Lay.bnd at this ⊢; omega, by simp at htl; omega, HF.out⟩
          case measure => simp [intOf]
/-- What found's loop holds. -/
structure FInv (w : World) (B : Nat) (L s : List UInt8) (pre : List Pt) (W : World) : Prop where
  box : Blk W B 9 [S (Lay.fnd (raw pre) s).s]
  res : Blk W (B + 1) 53 [iz 0, iz 0, iz 0]
  dat : Blk W (B + 1 + 1) 53 [iz (Lay.fnd (raw pre) s).y, iz (Lay.fnd (raw pre) s).m, iz (Lay.fnd (raw pre) s).d]
  lay : Blk W (B + 1 + 1 + 1) 9 [S L]
  bel : Below B w W
theorem FInv.grown {w W W' : World} {B : Nat} {L s : List UInt8} {pre : List Pt} {row : Option Nat} (h : FInv w B L s pre W) (hg : W.grownBy W' row) (hr : ∀ r, row = some r → B + 1 + 1 + 1 + 1 ≤ r ∧ ∃ o : Obj, W.heap[r]? = some o ∧ o.isCells = false) : FInv w B L s pre W' :=
  have k := fun r e => (hr r e).2
  ⟨dblk_grown h.box hg k, dblk_grown h.res hg k, dblk_grown h.dat hg k, dblk_grown h.lay hg k, h.bel.grown hg (by have := h.res.lt; omega) (fun r e => by have := (hr r e).1; omega)⟩
theorem FInv.step {w W : World} {B : Nat} {L s : List UInt8} {pre : List Pt} (h : FInv w B L s pre W) (x : Pt) {a : Lay.Fs} {t : List UInt8} (ha : Lay.fstep (Lay.fnd (raw pre) s) x.1 = a) (ht : a.s = t) (hy : a.y = (Lay.fnd (raw pre) s).y) (hm : a.m = (Lay.fnd (raw pre) s).m) (hd : a.d = (Lay.fnd (raw pre) s).d) :
    FInv w B L s (pre ++ [x]) (W.setCell ⟨B, 0, none⟩ (S t)) where
  box := (h.box.set 0 _).cast (by rw [raw_snoc, Lay.fnd_snoc, ha, ht]; rfl)
  res := h.res.set_other (by omega) 0 _
  dat := (h.dat.set_other (by omega) 0 _).cast (by rw [raw_snoc, Lay.fnd_snoc, ha, hy, hm, hd])
  lay := h.lay.set_other (by omega) 0 _
  bel := h.bel.setCell (p := ⟨B, 0, none⟩) (Nat.le_refl _) _
theorem FInv.stepF {w W : World} {B : Nat} {L s : List UInt8} {pre : List Pt} (h : FInv w B L s pre W) (x : Pt) {a : Lay.Fs} {t : List UInt8} {v : Int} (j : Nat) (ha : Lay.fstep (Lay.fnd (raw pre) s) x.1 = a) (ht : a.s = t)
    (hv : [iz (Lay.fnd (raw pre) s).y, iz (Lay.fnd (raw pre) s).m, iz (Lay.fnd (raw pre) s).d].set j (iz v) = [iz a.y, iz a.m, iz a.d]) :
    FInv w B L s (pre ++ [x]) ((W.setCell ⟨B + 1 + 1, j, none⟩ (iz v)).setCell ⟨B, 0, none⟩ (S t)) where
  box := ((h.box.set_other (by omega) j _).set 0 _).cast (by rw [raw_snoc, Lay.fnd_snoc, ha, ht]; rfl)
  res := (h.res.set_other (by omega) j _).set_other (by omega) 0 _
  dat := ((h.dat.set j _).set_other (by omega) 0 _).cast (by rw [raw_snoc, Lay.fnd_snoc, ha, hv])
  lay := (h.lay.set_other (by omega) j _).set_other (by omega) 0 _
  bel := (h.bel.setCell (p := ⟨B + 1 + 1, j, none⟩) (by show B ≤ B + 1 + 1; omega) _).setCell (p := ⟨B, 0, none⟩) (Nat.le_refl _) _
theorem FInv.start (w : World) (L s : List UInt8) {B : Nat} (hB : w.heap.size = B) : FInv w B L s [] ((((w.alloc (.cells #[S s] 9)).alloc (.cells #[iz 0, iz 0, iz 0] 53)).alloc (.cells #[iz 0, iz 0, iz 0] 53)).alloc (.cells #[S L] 9)) ∧ ((((w.alloc (.cells #[S s] 9)).alloc (.cells #[iz 0, iz 0, iz 0] 53)).alloc (.cells #[iz 0, iz 0, iz 0] 53)).alloc (.cells #[S L] 9)).heap.size = B + 1 + 1 + 1 + 1 := by
  subst hB
  have b0 := (((Blk.new w #[S s] 9).alloc (.cells #[iz 0, iz 0, iz 0] 53 (0, 0))).alloc (.cells #[iz 0, iz 0, iz 0] 53 (0, 0))).alloc (.cells #[S L] 9 (0, 0))
  have b1 := ((Blk.new (w.alloc (.cells #[S s] 9)) #[iz 0, iz 0, iz 0] 53).alloc (.cells #[iz 0, iz 0, iz 0] 53 (0, 0))).alloc (.cells #[S L] 9 (0, 0))
  have b2 := (Blk.new ((w.alloc (.cells #[S s] 9)).alloc (.cells #[iz 0, iz 0, iz 0] 53)) #[iz 0, iz 0, iz 0] 53).alloc (.cells #[S L] 9 (0, 0))
  have b3 := Blk.new (((w.alloc (.cells #[S s] 9)).alloc (.cells #[iz 0, iz 0, iz 0] 53)).alloc (.cells #[iz 0, iz 0, iz 0] 53)) #[S L] 9
  simp only [World.size_alloc] at b0 b1 b2 b3
  refine ⟨⟨b0, b1, b2, b3, ?_⟩, by simp⟩
  exact ((((Below.refl _ w).alloc (Nat.le_refl _) _).alloc (by simp) _).alloc (by simp; omega) _).alloc (by simp; omega) _
set_option maxRecDepth 100000 in
set_option maxHeartbeats 4000000 in
theorem found_any (L s : List UInt8) (hL : L.length ≤ 1000) (hs : s.length ≤ 9223372036854775807) (w : World) :
    Calls Tryd.prog 31 #[S L, S s] w (Yd w (.agg #[iz (Lay.fnd (Lay.parts L) s).y, iz (Lay.fnd (Lay.parts L) s).m, iz (Lay.fnd (Lay.parts L) s).d])) := by
  refine (callsIn_wide (n := 6)).1 ?_
  refine callsIn_of_wp_marks Tryd.func31 rfl trivial ?_ rfl
  simp only [Tryd.ntmps31, List.size_toArray, List.length_cons, List.length_nil, Nat.reduceAdd, Nat.reduceSub, Array.replicate_succ, Array.replicate_zero, List.push_toArray, List.append_toArray, List.nil_append, List.cons_append]
  gi_wp2
  refine ⟨trivial, ?_⟩
  refine (callsIn_wide.2 (parts_any L _)).mono ?_
  rintro e w' ⟨rfl, rfl⟩
  gi_wp2
  obtain ⟨B, hB⟩ : ∃ B, w.heap.size = B := ⟨_, rfl⟩
  obtain ⟨hst, hsz⟩ := FInv.start w L s hB
  rw [hB]
  obtain ⟨W0, hW0⟩ : ∃ W0, ((((w.alloc (.cells #[S s] 9)).alloc (.cells #[iz 0, iz 0, iz 0] 53)).alloc (.cells #[iz 0, iz 0, iz 0] 53)).alloc (.cells #[S L] 9)) = W0 := ⟨_, rfl⟩
  rw [hW0] at hst hsz ⊢
  clear hW0
  refine wpIn_rangeFunc_ownF (F := Fence.wide) rfl (by omega) (gf := 49) (lb := #[.pointer (some ⟨B + 1 + 1 + 1, 0, none⟩)]) rfl trivial (enters_of Tryd.func49 (by kernel_rfl) rfl)
    (encs := fun x : Pt => #[S x.1]) (Kp := KpC (B + 1 + 1 + 1)) (S := fun ys => raw ys = Lay.parts L) (Sp := fun pre => raw pre <+: Lay.parts L) (N := (Lay.parts L).length) (w0 := W0)
    (fun l J Jx W hW _ _ hY h0 => parts_in Fence.wide _ trivial trivial rfl (by omega) l _ L J Jx (by omega) (fun s W => callsIn_wide.2 (firstWidth_any s W)) hY W (by rw [hW.cell (p := ⟨B + 1 + 1 + 1, 0, none⟩) (by show B + 1 + 1 + 1 < W0.heap.size; omega), hst.lay.cell]; rfl) h0)
    (fun h1 h2 => h2.trans h1)
    (fun W l o o' hl ho hc _ => ?kb) (Below.refl _ _) (fun _ => rfl)
    (FInv w B L s)
    (fun _ _ _ => False) ?hI (fun _ _ _ _ _ hs _ _ => hs) hst
    (fun x => { tmps := #[S L, S s, undef, .pointer (some ⟨B, 0, none⟩), .pointer (some ⟨B + 1, 0, none⟩), .pointer (some ⟨B + 1 + 1, 0, none⟩), S x.1, S L, .func (.func 49) #[] #[.pointer (some ⟨B + 1 + 1 + 1, 0, none⟩)], S x.1, undef, undef, undef, undef, undef, undef, undef, undef, undef, undef, undef, undef, undef, undef, undef, undef, undef, undef, undef, undef, undef, undef, undef, undef, undef, undef, undef, undef, undef, undef, undef, undef, undef], defers := [] }) ?assign ?body ?done ?stop
  case kb =>
    exact World.cell?_of_block (w := W) (a := ⟨B + 1 + 1 + 1, 0, none⟩) ((grownBy_putObj' W l o').block (B + 1 + 1 + 1) (by have := (Array.getElem?_eq_some_iff.1 ho).1; omega) (by simp; omega))
  case hI =>
    rintro pre W W' row h hg hrow
    exact h.grown hg (fun r e => by have := hrow r e; rw [hsz] at this; exact this)
  case assign =>
    intro l x W K hK
    gi_wp2
    exact hK
  case body =>
    rintro l pre x W hi hlen
    have ok := Lay.fnd_ok (raw pre) s
    have q0 := hi.box.cell 0
    have g0 := hi.box.frozen 0
    have q1 := hi.dat.cell 0
    have q2 := hi.dat.cell 1
    have q3 := hi.dat.cell 2
    have g1 := hi.dat.frozen 0
    have g2 := hi.dat.frozen 1
    have g3 := hi.dat.frozen 2
    have HI := Lib.hid hi
    obtain ⟨a, ha⟩ : ∃ a, Lay.fnd (raw pre) s = a := ⟨_, rfl⟩
    rw [ha] at q0 q1 q2 q3 ok
    have HA := Lib.hid ha
    obtain ⟨y, m, d, t⟩ := a
    have htl : t.length ≤ 9223372036854775807 := by have := ok.s; simp only at this; omega
    clear ha hi ok hlen
    simp only at q0 q1 q2 q3
    obtain ⟨p, hp⟩ := x
    cases hp with
    | y =>
      have hl := leading_any t 4 (by omega) 4 rfl htl W
      have hf : Lay.fstep ⟨y, m, d, t⟩ [89, 89, 89, 89] = ⟨(Lay.lead 4 0 t).1, m, d, (Lay.lead 4 0 t).2⟩ := rfl
      obtain ⟨⟨n, r⟩, hnr⟩ : ∃ q, Lay.lead 4 0 t = q := ⟨_, rfl⟩
      rw [hnr] at hl hf
      have HL := Lib.hid hl
      have HF := Lib.hid hf
      clear hl hf hnr
      gi_wp2
      refine ⟨trivial, ?_⟩
      refine (CallsIn.inRound l (callsIn_wide.2 HL.out)).mono ?_
      rintro e w' ⟨rfl, rfl⟩
      gi_wp2
      refine ⟨(KeepsOthers.setCell W ⟨B + 1 + 1, 0, none⟩ _).trans (KeepsOthers.setCell _ ⟨B, 0, none⟩ _), ?_, HI.out.stepF (a := ⟨n, m, d, r⟩) ⟨[89, 89, 89, 89], .y⟩ 0 (by rw [HA.out]; exact HF.out) rfl (by rw [HA.out]; rfl)⟩
      unfold KpC
      rw [((HI.out.lay.set_other (by omega) 0 _).set_other (by omega) 0 _).cell, HI.out.lay.cell]
    | mm =>
      have hl := leading_any t 2 (by omega) 2 rfl htl W
      have hf : Lay.fstep ⟨y, m, d, t⟩ [77, 77] = ⟨y, (Lay.lead 2 0 t).1, d, (Lay.lead 2 0 t).2⟩ := rfl
      obtain ⟨⟨n, r⟩, hnr⟩ : ∃ q, Lay.lead 2 0 t = q := ⟨_, rfl⟩
      rw [hnr] at hl hf
      have HL := Lib.hid hl
      have HF := Lib.hid hf
      clear hl hf hnr
      gi_wp2
      refine ⟨trivial, ?_⟩
      refine (CallsIn.inRound l (callsIn_wide.2 HL.out)).mono ?_
      rintro e w' ⟨rfl, rfl⟩
      gi_wp2
      refine ⟨(KeepsOthers.setCell W ⟨B + 1 + 1, 1, none⟩ _).trans (KeepsOthers.setCell _ ⟨B, 0, none⟩ _), ?_, HI.out.stepF (a := ⟨y, n, d, r⟩) ⟨[77, 77], .mm⟩ 1 (by rw [HA.out]; exact HF.out) rfl (by rw [HA.out]; rfl)⟩
      unfold KpC
      rw [((HI.out.lay.set_other (by omega) 1 _).set_other (by omega) 0 _).cell, HI.out.lay.cell]
    | m =>
      have hl := leading_any t 2 (by omega) 2 rfl htl W
      have hf : Lay.fstep ⟨y, m, d, t⟩ [77] = ⟨y, (Lay.lead 2 0 t).1, d, (Lay.lead 2 0 t).2⟩ := rfl
      obtain ⟨⟨n, r⟩, hnr⟩ : ∃ q, Lay.lead 2 0 t = q := ⟨_, rfl⟩
      rw [hnr] at hl hf
      have HL := Lib.hid hl
      have HF := Lib.hid hf
      clear hl hf hnr
      gi_wp2
      refine ⟨trivial, ?_⟩
      refine (CallsIn.inRound l (callsIn_wide.2 HL.out)).mono ?_
      rintro e w' ⟨rfl, rfl⟩
      gi_wp2
      refine ⟨(KeepsOthers.setCell W ⟨B + 1 + 1, 1, none⟩ _).trans (KeepsOthers.setCell _ ⟨B, 0, none⟩ _), ?_, HI.out.stepF (a := ⟨y, n, d, r⟩) ⟨[77], .m⟩ 1 (by rw [HA.out]; exact HF.out) rfl (by rw [HA.out]; rfl)⟩
      unfold KpC
      rw [((HI.out.lay.set_other (by omega) 1 _).set_other (by omega) 0 _).cell, HI.out.lay.cell]
    | dd =>
      have hl := leading_any t 2 (by omega) 2 rfl htl W
      have hf : Lay.fstep ⟨y, m, d, t⟩ [68, 68] = ⟨y, m, (Lay.lead 2 0 t).1, (Lay.lead 2 0 t).2⟩ := rfl
      obtain ⟨⟨n, r⟩, hnr⟩ : ∃ q, Lay.lead 2 0 t = q := ⟨_, rfl⟩
      rw [hnr] at hl hf
      have HL := Lib.hid hl
      have HF := Lib.hid hf
      clear hl hf hnr
      gi_wp2
      refine ⟨trivial, ?_⟩
      refine (CallsIn.inRound l (callsIn_wide.2 HL.out)).mono ?_
      rintro e w' ⟨rfl, rfl⟩
      gi_wp2
      refine ⟨(KeepsOthers.setCell W ⟨B + 1 + 1, 2, none⟩ _).trans (KeepsOthers.setCell _ ⟨B, 0, none⟩ _), ?_, HI.out.stepF (a := ⟨y, m, n, r⟩) ⟨[68, 68], .dd⟩ 2 (by rw [HA.out]; exact HF.out) rfl (by rw [HA.out]; rfl)⟩
      unfold KpC
      rw [((HI.out.lay.set_other (by omega) 2 _).set_other (by omega) 0 _).cell, HI.out.lay.cell]
    | d =>
      have hl := leading_any t 2 (by omega) 2 rfl htl W
      have hf : Lay.fstep ⟨y, m, d, t⟩ [68] = ⟨y, m, (Lay.lead 2 0 t).1, (Lay.lead 2 0 t).2⟩ := rfl
      obtain ⟨⟨n, r⟩, hnr⟩ : ∃ q, Lay.lead 2 0 t = q := ⟨_, rfl⟩
      rw [hnr] at hl hf
      have HL := Lib.hid hl
      have HF := Lib.hid hf
      clear hl hf hnr
      gi_wp2
      refine ⟨trivial, ?_⟩
      refine (CallsIn.inRound l (callsIn_wide.2 HL.out)).mono ?_
      rintro e w' ⟨rfl, rfl⟩
      gi_wp2
      refine ⟨(KeepsOthers.setCell W ⟨B + 1 + 1, 2, none⟩ _).trans (KeepsOthers.setCell _ ⟨B, 0, none⟩ _), ?_, HI.out.stepF (a := ⟨y, m, n, r⟩) ⟨[68], .d⟩ 2 (by rw [HA.out]; exact HF.out) rfl (by rw [HA.out]; rfl)⟩
      unfold KpC
      rw [((HI.out.lay.set_other (by omega) 2 _).set_other (by omega) 0 _).cell, HI.out.lay.cell]
    | one c h1 h2 =>
      have e1 : (c == 77) = false := by simpa using h1
      have e2 : (c == 68) = false := by simpa using h2
      have hf : Lay.fstep ⟨y, m, d, t⟩ [c] = ⟨y, m, d, t.drop 1⟩ := by simp [Lay.fstep, Lay.isY, Lay.isM, Lay.isD, h1, h2]
      have HF := Lib.hid hf
      clear hf
      rcases t with _ | ⟨b, t⟩
      · have em : (ByteArray.mk #[]).extract (min (1 : Int) 0).toNat 0 = ⟨([] : List UInt8).toArray⟩ := dext_drop [] 0
        have EM := Lib.hid em
        clear em
        gi_wp2
        rw [EM.out]
        refine ⟨KeepsOthers.setCell W ⟨B, 0, none⟩ _, ?_, HI.out.step (a := ⟨y, m, d, []⟩) ⟨[c], .one c h1 h2⟩ (by rw [HA.out]; exact HF.out) rfl (by rw [HA.out]) (by rw [HA.out]) (by rw [HA.out])⟩
        unfold KpC
        rw [(HI.out.lay.set_other (by omega) 0 _).cell, HI.out.lay.cell]
      · have em : (ByteArray.mk (b :: t).toArray).extract (min (1 : Int) ((t.length : Int) + 1)).toNat (t.length + 1) = ⟨t.toArray⟩ := by
          rw [show (min (1 : Int) ((t.length : Int) + 1)).toNat = 1 from by omega]
          exact dext_drop (b :: t) 1
        have EM := Lib.hid em
        clear em
        gi_wp2
        rw [EM.out]
        refine ⟨KeepsOthers.setCell W ⟨B, 0, none⟩ _, ?_, HI.out.step (a := ⟨y, m, d, t⟩) ⟨[c], .one c h1 h2⟩ (by rw [HA.out]; exact HF.out) rfl (by rw [HA.out]) (by rw [HA.out]) (by rw [HA.out])⟩
        unfold KpC
        rw [(HI.out.lay.set_other (by omega) 0 _).cell, HI.out.lay.cell]
  case done =>
    rintro D ys W hD hys hi hK
    have q1 := hi.dat.cell 0
    have q2 := hi.dat.cell 1
    have q3 := hi.dat.cell 2
    have g1 := hi.res.frozen 0
    have g2 := hi.res.frozen 1
    have g3 := hi.res.frozen 2
    have p1 := hi.res.cell 0
    have p2 := hi.res.cell 1
    have p3 := hi.res.cell 2
    rw [hys] at q1 q2 q3
    have HI := Lib.hid hi
    have HK := Lib.hid hK
    obtain ⟨a, ha⟩ : ∃ a, Lay.fnd (Lay.parts L) s = a := ⟨_, rfl⟩
    rw [ha] at q1 q2 q3
    have HA := Lib.hid ha
    obtain ⟨y, m, d, t⟩ := a
    clear hi hys ha
    simp only at q1 q2 q3
    gi_wp2
    have hk3 := ((((KeepsOthers.setCell W ⟨B + 1, 0, none⟩ (iz y)).trans (KeepsOthers.setCell _ ⟨B + 1, 1, none⟩ (iz m))).trans (KeepsOthers.setCell _ ⟨B + 1, 2, none⟩ (iz d)))).same D _ HK.out rfl
    have hb3 := ((HI.out.res.set 0 (iz y)).set 1 (iz m)).set 2 (iz d)
    have hl3 := ((HI.out.bel.setCell (p := ⟨B + 1, 0, none⟩) (Nat.le_succ _) (iz y)).setCell (p := ⟨B + 1, 1, none⟩) (Nat.le_succ _) (iz m)).setCell (p := ⟨B + 1, 2, none⟩) (Nat.le_succ _) (iz d)
    have hlt := HI.out.res.lt
    generalize ((W.setCell ⟨B + 1, 0, none⟩ (iz y)).setCell ⟨B + 1, 1, none⟩ (iz m)).setCell ⟨B + 1, 2, none⟩ (iz d) = W3 at hk3 hb3 hl3 ⊢
    have hrow := dblk_grown hb3 (grownBy_putObj' W3 D (.deferred none)) (fun r e => by cases e; exact ⟨_, hk3, rfl⟩)
    have hbel := hl3.grown (grownBy_putObj' W3 D (.deferred none)) (by have := hb3.lt; omega) (fun k e => by cases e; omega)
    refine ⟨by simp, .inl ⟨_, _, rfl, run_takeDeferred hk3, ?_⟩⟩
    exact ⟨_, results_cell_row (P := Tryd.prog) rfl _ _ (B + 1) 53 #[iz y, iz m, iz d] (0, 0) _ rfl hrow Tryd.underlying53 rfl (by kernel_rfl), by rw [HA.out], by subst hB; exact Ch.of_below hbel⟩
  case stop =>
    rintro D c pre W hD hpre h hK
    exact h.elim
end Go.Proofs.YtehgkpbjbkeoeaaDoor
