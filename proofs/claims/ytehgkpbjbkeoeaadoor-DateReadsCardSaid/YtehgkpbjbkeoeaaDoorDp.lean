/- Layouts: Read undoes Format; the reference's way of judging layouts: plain mathematics. -/
import Derived.Test.YtehgkpbjbkeoeaaDoorDm
namespace Go.Proofs.YtehgkpbjbkeoeaaDoor
namespace Lay
/-- The byte of a digit. -/
def dg (a : Nat) : UInt8 := UInt8.ofNat (48 + a)
theorem pad4 : ∀ a < 10, ∀ b < 10, ∀ c < 10, ∀ d < 10, pad 4 ((1000 * a + 100 * b + 10 * c + d : Nat) : Int) = [dg a, dg b, dg c, dg d] := by decide +kernel
theorem pad2 : ∀ a < 10, ∀ b < 10, pad 2 ((10 * a + b : Nat) : Int) = [dg a, dg b] := by decide +kernel
theorem pad1 : ∀ a < 10, ∀ b < 10, pad 1 ((10 * a + b : Nat) : Int) = if a = 0 then [dg b] else [dg a, dg b] := by decide +kernel
theorem dg_dig : ∀ a < 10, dig (dg a) = true ∧ (dg a).toNat = 48 + a := by decide +kernel
theorem lead0 (n : Int) (s : Part) : lead 0 n s = (n, s) := by cases s <;> rfl
theorem lead_dg {a : Nat} (ha : a < 10) (k : Nat) (n : Int) (t : Part) : lead (k + 1) n (dg a :: t) = lead k (n * 10 + (a : Int)) t := by
  obtain ⟨h1, h2⟩ := dg_dig a ha
  rw [lead, if_pos h1, h2]
  congr 1
  omega
theorem lead_stop {c : UInt8} (hc : dig c = false) (k : Nat) (n : Int) (t : Part) : lead k n (c :: t) = (n, c :: t) := by
  cases k with
  | zero => rfl
  | succ k => rw [lead, hc]; rfl
theorem lead_nil (k : Nat) (n : Int) : lead k n [] = (n, []) := by cases k <;> rfl
theorem split4 {y : Int} (h0 : 0 ≤ y) (h1 : y ≤ 9999) : ∃ a b c d : Nat, a < 10 ∧ b < 10 ∧ c < 10 ∧ d < 10 ∧ y = ((1000 * a + 100 * b + 10 * c + d : Nat) : Int) :=
  ⟨y.toNat / 1000, y.toNat / 100 % 10, y.toNat / 10 % 10, y.toNat % 10, by omega, by omega, by omega, by omega, by omega⟩
theorem split2 {y : Int} (h0 : 0 ≤ y) (h1 : y ≤ 99) : ∃ a b : Nat, a < 10 ∧ b < 10 ∧ y = ((10 * a + b : Nat) : Int) :=
  ⟨y.toNat / 10, y.toNat % 10, by omega, by omega, by omega⟩
theorem lead_pad4 {y : Int} (h0 : 0 ≤ y) (h1 : y ≤ 9999) (t : Part) : lead 4 0 (pad 4 y ++ t) = (y, t) := by
  obtain ⟨a, b, c, d, ha, hb, hc, hd, rfl⟩ := split4 h0 h1
  rw [pad4 a ha b hb c hc d hd]
  simp only [List.cons_append, List.nil_append]
  rw [lead_dg ha, lead_dg hb, lead_dg hc, lead_dg hd, lead0]
  congr 1
  omega
theorem lead_pad2 {y : Int} (h0 : 0 ≤ y) (h1 : y ≤ 99) (t : Part) : lead 2 0 (pad 2 y ++ t) = (y, t) := by
  obtain ⟨a, b, ha, hb, rfl⟩ := split2 h0 h1
  rw [pad2 a ha b hb]
  simp only [List.cons_append, List.nil_append]
  rw [lead_dg ha, lead_dg hb, lead0]
  congr 1
  omega
/-- A text that does not begin with a digit. -/
def cut (t : Part) : Prop := ∀ c r, t = c :: r → dig c = false
theorem lead_cut {t : Part} (h : cut t) (k : Nat) (n : Int) : lead k n t = (n, t) := by
  cases t with
  | nil => exact lead_nil k n
  | cons c r => exact lead_stop (h c r rfl) k n r
theorem lead_pad1 {y : Int} (h0 : 0 ≤ y) (h1 : y ≤ 99) {t : Part} (ht : cut t) : lead 2 0 (pad 1 y ++ t) = (y, t) := by
  obtain ⟨a, b, ha, hb, rfl⟩ := split2 h0 h1
  rw [pad1 a ha b hb]
  split
  · rename_i h
    subst h
    simp only [List.cons_append, List.nil_append]
    rw [lead_dg hb, lead_cut ht]
    congr 1
  · simp only [List.cons_append, List.nil_append]
    rw [lead_dg ha, lead_dg hb, lead0]
    congr 1
    omega
theorem plain_iff {c : UInt8} : plain c = true ↔ 32 ≤ c.toNat ∧ c.toNat ≤ 126 ∧ dig c = false ∧ c ≠ 89 := by
  unfold plain dig
  simp only [Bool.and_eq_true, decide_eq_true_eq, Bool.not_eq_true', beq_eq_false_iff_ne]
  constructor
  · rintro ⟨⟨⟨a, b⟩, c⟩, d⟩; exact ⟨a, b, c, d⟩
  · rintro ⟨a, b, c, d⟩; exact ⟨⟨⟨a, b⟩, c⟩, d⟩
theorem cut_good {ps : List Part} (hok : ∀ p ∈ ps, Ok p) (hg : good true ps = true) (y m d : Int) : cut (ps.flatMap (wr y m d)) := by
  cases ps with
  | nil => intro c r h; simp at h
  | cons p ps =>
    rw [good, Bool.and_eq_true] at hg
    have hp := hok p (List.mem_cons_self ..)
    have hn := hg.1
    intro c r h
    rw [List.flatMap_cons] at h
    cases hp with
    | y => exact absurd hn (by decide)
    | mm => exact absurd hn (by decide)
    | m => exact absurd hn (by decide)
    | dd => exact absurd hn (by decide)
    | d => exact absurd hn (by decide)
    | one b h1 h2 =>
      have hw : wr y m d [b] = [b] := by simp [wr, h1, h2]
      rw [hw] at h
      simp only [List.cons_append, List.nil_append, List.cons.injEq] at h
      have hF : isF [b] = false := by simp [isF, isY, isM, isD, h1, h2]
      unfold node at hn
      rw [hF] at hn
      rw [← h.1]
      exact (plain_iff.1 hn).2.2.1
theorem wr_y (y m d : Int) : wr y m d [89, 89, 89, 89] = pad 4 y := rfl
theorem wr_mm (y m d : Int) : wr y m d [77, 77] = pad 2 m := rfl
theorem wr_m (y m d : Int) : wr y m d [77] = pad 1 m := rfl
theorem wr_dd (y m d : Int) : wr y m d [68, 68] = pad 2 d := rfl
theorem wr_d (y m d : Int) : wr y m d [68] = pad 1 d := rfl
theorem wr_one (y m d : Int) {c : UInt8} (h1 : ¬ c = 77) (h2 : ¬ c = 68) : wr y m d [c] = [c] := by simp [wr, h1, h2]
theorem fs_y (a : Fs) : fstep a [89, 89, 89, 89] = ⟨(lead 4 0 a.s).1, a.m, a.d, (lead 4 0 a.s).2⟩ := rfl
theorem fs_mm (a : Fs) : fstep a [77, 77] = ⟨a.y, (lead 2 0 a.s).1, a.d, (lead 2 0 a.s).2⟩ := rfl
theorem fs_m (a : Fs) : fstep a [77] = ⟨a.y, (lead 2 0 a.s).1, a.d, (lead 2 0 a.s).2⟩ := rfl
theorem fs_dd (a : Fs) : fstep a [68, 68] = ⟨a.y, a.m, (lead 2 0 a.s).1, (lead 2 0 a.s).2⟩ := rfl
theorem fs_d (a : Fs) : fstep a [68] = ⟨a.y, a.m, (lead 2 0 a.s).1, (lead 2 0 a.s).2⟩ := rfl
theorem fs_one (a : Fs) {c : UInt8} (h1 : ¬ c = 77) (h2 : ¬ c = 68) : fstep a [c] = ⟨a.y, a.m, a.d, a.s.drop 1⟩ := by simp [fstep, isY, isM, isD, h1, h2]
theorem cnt {f : Part → Bool} {p : Part} {ps : List Part} : (p :: ps).countP f ≠ 0 ↔ f p = true ∨ ps.countP f ≠ 0 := by
  rw [List.countP_cons]
  split <;> simp_all
/-- Behind all parts of what Format writes stands nothing, and the fields have been found. -/
theorem undo {y m d : Int} (y0 : 0 ≤ y) (y1 : y ≤ 9999) (m0 : 0 ≤ m) (m1 : m ≤ 99) (d0 : 0 ≤ d) (d1 : d ≤ 99) :
    ∀ (ps : List Part) (op : Bool) (a : Fs), (∀ p ∈ ps, Ok p) → good op ps = true → a.s = ps.flatMap (wr y m d) →
      (ps.foldl fstep a).s = [] ∧ (a.y = y ∨ ps.countP isY ≠ 0 → (ps.foldl fstep a).y = y) ∧ (a.m = m ∨ ps.countP isM ≠ 0 → (ps.foldl fstep a).m = m) ∧ (a.d = d ∨ ps.countP isD ≠ 0 → (ps.foldl fstep a).d = d)
  | [], _, a, _, _, hs => ⟨hs, fun h => h.elim id (fun q => absurd rfl q), fun h => h.elim id (fun q => absurd rfl q), fun h => h.elim id (fun q => absurd rfl q)⟩
  | p :: ps, op, a, hok, hg, hs => by
    rw [good, Bool.and_eq_true] at hg
    have hp := hok p (List.mem_cons_self ..)
    have hoks : ∀ p ∈ ps, Ok p := fun q hq => hok q (List.mem_cons_of_mem _ hq)
    rw [List.flatMap_cons] at hs
    rw [List.foldl_cons]
    cases hp with
    | y =>
      have he : fstep a [89, 89, 89, 89] = ⟨y, a.m, a.d, ps.flatMap (wr y m d)⟩ := by rw [fs_y, hs, wr_y, lead_pad4 y0 y1]
      rw [he]
      obtain ⟨r1, r2, r3, r4⟩ := undo y0 y1 m0 m1 d0 d1 ps _ ⟨y, a.m, a.d, ps.flatMap (wr y m d)⟩ hoks hg.2 rfl
      refine ⟨r1, fun _ => r2 (.inl rfl), fun h => r3 ?_, fun h => r4 ?_⟩
      · exact h.imp id fun q => (cnt.1 q).resolve_left (by decide)
      · exact h.imp id fun q => (cnt.1 q).resolve_left (by decide)
    | mm =>
      have he : fstep a [77, 77] = ⟨a.y, m, a.d, ps.flatMap (wr y m d)⟩ := by rw [fs_mm, hs, wr_mm, lead_pad2 m0 m1]
      rw [he]
      obtain ⟨r1, r2, r3, r4⟩ := undo y0 y1 m0 m1 d0 d1 ps _ ⟨a.y, m, a.d, ps.flatMap (wr y m d)⟩ hoks hg.2 rfl
      refine ⟨r1, fun h => r2 ?_, fun _ => r3 (.inl rfl), fun h => r4 ?_⟩
      · exact h.imp id fun q => (cnt.1 q).resolve_left (by decide)
      · exact h.imp id fun q => (cnt.1 q).resolve_left (by decide)
    | m =>
      have he : fstep a [77] = ⟨a.y, m, a.d, ps.flatMap (wr y m d)⟩ := by rw [fs_m, hs, wr_m, lead_pad1 m0 m1 (cut_good hoks hg.2 y m d)]
      rw [he]
      obtain ⟨r1, r2, r3, r4⟩ := undo y0 y1 m0 m1 d0 d1 ps _ ⟨a.y, m, a.d, ps.flatMap (wr y m d)⟩ hoks hg.2 rfl
      refine ⟨r1, fun h => r2 ?_, fun _ => r3 (.inl rfl), fun h => r4 ?_⟩
      · exact h.imp id fun q => (cnt.1 q).resolve_left (by decide)
      · exact h.imp id fun q => (cnt.1 q).resolve_left (by decide)
    | dd =>
      have he : fstep a [68, 68] = ⟨a.y, a.m, d, ps.flatMap (wr y m d)⟩ := by rw [fs_dd, hs, wr_dd, lead_pad2 d0 d1]
      rw [he]
      obtain ⟨r1, r2, r3, r4⟩ := undo y0 y1 m0 m1 d0 d1 ps _ ⟨a.y, a.m, d, ps.flatMap (wr y m d)⟩ hoks hg.2 rfl
      refine ⟨r1, fun h => r2 ?_, fun h => r3 ?_, fun _ => r4 (.inl rfl)⟩
      · exact h.imp id fun q => (cnt.1 q).resolve_left (by decide)
      · exact h.imp id fun q => (cnt.1 q).resolve_left (by decide)
    | d =>
      have he : fstep a [68] = ⟨a.y, a.m, d, ps.flatMap (wr y m d)⟩ := by rw [fs_d, hs, wr_d, lead_pad1 d0 d1 (cut_good hoks hg.2 y m d)]
      rw [he]
      obtain ⟨r1, r2, r3, r4⟩ := undo y0 y1 m0 m1 d0 d1 ps _ ⟨a.y, a.m, d, ps.flatMap (wr y m d)⟩ hoks hg.2 rfl
      refine ⟨r1, fun h => r2 ?_, fun h => r3 ?_, fun _ => r4 (.inl rfl)⟩
      · exact h.imp id fun q => (cnt.1 q).resolve_left (by decide)
      · exact h.imp id fun q => (cnt.1 q).resolve_left (by decide)
    | one c h1 h2 =>
      have he : fstep a [c] = ⟨a.y, a.m, a.d, ps.flatMap (wr y m d)⟩ := by rw [fs_one a h1 h2, hs, wr_one y m d h1 h2]; rfl
      rw [he]
      obtain ⟨r1, r2, r3, r4⟩ := undo y0 y1 m0 m1 d0 d1 ps _ ⟨a.y, a.m, a.d, ps.flatMap (wr y m d)⟩ hoks hg.2 rfl
      have nY : ¬ isY [c] = true := by simp [isY]
      have nM : ¬ isM [c] = true := by simp [isM, h1]
      have nD : ¬ isD [c] = true := by simp [isD, h2]
      refine ⟨r1, fun h => r2 ?_, fun h => r3 ?_, fun h => r4 ?_⟩
      · exact h.imp id fun q => (cnt.1 q).resolve_left nY
      · exact h.imp id fun q => (cnt.1 q).resolve_left nM
      · exact h.imp id fun q => (cnt.1 q).resolve_left nD
theorem right_split {l : Part} (h : right l = true) : l.length ≤ 40 ∧ good false (parts l) = true ∧ (parts l).countP isY = 1 ∧ (parts l).countP isM = 1 ∧ (parts l).countP isD = 1 := by
  unfold right at h
  simp only [Bool.and_eq_true, decide_eq_true_eq, beq_iff_eq] at h
  exact ⟨h.1, h.2.1, h.2.2.1, h.2.2.2.1, h.2.2.2.2⟩
theorem undo_right {l : Part} (h : right l = true) {y m d : Int} (y0 : 0 ≤ y) (y1 : y ≤ 9999) (m0 : 0 ≤ m) (m1 : m ≤ 99) (d0 : 0 ≤ d) (d1 : d ≤ 99) : fnd (parts l) (fmt l y m d) = ⟨y, m, d, []⟩ := by
  obtain ⟨_, hg, hy, hm, hd⟩ := right_split h
  obtain ⟨r1, r2, r3, r4⟩ := undo y0 y1 m0 m1 d0 d1 (parts l) false ⟨0, 0, 0, fmt l y m d⟩ (parts_ok l) hg rfl
  unfold fnd
  have e1 := r2 (.inr (by omega))
  have e2 := r3 (.inr (by omega))
  have e3 := r4 (.inr (by omega))
  generalize (parts l).foldl fstep ⟨0, 0, 0, fmt l y m d⟩ = a at *
  obtain ⟨_, _, _, _⟩ := a
  simp only at r1 e1 e2 e3
  rw [r1, e1, e2, e3]
theorem vld_bd {y m d : Int} (h : Cal.vld y m d = true) : 0 ≤ y ∧ y ≤ 9999 ∧ 0 ≤ m ∧ m ≤ 99 ∧ 0 ≤ d ∧ d ≤ 99 := by
  obtain ⟨h1, h2, h3, h4, h5, h6⟩ := Cal.vld_iff.1 h
  have := Cal.dim_bd y m
  omega
/-- Read undoes Format. -/
theorem rd_fmt {l : Part} {n : Int} (h : right l = true) (hn : Cal.right n = true) : rd l (fmt l (Cal.cy n) (Cal.cm n) (Cal.cd n)) = true ∧ rdN l (fmt l (Cal.cy n) (Cal.cm n) (Cal.cd n)) = n := by
  obtain ⟨hv, hN⟩ := Cal.civ_spec hn
  obtain ⟨a, b, c, d, e, f⟩ := vld_bd hv
  have hu := undo_right h a b c d e f
  unfold rd rdN
  rw [hu, h]
  simp only [hv, hN, Bool.true_and, beq_self_eq_true, and_self]
theorem fmt_inj {l : Part} {m n : Int} (h : right l = true) (hm : Cal.right m = true) (hn : Cal.right n = true) (he : fmt l (Cal.cy m) (Cal.cm m) (Cal.cd m) = fmt l (Cal.cy n) (Cal.cm n) (Cal.cd n)) : m = n := by
  rw [← (rd_fmt h hm).2, he, (rd_fmt h hn).2]
/-! The reference's way of judging. -/
def okb (c : UInt8) : Bool := decide (32 ≤ c.toNat) && (decide (c.toNat ≤ 126) && !dig c)
def nodeR (op : Bool) (p : Part) : Bool := if isF p then !op else !(p == [89])
def goodR : Bool → List Part → Bool
  | _, [] => true
  | op, p :: ps => nodeR op p && goodR (isO p) ps
theorem plain_okb (c : UInt8) : plain c = (okb c && !(c == 89)) := by
  unfold plain okb dig
  simp only [Bool.and_assoc]
theorem good_goodR : ∀ (ps : List Part) (op : Bool), (∀ p ∈ ps, Ok p) → good op ps = (ps.flatten.all okb && goodR op ps)
  | [], _, _ => rfl
  | p :: ps, op, hok => by
    rw [good, goodR, good_goodR ps _ (fun q hq => hok q (List.mem_cons_of_mem _ hq)), List.flatten_cons, List.all_append]
    have hp := hok p (List.mem_cons_self ..)
    have hn : node op p = (p.all okb && nodeR op p) := by
      cases hp with
      | y => cases op <;> decide
      | mm => cases op <;> decide
      | m => cases op <;> decide
      | dd => cases op <;> decide
      | d => cases op <;> decide
      | one c h1 h2 =>
        have hF : isF [c] = false := by simp [isF, isY, isM, isD, h1, h2]
        unfold node nodeR
        rw [hF]
        simp only [Bool.false_eq_true, if_false, List.all_cons, List.all_nil, Bool.and_true]
        rw [plain_okb]
        congr 2
        simp
    rw [hn]
    cases p.all okb <;> cases nodeR op p <;> cases ps.flatten.all okb <;> rfl
/-- What the reference finds right is right. -/
theorem right_ref (l : Part) : right l = (decide (l.length ≤ 40) && (l.all okb && (goodR false (parts l) && ((parts l).countP isY == 1 && ((parts l).countP isM == 1 && (parts l).countP isD == 1))))) := by
  unfold right
  rw [good_goodR _ _ (parts_ok l), parts_flat]
  cases decide (l.length ≤ 40) <;> cases l.all okb <;> rfl
end Lay
end Go.Proofs.YtehgkpbjbkeoeaaDoor
