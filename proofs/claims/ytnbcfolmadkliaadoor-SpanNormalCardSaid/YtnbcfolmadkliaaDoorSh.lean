/- Package span: the iterator of the changes. -/
import Derived.Shelf.Abstract
import Derived.Shelf.RegionOpen
import Derived.OwnWalkIn
import Derived.TacticsInMore
import Derived.LoopNIn
import Derived.LoopIn
import Derived.BigRegionIn
import Derived.Sort.QuietIn
import Derived.Test.YtnbcfolmadkliaaDoorSr
import Derived.Test.YtnbcfolmadkliaaDoorSg
namespace Go.Proofs.YtnbcfolmadkliaaDoor
open Go.RowKit Go.Shelf
attribute [local go_sem] Oper.semAt_some
/-- What a round is handed: the day, where the two truths lie, and the two truths. -/
structure Chg where
  day : Int
  blk : Nat
  x : Bool
  y : Bool
def Chg.vals (c : Chg) : Array Value := #[iz c.day, .slice (some ⟨c.blk, 0, none⟩) 2 2]
structure ChgOk (a b : List Spn.Sp) (n0 n1 : Nat) (t : Int) (c : Chg) (W : World) : Prop where
  stp : Spn.Stp a b t c.day
  x : c.x = Spn.has a c.day
  y : c.y = Spn.has b c.day
  ge : n0 ≤ c.blk
  lt : c.blk < n1
  cells : Blk W c.blk 4 [.bool c.x, .bool c.y]
/-- The iterator's own memory while its loop runs. -/
structure Own3 (w1 wr : World) (n0 n1 gd gh : Nat) (p : Option Addr) (m : Nat) (B : List Spn.Bd) (P : List Spn.Bd) : Prop where
  d : Blk wr gd 3 [iz (Spn.dep 0 P), iz (Spn.dep 1 P)]
  h : Blk wr gh 4 [.bool (decide (0 < Spn.dep 0 P)), .bool (decide (0 < Spn.dep 1 P))]
  s : Rd bdc 3 wr p m B
  dg : n0 ≤ gd ∧ gd < n1
  hg : n0 ≤ gh ∧ gh < n1
  sg : ∀ x, p = some x → n0 ≤ x.block ∧ x.block < n1 ∧ x.block ≠ gd ∧ x.block ≠ gh
  ne : gd ≠ gh
  sz : n1 ≤ wr.heap.size
theorem Own3.kpt {w1 wr W : World} {n0 n1 gd gh : Nat} {p : Option Addr} {m : Nat} {B P : List Spn.Bd} (h : Own3 w1 wr n0 n1 gd gh p m B P) (hk : Kpt n0 n1 wr W) : Own3 w1 W n0 n1 gd gh p m B P where
  d := by unfold Blk; rw [hk.2 _ h.dg.1 h.dg.2]; exact h.d
  h := by unfold Blk; rw [hk.2 _ h.hg.1 h.hg.2]; exact h.h
  s := ⟨h.s.len, h.s.nil, fun a ha => by
    obtain ⟨h1, h2, h3⟩ := h.s.at' a ha
    obtain ⟨g1, g2, _, _⟩ := h.sg a ha
    refine ⟨h1, Nat.lt_of_lt_of_le h2 hk.1, fun i x hi j v hv => ?_⟩
    rw [World.cell?_of_block (w := wr) (a := ⟨a.block, a.off + i * 3 + j, none⟩) (hk.2 _ g1 g2)]
    exact h3 i x hi j v hv⟩
  dg := h.dg
  hg := h.hg
  sg := h.sg
  ne := h.ne
  sz := Nat.le_trans h.sz hk.1
theorem Blk.heap {w w' : World} {g : Nat} {t : TypeId} {cs : List Value} (h : Blk w g t cs) (e : w'.heap = w.heap) : Blk w' g t cs := by unfold Blk at h ⊢; rw [e]; exact h
theorem Own3.heap {w1 wr W : World} {n0 n1 gd gh : Nat} {p : Option Addr} {m : Nat} {B P : List Spn.Bd} (h : Own3 w1 wr n0 n1 gd gh p m B P) (e : W.heap = wr.heap) : Own3 w1 W n0 n1 gd gh p m B P :=
  h.kpt ⟨by rw [e]; exact Nat.le_refl _, fun _ _ _ => by rw [e]⟩
theorem Own.heap {n0 n1 : Nat} {A B C : World} (h : Own n0 n1 A B) (e : C.heap = B.heap) (q : C.os = B.os ∧ C.tape = B.tape ∧ C.output = B.output) : Own n0 n1 A C := ⟨⟨q.1.trans h.1.1, q.2.1.trans h.1.2.1, q.2.2.trans h.1.2.2⟩, by rw [e]; exact h.2.1, fun k hk hh => by rw [e]; exact h.2.2 k hk hh⟩
theorem ChgOk.heap {a b : List Spn.Sp} {n0 n1 : Nat} {t : Int} {c : Chg} {W W' : World} (h : ChgOk a b n0 n1 t c W) (e : W'.heap = W.heap) : ChgOk a b n0 n1 t c W' := ⟨h.stp, h.x, h.y, h.ge, h.lt, h.cells.heap e⟩
/-- One bound is counted. -/
theorem Own3.step {w1 wr : World} {n0 n1 gd gh : Nat} {p : Option Addr} {m : Nat} {B P : List Spn.Bd} (h : Own3 w1 wr n0 n1 gd gh p m B P) (c i s : Int) (o : Obj) (hi : i = 0 ∨ i = 1) (D : Int) (hD : D = Spn.dep i P + s) (H : Bool) (hH : H = decide (0 < D)) :
    Own3 w1 (((wr.alloc o).setCell ⟨gd, i.toNat, none⟩ (iz D)).setCell ⟨gh, i.toNat, none⟩ (.bool H)) n0 n1 gd gh p m B (P ++ [(c, i, s)]) ∧
    Own n0 n1 wr (((wr.alloc o).setCell ⟨gd, i.toNat, none⟩ (iz D)).setCell ⟨gh, i.toNat, none⟩ (.bool H)) := by
  subst hD hH
  have hsame : Spn.dep i (P ++ [(c, i, s)]) = Spn.dep i P + s := by rw [Spn.dep_append, Spn.dep_cons, Spn.dep_nil]; simp
  have hoth : ∀ j, j ≠ i → Spn.dep j (P ++ [(c, i, s)]) = Spn.dep j P := fun j hj => by rw [Spn.dep_append, Spn.dep_cons, Spn.dep_nil, if_neg (show ¬ ((c, i, s) : Spn.Bd).2.1 = j from fun q => hj q.symm)]; omega
  refine ⟨⟨?_, ?_, ?_, h.dg, h.hg, h.sg, h.ne, ?_⟩, ⟨rfl, rfl, rfl⟩, ?_, ?_⟩
  · have := ((h.d.alloc o).set i.toNat (iz (Spn.dep i P + s))).set_other h.ne i.toNat (.bool (decide (0 < Spn.dep i P + s)))
    refine this.cast ?_
    rcases hi with rfl | rfl
    · rw [hsame, hoth 1 (by decide)]; rfl
    · rw [hsame, hoth 0 (by decide)]; rfl
  · have := ((h.h.alloc o).set_other (Ne.symm h.ne) i.toNat (iz (Spn.dep i P + s))).set i.toNat (.bool (decide (0 < Spn.dep i P + s)))
    refine this.cast ?_
    rcases hi with rfl | rfl
    · rw [hsame, hoth 1 (by decide)]; rfl
    · rw [hsame, hoth 0 (by decide)]; rfl
  · have hC : Ch wr.heap.size (fun k => k = gd ∨ k = gh) wr (((wr.alloc o).setCell ⟨gd, i.toNat, none⟩ (iz (Spn.dep i P + s))).setCell ⟨gh, i.toNat, none⟩ (.bool (decide (0 < Spn.dep i P + s)))) :=
      (((Ch.refl _ _ wr).alloc (Nat.le_refl _) o).setCell (p := ⟨gd, i.toNat, none⟩) (.inr (.inl rfl)) _).setCell (p := ⟨gh, i.toNat, none⟩) (.inr (.inr rfl)) _
    exact h.s.chR hC fun a ha => by obtain ⟨_, _, h3, h4⟩ := h.sg a ha; rintro (q | q); exact h3 q; exact h4 q
  · have := h.sz; simp [World.setCell]; omega
  · simp [World.setCell]
  · intro k hk hkk
    rw [Below.heap_setCell _ _ _ _ (show k ≠ gh from fun q => by have := h.hg; omega), Below.heap_setCell _ _ _ _ (show k ≠ gd from fun q => by have := h.dg; omega), Below.heap_alloc _ _ _ hk]
theorem dep_bd (i : Int) (P : List Spn.Bd) (h : ∀ x ∈ P, x.2.2 = 1 ∨ x.2.2 = -1) : -(P.length : Int) ≤ Spn.dep i P ∧ Spn.dep i P ≤ P.length := by
  induction P with
  | nil => simp [Spn.dep_nil]
  | cons x P ih =>
    have h1 := ih fun y hy => h y (by simp [hy])
    have h2 := h x (by simp)
    rw [Spn.dep_cons, List.length_cons]
    split <;> omega
theorem int_info : (Tryd.prog.info? 3).map (fun i => (i.zero, i.size, i.bytes)) = some (some (iz 0), 1, 8) := by kernel_rfl
theorem bool_info : (Tryd.prog.info? 4).map (fun i => (i.zero, i.size, i.bytes)) = some (some (.bool false), 1, 1) := by kernel_rfl
theorem make_ints (W : World) : (Instr.makeSlice 27 (.int .i64 2) (.int .i64 2)).run Tryd.prog W = .ok (.slice (some ⟨W.heap.size, 0, none⟩) 2 2) (W.alloc (.cells #[iz 0, iz 0] 3)) := by
  obtain ⟨i0, hi, hz0, hz1, hz2⟩ := info_parts int_info
  have h := run_make (P := Tryd.prog) W 27 3 i0 (iz 0) Tryd.underlying27 hi hz0 .i64 .i64 2 2 (by omega) (Int.le_refl _) (by rw [hz2]; decide) (by decide)
  rw [hz1, show Int.toNat 2 = 2 from rfl, show madeCells (iz 0).cells (2 * 1) = #[iz 0, iz 0] by kernel_rfl] at h
  exact h
theorem make_bools (W : World) : (Instr.makeSlice 53 (.int .i64 2) (.int .i64 2)).run Tryd.prog W = .ok (.slice (some ⟨W.heap.size, 0, none⟩) 2 2) (W.alloc (.cells #[.bool false, .bool false] 4)) := by
  obtain ⟨i0, hi, hz0, hz1, hz2⟩ := info_parts bool_info
  have h := run_make (P := Tryd.prog) W 53 4 i0 (.bool false) Tryd.underlying53 hi hz0 .i64 .i64 2 2 (by omega) (Int.le_refl _) (by rw [hz2]; decide) (by decide)
  rw [hz1, show Int.toNat 2 = 2 from rfl, show madeCells (Value.bool false).cells (2 * 1) = #[.bool false, .bool false] by kernel_rfl] at h
  exact h
end Go.Proofs.YtnbcfolmadkliaaDoor
