/- Steps of a region that draws its order, one operation at a time (layer 3's). -/
import Derived.Test.YtehgkpbjbkeoeaaDoorDn
import Derived.Deep.RegionHeld3
namespace Go.Proofs.YtehgkpbjbkeoeaaDoor
open Go.RowKit Go.Shelf
theorem at_list {α : Type} {l : List α} {i : Nat} {x : α} (h : l[i]? = some x) : l.toArray[i]? = some x := by
  rw [List.getElem?_toArray]; exact h
section
variable {P : Program} {ops : Array Oper} {Q : Exit → Act → World → Prop} {md : Region.Mode} {S : World → Prop}
/-- An operation that runs, and yields the same in every world that meets S, is taken first. -/
theorem tk (i : Nat) {oi : Oper} {v : Value} {fuel : Nat} {listed : Array Bool} {a : Act} {w : World} (hS : S w)
    (hy : ∀ w, S w → (execOp a.eval oi).run P w = .ok (.value v) w)
    (h : wpAnyH P md ops Q S fuel (listed.setIfInBounds i true) (a.put oi.dst v) w)
    (hi : ops[i]? = some oi := by exact at_list rfl) (hs : (Region.noSelect ops && Region.free md ops listed i && (Region.ready md ops listed).contains i) = true := by kernel_rfl)
    (hQ : ∀ c a w, Q (.panic c) (a.put oi.dst v) w → Q (.panic c) a w := by exact fun _ _ _ h => h) (hw : Region.wanted oi (yielded ops a.tmps) = true := by rfl) : wpAnyH P md ops Q S (fuel + 1) listed a w := by
  simp only [Bool.and_eq_true] at hs
  exact wpAnyH_take hi hs.1.1 hs.1.2 hs.2 hQ (Or.inl ⟨hw, hy⟩) hS h
/-- More may be asked of the worlds on the way. -/
theorem wpAnyH_more {S' : World → Prop} (hS : ∀ w, S' w → S w) : ∀ (fuel : Nat) (listed : Array Bool) (a : Act) (w : World), wpAnyH P md ops Q S' fuel listed a w → wpAnyH P md ops Q S fuel listed a w
  | 0, _, _, _, h => h
  | fuel + 1, _, _, _, h => ⟨h.1, fun i hi => wpOp_mono (fun a' w' h' => ⟨hS _ h'.1, wpAnyH_more hS fuel _ a' w' h'.2⟩) (h.2 i hi)⟩
end
/-- Blocks of one's own, wherever they lie. -/
structure Kq (w W : World) (l : List (Nat × TypeId × List Value)) : Prop where
  ch : Ch w.heap.size none1 w W
  row : ∀ p ∈ l, Blk W p.1 p.2.1 p.2.2
theorem Kq.nil (w : World) : Kq w w [] := ⟨Ch.refl _ _ _, fun p hp => by simp at hp⟩
theorem Kq.on {w W W' : World} {l : List (Nat × TypeId × List Value)} (h : Kq w W l) (hC : Ch W.heap.size none1 W W') : Kq w W' l := ⟨h.ch.trans (hC.mono h.ch.size (fun _ _ q => q)), fun p hp => hC.blk (h.row p hp) (h.row p hp).lt (fun q => q)⟩
theorem Kq.drew {w W : World} {l : List (Nat × TypeId × List Value)} (h : Kq w W l) : Kq w W.drew l := ⟨h.ch.drew, fun p hp => (h.row p hp).drew⟩
theorem Kq.new {w W : World} {l : List (Nat × TypeId × List Value)} (h : Kq w W l) (a : Array Value) (t : TypeId) : Kq w (W.alloc (.cells a t (0, 0))) ((W.heap.size, t, a.toList) :: l) := by
  refine ⟨h.ch.alloc h.ch.size _, fun p hp => ?_⟩
  rcases List.mem_cons.1 hp with rfl | hp
  · exact Blk.new W a t
  · exact (h.row p hp).alloc _
theorem Kq.other {w W : World} {l : List (Nat × TypeId × List Value)} (h : Kq w W l) (o : Obj) : Kq w (W.alloc o) l := h.on ((Ch.refl _ _ _).alloc (Nat.le_refl _) o)
end Go.Proofs.YtehgkpbjbkeoeaaDoor
