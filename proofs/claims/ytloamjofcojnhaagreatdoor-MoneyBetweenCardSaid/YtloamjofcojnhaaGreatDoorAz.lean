/- Package money: a region whose ways meet again: a walk over its states. -/
import Derived.Test.YtloamjofcojnhaaGreatDoorAx
import Derived.Test.YtloamjofcojnhaaGreatDoorAq
namespace Go.Proofs.YtloamjofcojnhaaGreatDoor
open Go.RowKit
theorem wpAnyH_dp {P : Program} {md : Region.Mode} {ops : Array Oper} {Q : Exit → Act → World → Prop} {S : World → Prop} (Inv : Nat → Array Bool → Act → World → Prop)
    (h : ∀ f l a w, (∀ l a w, Inv f l a w → wpAnyH P md ops Q S f l a w) → Inv (f + 1) l a w → wpAnyH P md ops Q S (f + 1) l a w) (h0 : ∀ l a w, ¬ Inv 0 l a w) :
    ∀ f l a w, Inv f l a w → wpAnyH P md ops Q S f l a w
  | 0, l, a, w, hi => absurd hi (h0 l a w)
  | f + 1, l, a, w, hi => h f l a w (fun l a w hi => wpAnyH_dp Inv h h0 f l a w hi) hi
theorem Kq.sub {w W : World} {l l' : List (Nat × TypeId × List Value)} (h : Kq w W l) (hs : ∀ p ∈ l', p ∈ l) : Kq w W l' := ⟨h.ch, fun p hp => h.row p (hs p hp)⟩
end Go.Proofs.YtloamjofcojnhaaGreatDoor
