/- The laws of layer 2: what they share; RatioSums. -/
import Derived.Test.YtbpoghgokkpckaaGreatDoorQy
namespace Go.Proofs.YtbpoghgokkpckaaGreatDoor
open Go.RowKit
/-- Blocks of one's own, wherever they lie. -/
structure Kq (w W : World) (l : List (Nat × TypeId × List Value)) : Prop where
  ch : Ch w.heap.size none1 w W
  row : ∀ p ∈ l, Blk W p.1 p.2.1 p.2.2
theorem Kq.nil (w : World) : Kq w w [] := ⟨Ch.refl _ _ _, fun p hp => by simp at hp⟩
theorem Kq.on {w W W' : World} {l : List (Nat × TypeId × List Value)} (h : Kq w W l) (hC : Ch W.heap.size none1 W W') : Kq w W' l := ⟨h.ch.step0 hC (Nat.le_refl _), fun p hp => hC.blk (h.row p hp) (h.row p hp).lt (fun q => q)⟩
theorem Kq.drew {w W : World} {l : List (Nat × TypeId × List Value)} (h : Kq w W l) : Kq w W.drew l := ⟨h.ch.drew, fun p hp => (h.row p hp).drew⟩
theorem Kq.new {w W : World} {l : List (Nat × TypeId × List Value)} (h : Kq w W l) (a : Array Value) (t : TypeId) : Kq w (W.alloc (.cells a t (0, 0))) ((W.heap.size, t, a.toList) :: l) := by
  have hc : Ch W.heap.size none1 W (W.alloc (.cells a t (0, 0))) := (Ch.refl _ _ _).alloc (Nat.le_refl _) _
  refine ⟨h.ch.step0 hc (Nat.le_refl _), fun p hp => ?_⟩
  rcases List.mem_cons.1 hp with rfl | hp
  · exact Blk.new W a _
  · exact hc.blk (h.row p hp) (h.row p hp).lt (fun q => q)
theorem Kq.other {w W : World} {l : List (Nat × TypeId × List Value)} (h : Kq w W l) (o : Obj) : Kq w (W.alloc o) l := h.on ((Ch.refl _ _ _).alloc (Nat.le_refl _) o)
/-- Both quotients. -/
theorem C_quo_both {a b : Rat} {s t : Bool} {n d m e : List UInt8} (hn : n.length ≤ 400) (hd : d.length ≤ 400) (hm : m.length ≤ 400) (he : e.length ≤ 400) (ra : ratOf s n d = a) (rb : ratOf t m e = b) :
    ∃ (r : Bool) (k f : List UInt8) (ok : Bool), AnsT 14 #[Rv s n d, Rv t m e] (.tuple #[Rv r k f, .bool ok]) ∧ Ans 44 #[Rv s n d, Rv t m e] (.tuple #[Rv r k f, .bool ok]) := by
  by_cases hb : b = 0
  · exact ⟨false, [], [], false, C_Quo_no (by omega) (by omega) (by omega) (by omega) ra rb hb, C_rQuo_no hn hd hm he ra rb hb⟩
  · exact ⟨_, _, _, true, C_Quo (by omega) (by omega) (by omega) (by omega) ra rb hb (pt_is (a / b)), C_rQuo hn hd hm he ra rb hb (pt_is (a / b))⟩
theorem mdq_len (x y z : Int) : (pt (mdq x y z)).2.1.length ≤ 16 ∧ (pt (mdq x y z)).2.2.length ≤ 16 := (mdq_size x y z).len (pt_is _)
/-- The range of an int. -/
abbrev i64r (x : Int) : Prop := -9223372036854775808 ≤ x ∧ x ≤ 9223372036854775807
end Go.Proofs.YtbpoghgokkpckaaGreatDoor
