/- What MoneyRaw's row asks besides: numbers, and a struct with a slice of numbers, that come in. -/
import Derived.Test.YtkeomlpecjjhiaaGreatDoorCx
import Derived.Test.YtkeomlpecjjhiaaGreatDoorVz
import Derived.ChangeSame
import Derived.Deep.Slices
namespace Go.Proofs.YtkeomlpecjjhiaaGreatDoor
open Go.Deep Go.ChangeShapes Go.WideShapes Go.ChangeAt Go.WideElems Go.RowKit
set_option maxRecDepth 100000
theorem yv_plain (g o j : Nat) : (⟨g, o, none⟩ : Addr).add j = ⟨g, o + j, none⟩ := by simp [Addr.add]
theorem yv_lt {w : World} {a : Addr} {v : Value} (h : w.cell? a = some v) : a.block < w.heap.size := by
 rcases Nat.lt_or_ge a.block w.heap.size with q | q
 ·exact q
 ·unfold World.cell? at h
  rw [Array.getElem?_eq_none q] at h
  simp at h
theorem str_cases (s : ByteArray) : ∃ l : List UInt8, s = ⟨l.toArray⟩ ∧ s.size = l.length := by
 obtain ⟨⟨l⟩⟩ := s
 exact ⟨l, rfl, rfl⟩
section
variable {H : Type} {enc : TypeId × Value → H} {W : World} {base : Nat} {sp : Nat → Bool} {held : Bool}
theorem rat_parts {m : Nat} (l : List Value) (xs : List (DataW H × List MemPlace)) (hl : l.length = 3) (hn : xs.length = 3) (h0 : DataW.trod enc Tryz.prog W base sp held m 4 ((l.drop 0).take 1) = xs[0]?) (h1 : DataW.trod enc Tryz.prog W base sp held m 24 ((l.drop 1).take 1) = xs[1]?)
  (h2 : DataW.trod enc Tryz.prog W base sp held m 24 ((l.drop 2).take 1) = xs[2]?) :
  ∃ (s : Bool) (a b : List UInt8), l = [.bool s, S a, S b] ∧ xs.map (·.2) = [[], [], []] ∧ a.length ≤ maxLen ∧ b.length ≤ maxLen := by
 rcases l with _ | ⟨c0, _ | ⟨c1, _ | ⟨c2, _ | ⟨c3, l⟩⟩⟩⟩ <;> simp at hl
 rcases xs with _ | ⟨x0, _ | ⟨x1, _ | ⟨x2, _ | ⟨x3, xs⟩⟩⟩⟩ <;> simp at hn
 simp at h0 h1 h2
 obtain ⟨s, e0, rfl⟩ := DataW.trod_bool Tryz.underlying4 h0
 obtain ⟨a, e1, rfl, wa⟩ := DataW.trod_string Tryz.underlying24 h1
 obtain ⟨b, e2, rfl, wb⟩ := DataW.trod_string Tryz.underlying24 h2
 simp at e0 e1 e2
 subst e0 e1 e2
 obtain ⟨la, rfl, ya⟩ := str_cases a
 obtain ⟨lb, rfl, yb⟩ := str_cases b
 rw [ya] at wa
 rw [yb] at wb
 exact ⟨s, la, lb, rfl, rfl, wa, wb⟩
theorem open_rat {W0 : World} {r : Reach} {b0 : Nat} {v : Value} (hok : Value.okWide Tryz.prog W0 r b0 26 v)
  {d : DataW H} {ps : List MemPlace} (hd : DataW.Trod enc Tryz.prog W base sp held 26 v d ps) :
  ∃ (s : Bool) (a b : List UInt8), v = Rv s a b ∧ ps = [] ∧ a.length ≤ maxLen ∧ b.length ≤ maxLen := by
 simp only [Value.okWide, Tryz.underlying26] at hok
 obtain ⟨cs, rfl, hs, _⟩ := hok
 obtain ⟨fuel, hf⟩ := hd
 obtain ⟨xs, m, rfl, hx, hl, hn, hel⟩ := DataW.trod_struct Tryz.underlying26 hf
 have h0 : DataW.trod enc Tryz.prog W base sp held m 4 ((cs.toList.drop 0).take (Tryz.prog.cellsOf 4)) = xs[0]? := hel 0 _ rfl
 have h1 : DataW.trod enc Tryz.prog W base sp held m 24 ((cs.toList.drop 1).take (Tryz.prog.cellsOf 24)) = xs[1]? := hel 1 _ rfl
 have h2 : DataW.trod enc Tryz.prog W base sp held m 24 ((cs.toList.drop 2).take (Tryz.prog.cellsOf 24)) = xs[2]? := hel 2 _ rfl
 rw [show Tryz.prog.cellsOf 4 = 1 from by kernel_rfl] at h0
 rw [show Tryz.prog.cellsOf 24 = 1 from by kernel_rfl] at h1 h2
 rw [show Tryz.prog.cellsOf 26 = 3 from by kernel_rfl] at hs
 have hn3 : xs.length = 3 := hn
 obtain ⟨s, a, b, e, ex, wa, wb⟩ := rat_parts cs.toList xs (by simpa using hs) hn3 h0 h1 h2
 obtain rfl : cs = #[.bool s, S a, S b] := by
  obtain ⟨l⟩ := cs
  simp only at e
  rw [e]
 refine ⟨s, a, b, rfl, ?_, wa, wb⟩
 have hp : ps = (xs.map (·.2)).flatten := congrArg Prod.snd hx
 rw [hp, ex]
 rfl
theorem rats_read {fuel : Nat} {cs : List Value} {x : DataW H × List MemPlace} (h : DataW.trod enc Tryz.prog W base sp held fuel 32 cs = some x) :
  ∃ (p : Option Addr) (n c : Nat) (l : List T3), cs = [.slice p n c] ∧ Rr W p n l := by
 rcases open_slice Tryz.underlying32 h with ⟨h0, _⟩ | ⟨a', len, cap, m, n, D, Pl, hcs, hb, hl, hm, hmm, _, hx⟩
 ·exact ⟨none, 0, 0, [], h0, ⟨rfl, fun q => by omega⟩⟩
 ·have hlm : len ≤ m := by rw [hmm]; split <;> omega
  have each : ∀ i, i < len → ∃ q : T3, W.cell? (a'.add (i * 3)) = some (.bool q.1) ∧ W.cell? ((a'.add (i * 3)).add 1) = some (S q.2.1) ∧ W.cell? ((a'.add (i * 3)).add 2) = some (S q.2.2) := by
   intro i hi
   obtain ⟨cs', h1, h2⟩ := hx i (by omega)
   rw [show Tryz.prog.cellsOf 26 = 3 from by kernel_rfl] at h1
   obtain ⟨_, hlen, hcell⟩ := World.cells?_some h1
   obtain ⟨xs, k', _, _, hl', hn', hel⟩ := DataW.trod_struct Tryz.underlying26 h2
   have e0 : DataW.trod enc Tryz.prog W base sp held k' 4 ((cs'.drop 0).take (Tryz.prog.cellsOf 4)) = xs[0]? := hel 0 _ rfl
   have e1 : DataW.trod enc Tryz.prog W base sp held k' 24 ((cs'.drop 1).take (Tryz.prog.cellsOf 24)) = xs[1]? := hel 1 _ rfl
   have e2 : DataW.trod enc Tryz.prog W base sp held k' 24 ((cs'.drop 2).take (Tryz.prog.cellsOf 24)) = xs[2]? := hel 2 _ rfl
   rw [show Tryz.prog.cellsOf 4 = 1 from by kernel_rfl] at e0
   rw [show Tryz.prog.cellsOf 24 = 1 from by kernel_rfl] at e1 e2
   obtain ⟨s, a, b, e, _, _, _⟩ := rat_parts cs' xs hlen hn' e0 e1 e2
   subst e
   exact ⟨(s, a, b), by have := hcell 0 (by omega); simpa [Addr.add] using this, by have := hcell 1 (by omega); simpa using this, by have := hcell 2 (by omega); simpa using this⟩
  obtain ⟨q, hq⟩ := choose_lt each
  refine ⟨some a', len, cap, (List.range len).map q, hcs, ⟨by simp, fun hpos => ?_⟩⟩
  obtain ⟨b, off, spot⟩ := a'
  have h00 := (hq 0 hpos).1
  have hs : spot = none := by simpa [Addr.add] using World.cell?_spot h00
  subst hs
  refine ⟨b, off, rfl, by have := yv_lt h00; rw [yv_plain] at this; exact this, fun i x hx => ?_⟩
  have hi : i < len := by have := (List.getElem?_eq_some_iff.1 hx).1; simpa using this
  have hxe : x = q i := by
   rw [List.getElem?_map, List.getElem?_range hi] at hx
   exact (Option.some.inj hx).symm
  subst hxe
  obtain ⟨g0, g1, g2⟩ := hq i hi
  rw [yv_plain] at g0
  rw [yv_plain, yv_plain] at g1 g2
  exact ⟨g0, g1, g2⟩
theorem rest_parts (l : List Value) (hl : l.length = 2) {m : Nat} {y0 y1 : DataW H × List MemPlace} (h0 : DataW.trod enc Tryz.prog W base sp held m 3 ((l.drop 0).take 1) = some y0) (h1 : DataW.trod enc Tryz.prog W base sp held m 32 ((l.drop 1).take 1) = some y1) :
  ∃ (z : Int) (p : Option Addr) (n c : Nat) (k : List T3), l = [.int .i64 z, .slice p n c] ∧ i64m z ∧ Rr W p n k := by
 rcases l with _ | ⟨c0, _ | ⟨c1, _ | ⟨c2, l⟩⟩⟩ <;> simp at hl
 simp at h0 h1
 obtain ⟨z, e0, _, wz⟩ := DataW.trod_int Tryz.underlying3 h0
 obtain ⟨p, n, c, k, e1, hR⟩ := rats_read h1
 simp at e0 e1
 subst e0 e1
 exact ⟨z, p, n, c, k, rfl, wf64 wz, hR⟩
theorem open_rest {W0 : World} {r : Reach} {b0 : Nat} {v : Value} (hok : Value.okWide Tryz.prog W0 r b0 34 v)
  {d : DataW H} {ps : List MemPlace} (hd : DataW.Trod enc Tryz.prog W base sp held 34 v d ps) :
  ∃ (z : Int) (p : Option Addr) (n c : Nat) (k : List T3), v = .agg #[.int .i64 z, .slice p n c] ∧ i64m z ∧ Rr W p n k := by
 simp only [Value.okWide, Tryz.underlying34] at hok
 obtain ⟨cs, rfl, hs, _⟩ := hok
 obtain ⟨fuel, hf⟩ := hd
 obtain ⟨y0, y1, n, _, _, h0, h1⟩ := trod_struct2 Tryz.underlying34 hf
 have e0 : DataW.trod enc Tryz.prog W base sp held n 3 ((cs.toList.drop 0).take (Tryz.prog.cellsOf 3)) = some y0 := h0
 have e1 : DataW.trod enc Tryz.prog W base sp held n 32 ((cs.toList.drop 1).take (Tryz.prog.cellsOf 32)) = some y1 := h1
 rw [show Tryz.prog.cellsOf 3 = 1 from by kernel_rfl] at e0
 rw [show Tryz.prog.cellsOf 32 = 1 from by kernel_rfl] at e1
 rw [show Tryz.prog.cellsOf 34 = 2 from by kernel_rfl] at hs
 obtain ⟨z, p, n, c, k, e, hz, hR⟩ := rest_parts cs.toList (by simpa using hs) e0 e1
 obtain rfl : cs = #[.int .i64 z, .slice p n c] := by
  obtain ⟨l⟩ := cs
  simp only at e
  rw [e]
 exact ⟨z, p, n, c, k, rfl, hz, hR⟩
end
theorem raw_core2 (s1 : Bool) (n1 d1 : List UInt8) (s2 : Bool) (n2 d2 : List UInt8) (c0 : Int) (p : Option Addr) (n c : Nat) (l : List T3) (w : World) (_ : n1.length ≤ maxLen) (_ : d1.length ≤ maxLen) (_ : n2.length ≤ maxLen) (_ : d2.length ≤ maxLen) (hc : i64m c0) (hr : Rr w p n l) (ht : Tm w) :
  Calls Tryz.prog 4 #[Rv s1 n1 d1, Rv s2 n2 d2, .agg #[.int .i64 c0, .slice p n c]] w (Yld w (.bool true)) := raw_core s1 s2 n1 d1 n2 d2 c0 p n c l w hc hr ht
end Go.Proofs.YtkeomlpecjjhiaaGreatDoor
