/- What rows of layer 4 ask besides: a slice of triples that comes in. -/
import Derived.Test.YtnblmmhpndnjcaaGreatDoorCz
import Derived.Test.YtnblmmhpndnjcaaGreatDoorWt
import Derived.Deep.Slices
namespace Go.Proofs.YtnblmmhpndnjcaaGreatDoor
open Go.Deep Go.ChangeShapes Go.WideShapes Go.ChangeAt Go.WideElems Go.RowKit
theorem ye_plain (g o j : Nat) : (⟨g, o, none⟩ : Addr).add j = ⟨g, o + j, none⟩ := by simp [Addr.add]
theorem ye_lt {w : World} {a : Addr} {v : Value} (h : w.cell? a = some v) : a.block < w.heap.size := by
  rcases Nat.lt_or_ge a.block w.heap.size with q | q
  · exact q
  · unfold World.cell? at h
    rw [Array.getElem?_eq_none q] at h
    simp at h
section
variable {H : Type} {enc : TypeId × Value → H} {P : Program} {t k e : TypeId} {W : World} {base : Nat} {sp : Nat → Bool} {held : Bool}
theorem open_triples (ht : P.underlying t = some (.slice k)) (hu : P.underlying k = some (.array 3 e)) (he : P.underlying e = some (.int .i64)) (hc1 : P.cellsOf e = 1) (hc3 : P.cellsOf k = 3) {W0 : World} {r : Reach} {b0 : Nat} {v : Value} (hok : Value.okWide P W0 r b0 t v)
    {d : DataW H} {ps : List MemPlace} (hd : DataW.Trod enc P W base sp held t v d ps) :
    ∃ (p : Option Addr) (n c : Nat) (xs : List (Int × Int × Int)), v = .slice p n c ∧ Ti W p n xs ∧ n ≤ 9223372036854775807 := by
  obtain ⟨a, len, cap, rfl⟩ := okWide_slice ht hok
  obtain ⟨fuel, hf⟩ := hd
  rcases open_slice ht hf with ⟨h0, _⟩ | ⟨a', len', cap', m, n, D, Pl, hcs, hb, hl, hm, hmm, _, hx⟩
  · simp [Value.cells] at h0
    obtain ⟨rfl, rfl, rfl⟩ := h0
    exact ⟨none, 0, 0, [], rfl, ⟨rfl, by simp, fun q => by omega⟩, by omega⟩
  · simp [Value.cells] at hcs
    obtain ⟨rfl, rfl, rfl⟩ := hcs
    have hlm : len ≤ m := by rw [hmm]; split <;> omega
    have each : ∀ i, i < len → ∃ q : Int × Int × Int, (W.cell? (a'.add (i * 3)) = some (.int .i64 q.1) ∧ W.cell? ((a'.add (i * 3)).add 1) = some (.int .i64 q.2.1) ∧ W.cell? ((a'.add (i * 3)).add 2) = some (.int .i64 q.2.2)) ∧ i64q q.1 ∧ i64q q.2.1 ∧ i64q q.2.2 := by
      intro i hi
      obtain ⟨cs', h1, h2⟩ := hx i (by omega)
      rw [hc3] at h1
      obtain ⟨_, hlen, hcell⟩ := World.cells?_some h1
      obtain ⟨xs, k', hk, hxy, _, hxl, hel⟩ := DataW.trod_array hu h2
      have e0 := hel 0 (by omega)
      have e1 := hel 1 (by omega)
      have e2 := hel 2 (by omega)
      rw [hc1] at e0 e1 e2
      match xs, hxl, cs', hlen with
      | [y0, y1, y2], _, [v0, v1, v2], _ =>
        simp at e0 e1 e2
        obtain ⟨x, ex, _, wx⟩ := DataW.trod_int he e0
        obtain ⟨y, ey, _, wy⟩ := DataW.trod_int he e1
        obtain ⟨z, ez, _, wz⟩ := DataW.trod_int he e2
        simp at ex ey ez
        subst ex ey ez
        have b : ∀ u : Int, (Lit.int .i64 u).wf = true → i64q u := fun u h => by
          have h : IntKind.i64.min ≤ u ∧ u ≤ IntKind.i64.max := by simpa [Lit.wf] using h
          exact h
        exact ⟨(x, y, z), ⟨by have := hcell 0 (by omega); simpa [Addr.add] using this, by have := hcell 1 (by omega); simpa using this, by have := hcell 2 (by omega); simpa using this⟩, b x wx, b y wy, b z wz⟩
    obtain ⟨q, hq⟩ := choose_lt each
    refine ⟨some a', len, cap, (List.range len).map q, rfl, ⟨by simp, fun x hx => ?_, fun hpos => ?_⟩, by unfold maxLen at hm; omega⟩
    · obtain ⟨i, hi, rfl⟩ := List.mem_map.1 hx
      exact (hq i (List.mem_range.1 hi)).2
    obtain ⟨b, off, spot⟩ := a'
    have h00 := (hq 0 hpos).1.1
    have hs : spot = none := by simpa [Addr.add] using World.cell?_spot h00
    subst hs
    refine ⟨b, off, rfl, by have := ye_lt h00; rw [ye_plain] at this; exact this, fun i x hx => ?_⟩
    have hi : i < len := by have := (List.getElem?_eq_some_iff.1 hx).1; simpa using this
    have hxe : x = q i := by
      rw [List.getElem?_map, List.getElem?_range hi] at hx
      exact (Option.some.inj hx).symm
    subst hxe
    obtain ⟨⟨g0, g1, g2⟩, _⟩ := hq i hi
    rw [ye_plain] at g0
    rw [ye_plain, ye_plain] at g1 g2
    exact ⟨g0, g1, g2⟩
end
end Go.Proofs.YtnblmmhpndnjcaaGreatDoor
