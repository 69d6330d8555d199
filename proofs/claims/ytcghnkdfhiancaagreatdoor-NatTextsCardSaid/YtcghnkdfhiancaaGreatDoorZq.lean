/- An argument that is an array of two integers. -/
import Derived.Test.YtcghnkdfhiancaaGreatDoorZc
import Derived.WideKeyArr2
namespace Go.Proofs.YtcghnkdfhiancaaGreatDoor
open Go.ChangeShapes Go.WideShapes Go.ChangeAt Go.WideElems Go.RowKit
section
variable {H : Type} {enc : TypeId × Value → H} {P : Program} {k e : TypeId} {q : IntKind} {W : World} {base : Nat} {sp : Nat → Bool} {held : Bool}
theorem open_pair (hu : P.underlying k = some (.array 2 e)) (he : P.underlying e = some (.int q)) (hc1 : P.cellsOf e = 1) (hc2 : P.cellsOf k = 2) {W0 : World} {r : Reach} {b0 : Nat} {v : Value} (hok : Value.okWide P W0 r b0 k v)
    {d : DataW H} {ps : List MemPlace} (hd : DataW.Trod enc P W base sp held k v d ps) :
    ∃ a b : Int, v = .agg #[.int q a, .int q b] ∧ ps = [] ∧ (Lit.int q a).wf = true ∧ (Lit.int q b).wf = true := by
  simp only [Value.okWide, hu] at hok
  obtain ⟨cs, rfl, hs, _⟩ := hok
  obtain ⟨fuel, hf⟩ := hd
  obtain ⟨xs, m, rfl, hx, hl, hn, hel⟩ := DataW.trod_array hu hf
  have h0 := hel 0 (by omega)
  have h1 := hel 1 (by omega)
  rw [hc1] at h0 h1
  rw [hc2] at hs
  obtain ⟨l⟩ := cs
  match xs, hn with
  | [x0, x1], _ =>
    match l, hs with
    | [c0, c1], _ =>
      simp [Value.cells] at h0 h1
      obtain ⟨a, ea, rfl, wa⟩ := DataW.trod_int he h0
      obtain ⟨b, eb, rfl, wb⟩ := DataW.trod_int he h1
      simp at ea eb
      subst ea eb
      simp only [Prod.mk.injEq] at hx
      exact ⟨a, b, rfl, by simpa using hx.2, wa, wb⟩
end
end Go.Proofs.YtcghnkdfhiancaaGreatDoor
