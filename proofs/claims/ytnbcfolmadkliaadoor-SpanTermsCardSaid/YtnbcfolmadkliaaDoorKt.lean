/- What SpanRaw's row asks besides: slices of spans and pairs of ints that come in. -/
import Derived.Test.YtnbcfolmadkliaaDoorKr
import Derived.ChangeSame
namespace Go.Proofs.YtnbcfolmadkliaaDoor
open Go.Deep Go.ChangeShapes Go.WideShapes Go.ChangeAt Go.WideElems Go.RowKit
section
variable {H : Type} {enc : TypeId × Value → H} {P : Program} {t k e : TypeId} {W : World} {base : Nat} {sp : Nat → Bool} {held : Bool} {ik : IntKind}
theorem open_spans (ht : P.underlying t = some (.slice k)) {f0 f1 : Field} (hu : P.underlying k = some (.struct #[f0, f1])) (he0 : P.underlying f0.type = some (.int .i64)) (he1 : P.underlying f1.type = some (.int .i64)) (o0 : f0.offset = 0) (o1 : f1.offset = 1) (hc0 : P.cellsOf f0.type = 1) (hc1 : P.cellsOf f1.type = 1) (hc2 : P.cellsOf k = 2) {W0 : World} {r : Reach} {b0 : Nat} {v : Value} (hok : Value.okWide P W0 r b0 t v)
    {d : DataW H} {ps : List MemPlace} (hd : DataW.Trod enc P W base sp held t v d ps) :
    ∃ (p : Option Addr) (n c : Nat) (xs : List (Int × Int)), v = .slice p n c ∧ Ra W p n xs ∧ n ≤ 9223372036854775807 ∧ n ≤ c := by
  obtain ⟨a, len, cap, rfl⟩ := okWide_slice ht hok
  obtain ⟨fuel, hf⟩ := hd
  rcases open_slice ht hf with ⟨h0, _⟩ | ⟨a', len', cap', m, n, D, Pl, hcs, hb, hl, hm, hmm, _, hx⟩
  · simp [Value.cells] at h0
    obtain ⟨rfl, rfl, rfl⟩ := h0
    exact ⟨none, 0, 0, [], rfl, ⟨rfl, fun q => by omega⟩, by omega, by omega⟩
  · simp [Value.cells] at hcs
    obtain ⟨rfl, rfl, rfl⟩ := hcs
    have hlm : len ≤ m := by rw [hmm]; split <;> omega
    have each : ∀ i, i < len → ∃ q : Int × Int, W.cell? (a'.add (i * 2)) = some (iz q.1) ∧ W.cell? ((a'.add (i * 2)).add 1) = some (iz q.2) := by
      intro i hi
      obtain ⟨cs', h1, h2⟩ := hx i (by omega)
      rw [hc2] at h1
      obtain ⟨_, hlen, hcell⟩ := World.cells?_some h1
      obtain ⟨y0, y1, k', _, _, e0, e1⟩ := trod_struct2 hu h2
      rw [o0, hc0] at e0
      rw [o1, hc1] at e1
      match cs', hlen with
      | [v0, v1], _ =>
        simp at e0 e1
        obtain ⟨x, ex, _, _⟩ := DataW.trod_int he0 e0
        obtain ⟨y, ey, _, _⟩ := DataW.trod_int he1 e1
        simp at ex ey
        subst ex ey
        exact ⟨(x, y), by have := hcell 0 (by omega); simpa [Addr.add] using this, by have := hcell 1 (by omega); simpa using this⟩
    obtain ⟨q, hq⟩ := choose_lt each
    refine ⟨some a', len, cap, (List.range len).map q, rfl, ⟨by simp, fun hpos => ?_⟩, by unfold maxLen at hm; omega, hl⟩
    obtain ⟨b, off, spot⟩ := a'
    have h00 := (hq 0 hpos).1
    have hs : spot = none := by simpa [Addr.add] using World.cell?_spot h00
    subst hs
    refine ⟨by simp, (fun e => by cases e), fun a ha => ?_⟩
    obtain rfl := Option.some.inj ha
    refine ⟨rfl, by have := cell_lt h00; rw [plain_add] at this; exact this, fun i x hx j u hu => ?_⟩
    have hi : i < len := by have := (List.getElem?_eq_some_iff.1 hx).1; simpa using this
    have hxe : x = q i := by
      rw [List.getElem?_map, List.getElem?_range hi] at hx
      exact (Option.some.inj hx).symm
    subst hxe
    obtain ⟨g0, g1⟩ := hq i hi
    rw [plain_add] at g0
    rw [plain_add, plain_add] at g1
    have hj : j < 2 := by have := (List.getElem?_eq_some_iff.1 hu).1; rwa [spc_len] at this
    rcases (show j = 0 ∨ j = 1 by omega) with rfl | rfl
    · rw [← hu]; exact g0
    · rw [← hu]; exact g1
theorem dr_pair (hu : P.underlying k = some (.array 2 e)) (he : P.underlying e = some (.int ik)) (hc1 : P.cellsOf e = 1) (hc2 : P.cellsOf k = 2) {W0 : World} {r : Reach} {b0 : Nat} {v : Value} (hok : Value.okWide P W0 r b0 k v)
    {d : DataW H} {ps : List MemPlace} (hd : DataW.Trod enc P W base sp held k v d ps) :
    ∃ a b : Int, v = .agg #[.int ik a, .int ik b] ∧ ps = [] ∧ (Lit.int ik a).wf = true ∧ (Lit.int ik b).wf = true := by
  simp only [Value.okWide, hu] at hok
  obtain ⟨cs, rfl, hs, _⟩ := hok
  obtain ⟨fuel, hf⟩ := hd
  obtain ⟨xs, m, rfl, hx, hl, hn, hel⟩ := DataW.trod_array hu hf
  have h0 := hel 0 (by omega)
  have h1 := hel 1 (by omega)
  rw [hc1] at h0 h1
  rw [hc2] at hs
  obtain ⟨l⟩ := cs
  match xs, hn with
  | [x0, x1], _ =>
    match l, hs with
    | [c0, c1], _ =>
      simp [Value.cells] at h0 h1
      obtain ⟨a, ea, rfl, wa⟩ := DataW.trod_int he h0
      obtain ⟨b, eb, rfl, wb⟩ := DataW.trod_int he h1
      simp at ea eb
      subst ea eb
      simp only [Prod.mk.injEq] at hx
      exact ⟨a, b, rfl, by simpa using hx.2, wa, wb⟩
theorem dr_quad (hu : P.underlying k = some (.array 4 e)) (he : P.underlying e = some (.int ik)) (hc1 : P.cellsOf e = 1) (hc2 : P.cellsOf k = 4) {W0 : World} {r : Reach} {b0 : Nat} {v : Value} (hok : Value.okWide P W0 r b0 k v)
    {d : DataW H} {ps : List MemPlace} (hd : DataW.Trod enc P W base sp held k v d ps) :
    ∃ a b c f : Int, v = .agg #[.int ik a, .int ik b, .int ik c, .int ik f] ∧ ps = [] ∧ (Lit.int ik a).wf = true ∧ (Lit.int ik b).wf = true ∧ (Lit.int ik c).wf = true ∧ (Lit.int ik f).wf = true := by
  simp only [Value.okWide, hu] at hok
  obtain ⟨cs, rfl, hs, _⟩ := hok
  obtain ⟨fuel, hf⟩ := hd
  obtain ⟨xs, m, rfl, hx, hl, hn, hel⟩ := DataW.trod_array hu hf
  have h0 := hel 0 (by omega)
  have h1 := hel 1 (by omega)
  have h2 := hel 2 (by omega)
  have h3 := hel 3 (by omega)
  rw [hc1] at h0 h1 h2 h3
  rw [hc2] at hs
  obtain ⟨l⟩ := cs
  match xs, hn with
  | [x0, x1, x2, x3], _ =>
    match l, hs with
    | [c0, c1, c2, c3], _ =>
      simp [Value.cells] at h0 h1 h2 h3
      obtain ⟨a, ea, rfl, wa⟩ := DataW.trod_int he h0
      obtain ⟨b, eb, rfl, wb⟩ := DataW.trod_int he h1
      obtain ⟨c, ec, rfl, wc⟩ := DataW.trod_int he h2
      obtain ⟨f, ef, rfl, wf⟩ := DataW.trod_int he h3
      simp at ea eb ec ef
      subst ea eb ec ef
      simp only [Prod.mk.injEq] at hx
      exact ⟨a, b, c, f, rfl, by simpa using hx.2, wa, wb, wc, wf⟩
end
end Go.Proofs.YtnbcfolmadkliaaDoor
