/- What the rows of layer 2 share, more: arguments that are arrays of two strings, of two ints, and numbers of the program. -/
import Derived.Test.YtbpoghgokkpckaaGreatDoorLz
namespace Go.Proofs.YtbpoghgokkpckaaGreatDoor
open Go.ChangeShapes Go.WideShapes Go.ChangeAt Go.WideElems Go.RowKit
section
variable {H : Type} {enc : TypeId × Value → H} {P : Program} {k e : TypeId} {W : World} {base : Nat} {sp : Nat → Bool} {held : Bool}
theorem str_cases (s : ByteArray) : ∃ l : List UInt8, s = ⟨l.toArray⟩ ∧ s.size = l.length := by
  obtain ⟨⟨l⟩⟩ := s
  exact ⟨l, rfl, rfl⟩
theorem open_spair (hu : P.underlying k = some (.array 2 e)) (he : P.underlying e = some .string) (hc1 : P.cellsOf e = 1) (hc2 : P.cellsOf k = 2) {W0 : World} {r : Reach} {b0 : Nat} {v : Value} (hok : Value.okWide P W0 r b0 k v)
    {d : DataW H} {ps : List MemPlace} (hd : DataW.Trod enc P W base sp held k v d ps) :
    ∃ a b : List UInt8, v = .agg #[S a, S b] ∧ ps = [] ∧ a.length ≤ maxLen ∧ b.length ≤ maxLen := by
  simp only [Value.okWide, hu] at hok
  obtain ⟨cs, rfl, hs, _⟩ := hok
  obtain ⟨fuel, hf⟩ := hd
  obtain ⟨xs, m, rfl, hx, hl, hn, hel⟩ := DataW.trod_array hu hf
  have h0 := hel 0 (by omega)
  have h1 := hel 1 (by omega)
  rw [hc1] at h0 h1
  rw [hc2] at hs
  obtain ⟨l⟩ := cs
  match xs, hn with
  | [x0, x1], _ =>
    match l, hs with
    | [c0, c1], _ =>
      simp [Value.cells] at h0 h1
      obtain ⟨a, ea, rfl, wa⟩ := DataW.trod_string he h0
      obtain ⟨b, eb, rfl, wb⟩ := DataW.trod_string he h1
      simp at ea eb
      subst ea eb
      simp only [Prod.mk.injEq] at hx
      obtain ⟨la, rfl, ya⟩ := str_cases a
      obtain ⟨lb, rfl, yb⟩ := str_cases b
      rw [ya] at wa
      rw [yb] at wb
      exact ⟨la, lb, rfl, by simpa using hx.2, wa, wb⟩
theorem open_ipair (hu : P.underlying k = some (.array 2 e)) (he : P.underlying e = some (.int .i64)) (hc1 : P.cellsOf e = 1) (hc2 : P.cellsOf k = 2) {W0 : World} {r : Reach} {b0 : Nat} {v : Value} (hok : Value.okWide P W0 r b0 k v)
    {d : DataW H} {ps : List MemPlace} (hd : DataW.Trod enc P W base sp held k v d ps) :
    ∃ a b : Int, v = .agg #[.int .i64 a, .int .i64 b] ∧ ps = [] ∧ (-9223372036854775808 ≤ a ∧ a ≤ 9223372036854775807) ∧ (-9223372036854775808 ≤ b ∧ b ≤ 9223372036854775807) := by
  simp only [Value.okWide, hu] at hok
  obtain ⟨cs, rfl, hs, _⟩ := hok
  obtain ⟨fuel, hf⟩ := hd
  obtain ⟨xs, m, rfl, hx, hl, hn, hel⟩ := DataW.trod_array hu hf
  have h0 := hel 0 (by omega)
  have h1 := hel 1 (by omega)
  rw [hc1] at h0 h1
  rw [hc2] at hs
  obtain ⟨l⟩ := cs
  match xs, hn with
  | [x0, x1], _ =>
    match l, hs with
    | [c0, c1], _ =>
      simp [Value.cells] at h0 h1
      obtain ⟨a, ea, rfl, wa⟩ := DataW.trod_int he h0
      obtain ⟨b, eb, rfl, wb⟩ := DataW.trod_int he h1
      simp at ea eb
      subst ea eb
      simp only [Prod.mk.injEq] at hx
      exact ⟨a, b, rfl, by simpa using hx.2, wf64 wa, wf64 wb⟩
end
section
variable {H : Type} {enc : TypeId × Value → H} {W : World} {base : Nat} {sp : Nat → Bool} {held : Bool}
theorem rat_parts {m : Nat} (l : List Value) (xs : List (DataW H × List MemPlace)) (hl : l.length = 3) (hn : xs.length = 3) (h0 : DataW.trod enc Tryz.prog W base sp held m 4 ((l.drop 0).take 1) = xs[0]?) (h1 : DataW.trod enc Tryz.prog W base sp held m 23 ((l.drop 1).take 1) = xs[1]?)
    (h2 : DataW.trod enc Tryz.prog W base sp held m 23 ((l.drop 2).take 1) = xs[2]?) :
    ∃ (s : Bool) (a b : List UInt8), l = [.bool s, S a, S b] ∧ xs.map (·.2) = [[], [], []] ∧ a.length ≤ maxLen ∧ b.length ≤ maxLen := by
  rcases l with _ | ⟨c0, _ | ⟨c1, _ | ⟨c2, _ | ⟨c3, l⟩⟩⟩⟩ <;> simp at hl
  rcases xs with _ | ⟨x0, _ | ⟨x1, _ | ⟨x2, _ | ⟨x3, xs⟩⟩⟩⟩ <;> simp at hn
  simp at h0 h1 h2
  obtain ⟨s, e0, rfl⟩ := DataW.trod_bool Tryz.underlying4 h0
  obtain ⟨a, e1, rfl, wa⟩ := DataW.trod_string Tryz.underlying23 h1
  obtain ⟨b, e2, rfl, wb⟩ := DataW.trod_string Tryz.underlying23 h2
  simp at e0 e1 e2
  subst e0 e1 e2
  obtain ⟨la, rfl, ya⟩ := str_cases a
  obtain ⟨lb, rfl, yb⟩ := str_cases b
  rw [ya] at wa
  rw [yb] at wb
  exact ⟨s, la, lb, rfl, rfl, wa, wb⟩
set_option maxRecDepth 100000 in
theorem open_rat {W0 : World} {r : Reach} {b0 : Nat} {v : Value} (hok : Value.okWide Tryz.prog W0 r b0 25 v)
    {d : DataW H} {ps : List MemPlace} (hd : DataW.Trod enc Tryz.prog W base sp held 25 v d ps) :
    ∃ (s : Bool) (a b : List UInt8), v = Rv s a b ∧ ps = [] ∧ a.length ≤ maxLen ∧ b.length ≤ maxLen := by
  simp only [Value.okWide, Tryz.underlying25] at hok
  obtain ⟨cs, rfl, hs, _⟩ := hok
  obtain ⟨fuel, hf⟩ := hd
  obtain ⟨xs, m, rfl, hx, hl, hn, hel⟩ := DataW.trod_struct Tryz.underlying25 hf
  have h0 : DataW.trod enc Tryz.prog W base sp held m 4 ((cs.toList.drop 0).take (Tryz.prog.cellsOf 4)) = xs[0]? := hel 0 _ rfl
  have h1 : DataW.trod enc Tryz.prog W base sp held m 23 ((cs.toList.drop 1).take (Tryz.prog.cellsOf 23)) = xs[1]? := hel 1 _ rfl
  have h2 : DataW.trod enc Tryz.prog W base sp held m 23 ((cs.toList.drop 2).take (Tryz.prog.cellsOf 23)) = xs[2]? := hel 2 _ rfl
  rw [show Tryz.prog.cellsOf 4 = 1 from by kernel_rfl] at h0
  rw [show Tryz.prog.cellsOf 23 = 1 from by kernel_rfl] at h1 h2
  rw [show Tryz.prog.cellsOf 25 = 3 from by kernel_rfl] at hs
  have hn3 : xs.length = 3 := hn
  obtain ⟨s, a, b, e, ex, wa, wb⟩ := rat_parts cs.toList xs (by simpa using hs) hn3 h0 h1 h2
  obtain rfl : cs = #[.bool s, S a, S b] := by
    obtain ⟨l⟩ := cs
    simp only at e
    rw [e]
  refine ⟨s, a, b, rfl, ?_, wa, wb⟩
  have hp : ps = (xs.map (·.2)).flatten := congrArg Prod.snd hx
  rw [hp, ex]
  rfl
end
end Go.Proofs.YtbpoghgokkpckaaGreatDoor
