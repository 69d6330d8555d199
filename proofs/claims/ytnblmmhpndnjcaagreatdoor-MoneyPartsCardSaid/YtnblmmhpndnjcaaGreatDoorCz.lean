/- What the rows of layer 4 share: the listed variables, the wrap that keeps the world's shape, arrays of three ints that come in. -/
import Derived.Test.YtnblmmhpndnjcaaGreatDoorCards
import Derived.Test.YtnblmmhpndnjcaaGreatDoorTie
import Derived.Test.YtnblmmhpndnjcaaGreatDoorAa
import Derived.Lay
import Derived.WalkKit
import Derived.ProofKit
import Derived.OpenShut
import Derived.ShutString
import Derived.ChangeOld
import Derived.Below
import Derived.LaidMore
import Derived.MakeChecks
import Derived.Stop.Joined
import Derived.Stop.LaidErr
import Derived.Lib.LaidTab
import Derived.Deep.DeepHandedRow
import Derived.HandedShaped
import Derived.Shelf.Vars
import Derived.WideKeyArr2
namespace Go.Proofs.YtnblmmhpndnjcaaGreatDoor
open Go.ChangeShapes Go.WideShapes Go.ChangeAt Go.WideElems Go.RowKit
theorem lz_own : ownKnob Tryz.prog.godebug = none := by kernel_rfl
theorem lz_laidOut : laidOutB Tryz.prog = true := by kernel_rfl
theorem lz_pow10 : (Rows.laid_internal_strconv_uint64pow10 : DataW Unit) = Lib.tabData .u64 Lib.pow10Tab := by kernel_rfl
theorem lz_glob : Tryz.prog.globalNamed "internal/strconv.uint64pow10" = some 10 := by kernel_rfl
theorem lz_globType : (Tryz.prog.globals[10]?).map (·.type) = some 217 := by kernel_rfl
theorem lz_cells1 : Tryz.prog.cellsOf 125 = 1 := by kernel_rfl
theorem lz_cells20 : Tryz.prog.cellsOf 217 = 20 := by kernel_rfl
theorem lz_zeroglob : Tryz.prog.globalNamed "tithing/ratio.zero" = some 2 := by kernel_rfl
theorem lz_zerotype : (Tryz.prog.globals[2]?).map (·.type) = some 26 := by kernel_rfl
theorem lz_zero0 : ((begin Tryz.prog (fun _ _ => 0) default).world.heap[2]?).bind Obj.row? = some (#[.bool false, S [], S []], 26) := by kernel_rfl
theorem lz_centglob : Tryz.prog.globalNamed "tithing/money.cent" = some 0 := by kernel_rfl
theorem lz_centtype : (Tryz.prog.globals[0]?).map (·.type) = some 26 := by kernel_rfl
theorem lz_cent0 : ((begin Tryz.prog (fun _ _ => 0) default).world.heap[0]?).bind Obj.row? = some (#[.bool false, S [], S []], 26) := by kernel_rfl
theorem lz_halfglob : Tryz.prog.globalNamed "tithing/money.half" = some 1 := by kernel_rfl
theorem lz_halftype : (Tryz.prog.globals[1]?).map (·.type) = some 26 := by kernel_rfl
theorem lz_half0 : ((begin Tryz.prog (fun _ _ => 0) default).world.heap[1]?).bind Obj.row? = some (#[.bool false, S [], S []], 26) := by kernel_rfl
theorem lz_m0 : ((begin Tryz.prog (fun _ _ => 0) default).world.heap[3]?).bind Obj.row? = some (#[.int .i64 0], 3) := by kernel_rfl
theorem lz_parts {W : World} {m : Nat} (l : List Value) (xs : List (DataW Unit × List MemPlace)) (hl : l.length = 3) (hn : xs.length = 3) (h0 : DataW.trod (fun _ => ()) Tryz.prog W 0 (fun _ => true) false m 4 ((l.drop 0).take 1) = xs[0]?) (h1 : DataW.trod (fun _ => ()) Tryz.prog W 0 (fun _ => true) false m 24 ((l.drop 1).take 1) = xs[1]?) (h2 : DataW.trod (fun _ => ()) Tryz.prog W 0 (fun _ => true) false m 24 ((l.drop 2).take 1) = xs[2]?) (a b : List UInt8) (hx : xs.map (·.1) = [.lit (.bool false), .lit (.string a), .lit (.string b)]) : l = [.bool false, S a, S b] := by
  rcases l with _ | ⟨c0, _ | ⟨c1, _ | ⟨c2, _ | ⟨c3, l⟩⟩⟩⟩ <;> simp at hl
  rcases xs with _ | ⟨x0, _ | ⟨x1, _ | ⟨x2, _ | ⟨x3, xs⟩⟩⟩⟩ <;> simp at hn
  simp at h0 h1 h2
  obtain ⟨b, eb, rfl⟩ := DataW.trod_bool Tryz.underlying4 h0
  obtain ⟨s1, e1, rfl, -⟩ := DataW.trod_string Tryz.underlying24 h1
  obtain ⟨s2, e2, rfl, -⟩ := DataW.trod_string Tryz.underlying24 h2
  simp at eb e1 e2
  subst eb e1 e2
  obtain ⟨⟨k1⟩⟩ := s1
  obtain ⟨⟨k2⟩⟩ := s2
  simp at hx
  obtain ⟨rfl, rfl, rfl⟩ := hx
  rfl
/-- zero, as the row lists it. -/
theorem lz_vzero {W : World} (hs : W.ShapedOpen Tryz.prog) {rest : List (String × DataW Unit)} (h : laidMet Tryz.prog (("tithing/ratio.zero", Rows.laid_tithing_ratio_zero) :: rest) W) : Blk W 2 26 [.bool false, S [], S [1]] := by
  obtain ⟨ps, ⟨g', t', cs, fuel, p, q, hg', ht', hvar, hd, _, _⟩, _⟩ := h
  obtain rfl := Option.some.inj (lz_zeroglob.symm.trans hg')
  obtain rfl := Option.some.inj (lz_zerotype.symm.trans ht')
  obtain ⟨cs0, hh, hsz, -⟩ := hs.1 _ _ _ (of_decide_eq_true (by kernel_rfl)) lz_zero0
  have hcs : cs = cs0 := by
    simp only [World.var?, hg', Option.bind_some, hh, Option.some.injEq] at hvar
    exact hvar.symm
  subst hcs
  obtain ⟨xs, m, rfl, hx, hl, hn, hf⟩ := DataW.trod_struct Tryz.underlying26 hd
  have h0 : DataW.trod (fun _ => ()) Tryz.prog W 0 (fun _ => true) false m 4 ((cs.toList.drop 0).take (Tryz.prog.cellsOf 4)) = xs[0]? := hf 0 _ rfl
  have h1 : DataW.trod (fun _ => ()) Tryz.prog W 0 (fun _ => true) false m 24 ((cs.toList.drop 1).take (Tryz.prog.cellsOf 24)) = xs[1]? := hf 1 _ rfl
  have h2 : DataW.trod (fun _ => ()) Tryz.prog W 0 (fun _ => true) false m 24 ((cs.toList.drop 2).take (Tryz.prog.cellsOf 24)) = xs[2]? := hf 2 _ rfl
  rw [show Tryz.prog.cellsOf 4 = 1 from by kernel_rfl] at h0
  rw [show Tryz.prog.cellsOf 24 = 1 from by kernel_rfl] at h1 h2
  have hx1 : xs.map (·.1) = [.lit (.bool false), .lit (.string []), .lit (.string [1])] := (DataW.agg.inj (congrArg Prod.fst hx)).symm
  have hl3 : cs.toList.length = 3 := hsz
  have hfin := lz_parts cs.toList xs hl3 hn h0 h1 h2 [] [1] hx1
  unfold Blk
  rw [hh, ← hfin]
/-- cent, as the row lists it. -/
theorem lz_vcent {W : World} (hs : W.ShapedOpen Tryz.prog) {rest : List (String × DataW Unit)} (h : laidMet Tryz.prog (("tithing/money.cent", Rows.laid_tithing_money_cent) :: rest) W) : Blk W 0 26 [.bool false, S [1], S [100]] := by
  obtain ⟨ps, ⟨g', t', cs, fuel, p, q, hg', ht', hvar, hd, _, _⟩, _⟩ := h
  obtain rfl := Option.some.inj (lz_centglob.symm.trans hg')
  obtain rfl := Option.some.inj (lz_centtype.symm.trans ht')
  obtain ⟨cs0, hh, hsz, -⟩ := hs.1 _ _ _ (of_decide_eq_true (by kernel_rfl)) lz_cent0
  have hcs : cs = cs0 := by
    simp only [World.var?, hg', Option.bind_some, hh, Option.some.injEq] at hvar
    exact hvar.symm
  subst hcs
  obtain ⟨xs, m, rfl, hx, hl, hn, hf⟩ := DataW.trod_struct Tryz.underlying26 hd
  have h0 : DataW.trod (fun _ => ()) Tryz.prog W 0 (fun _ => true) false m 4 ((cs.toList.drop 0).take (Tryz.prog.cellsOf 4)) = xs[0]? := hf 0 _ rfl
  have h1 : DataW.trod (fun _ => ()) Tryz.prog W 0 (fun _ => true) false m 24 ((cs.toList.drop 1).take (Tryz.prog.cellsOf 24)) = xs[1]? := hf 1 _ rfl
  have h2 : DataW.trod (fun _ => ()) Tryz.prog W 0 (fun _ => true) false m 24 ((cs.toList.drop 2).take (Tryz.prog.cellsOf 24)) = xs[2]? := hf 2 _ rfl
  rw [show Tryz.prog.cellsOf 4 = 1 from by kernel_rfl] at h0
  rw [show Tryz.prog.cellsOf 24 = 1 from by kernel_rfl] at h1 h2
  have hx1 : xs.map (·.1) = [.lit (.bool false), .lit (.string [1]), .lit (.string [100])] := (DataW.agg.inj (congrArg Prod.fst hx)).symm
  have hl3 : cs.toList.length = 3 := hsz
  have hfin := lz_parts cs.toList xs hl3 hn h0 h1 h2 [1] [100] hx1
  unfold Blk
  rw [hh, ← hfin]
/-- half, as the row lists it. -/
theorem lz_vhalf {W : World} (hs : W.ShapedOpen Tryz.prog) {rest : List (String × DataW Unit)} (h : laidMet Tryz.prog (("tithing/money.half", Rows.laid_tithing_money_half) :: rest) W) : Blk W 1 26 [.bool false, S [1], S [2]] := by
  obtain ⟨ps, ⟨g', t', cs, fuel, p, q, hg', ht', hvar, hd, _, _⟩, _⟩ := h
  obtain rfl := Option.some.inj (lz_halfglob.symm.trans hg')
  obtain rfl := Option.some.inj (lz_halftype.symm.trans ht')
  obtain ⟨cs0, hh, hsz, -⟩ := hs.1 _ _ _ (of_decide_eq_true (by kernel_rfl)) lz_half0
  have hcs : cs = cs0 := by
    simp only [World.var?, hg', Option.bind_some, hh, Option.some.injEq] at hvar
    exact hvar.symm
  subst hcs
  obtain ⟨xs, m, rfl, hx, hl, hn, hf⟩ := DataW.trod_struct Tryz.underlying26 hd
  have h0 : DataW.trod (fun _ => ()) Tryz.prog W 0 (fun _ => true) false m 4 ((cs.toList.drop 0).take (Tryz.prog.cellsOf 4)) = xs[0]? := hf 0 _ rfl
  have h1 : DataW.trod (fun _ => ()) Tryz.prog W 0 (fun _ => true) false m 24 ((cs.toList.drop 1).take (Tryz.prog.cellsOf 24)) = xs[1]? := hf 1 _ rfl
  have h2 : DataW.trod (fun _ => ()) Tryz.prog W 0 (fun _ => true) false m 24 ((cs.toList.drop 2).take (Tryz.prog.cellsOf 24)) = xs[2]? := hf 2 _ rfl
  rw [show Tryz.prog.cellsOf 4 = 1 from by kernel_rfl] at h0
  rw [show Tryz.prog.cellsOf 24 = 1 from by kernel_rfl] at h1 h2
  have hx1 : xs.map (·.1) = [.lit (.bool false), .lit (.string [1]), .lit (.string [2])] := (DataW.agg.inj (congrArg Prod.fst hx)).symm
  have hl3 : cs.toList.length = 3 := hsz
  have hfin := lz_parts cs.toList xs hl3 hn h0 h1 h2 [1] [2] hx1
  unfold Blk
  rw [hh, ← hfin]
/-- That MaxLen holds some int. -/
theorem lz_max {W : World} (hs : W.ShapedOpen Tryz.prog) : ∃ m, W.cell? ⟨3, 0, none⟩ = some (.int .i64 m) ∧ 3 < W.heap.size := by
  obtain ⟨m, hm⟩ := cell_of_shapedOpen_int hs (of_decide_eq_true (by kernel_rfl)) lz_m0 rfl (by kernel_rfl) (by kernel_rfl) Tryz.underlying3
  obtain ⟨cs0, hh, -, -⟩ := hs.1 _ _ _ (of_decide_eq_true (by kernel_rfl)) lz_m0
  exact ⟨m, hm, (Array.getElem?_eq_some_iff.1 hh).1⟩
/-- What the listed variables hold. -/
theorem lz_tm {W : World} (hs : W.ShapedOpen Tryz.prog) (h : laidMetH Tryz.prog Rows.moneyOrderRow.laid W) : Tm W := by
  rw [MakeChecks.laidMetH_plain _ _ _ (by kernel_rfl)] at h
  have h2 := laidMet.tail (laidMet.tail h)
  have h3 := laidMet.tail (laidMet.tail (laidMet.tail (laidMet.tail h2)))
  have h4 := laidMet.tail h3
  have h5 := laidMet.tail h4
  rw [lz_pow10] at h2
  exact ⟨⟨Lib.tabIs_of_head lz_glob lz_globType Tryz.underlying217 Tryz.underlying125 lz_cells1 lz_cells20 h2, lz_vzero hs h3, lz_max hs⟩, lz_vcent hs h4, lz_vhalf hs h5⟩
/-- The plain wrap of a row that lists variables, the world's shape kept. -/
theorem lz_wrap {H : Type} {enc : TypeId × Value → H} {a : Assume} {C : Checked} {os : Os} {f : FuncId} {fn : Func} {s : ChangeSpec} {conds : List PathCond} {apart fresh handsOn again : Bool} {X : World → Array Value → Prop}
    (hX : ∀ (w w' : World) (args : Array Value), w.heap = w'.heap → X w args → X w' args)
    (own : ownKnob C.prog.godebug = none) (started : os.Started) (noInit : C.prog.inits.idxOf? f = none) (hfn : C.prog.funcs[f]? = some fn)
    (witness : ∃ (w : World) (tape : Tape) (i : Input), w.os = os ∧ (w.forCall tape i).Shaped C.prog ∧ i.vars = [] ∧ Input.okWide C.prog (w.forCall tape i) .any w.heap.size f i ∧
      ((s.pre enc C.prog fn conds apart (w.forCall tape i).memory i.args ∧ X (w.forCall tape i).memory i.args) ∧ sizedMet enc C.prog fn (OpenSpec.ofChange s) apart (w.forCall tape i).memory i.args) ∧ a.holds C.prog (lone (Frame.enter C.prog f i.args .normal) [] (w.forCall tape i)))
    (contract : ∀ (W : World) (base : Nat) (args : Array Value) (ds gs : List (DataW H)) (before : List MemPlace),
      (∀ (j : Nat) t v, fn.params[j]? = some t → args[j]? = some v → Value.okWide C.prog W .any base t v) →
      DataW.Whole enc C.prog fn.params.toList s.vars apart W args.toList ds gs before →
      X W args → W.ShapedOpen C.prog →
      Calls C.prog f args W fun e W' => ∃ v, e = .returned v ∧ s.post enc C.prog fn apart fresh handsOn again W args v W') :
    ReturnsInHanded a C os f .any (fun w args => (s.pre enc C.prog fn conds apart w args ∧ X w args) ∧ sizedMet enc C.prog fn (OpenSpec.ofChange s) apart w args) (s.post enc C.prog fn apart fresh handsOn again) := by
  refine returnsInHanded_of_calls own started noInit witness ?_
  intro w tape i _ hsh _ hok hpre hholds
  obtain ⟨_, _, _, fn', hfn', _, _, _, _, hval⟩ := hok
  have e : fn' = fn := Option.some.inj (hfn'.symm.trans hfn)
  subst e
  obtain ⟨⟨⟨ds, gs, before, hw, hc⟩, hx⟩, hz⟩ := hpre
  have hw' := DataW.Whole.of_heap (w' := w.forCall tape i) (by rfl) hw
  refine (contract (w.forCall tape i) w.heap.size i.args ds gs before hval hw' (hX _ _ _ (by rfl) hx) hsh).mono fun e W' ⟨v, he, hp⟩ => ?_
  subst he
  exact ChangeSpec.post_blind hp
section
variable {H : Type} {enc : TypeId × Value → H} {P : Program} {k e : TypeId} {W : World} {base : Nat} {sp : Nat → Bool} {held : Bool}
theorem wf64 {a : Int} (h : (Lit.int .i64 a).wf = true) : -9223372036854775808 ≤ a ∧ a ≤ 9223372036854775807 := by
  have h : IntKind.i64.min ≤ a ∧ a ≤ IntKind.i64.max := by simpa [Lit.wf] using h
  exact h
theorem open_triple (hu : P.underlying k = some (.array 3 e)) (he : P.underlying e = some (.int .i64)) (hc1 : P.cellsOf e = 1) (hc2 : P.cellsOf k = 3) {W0 : World} {r : Reach} {b0 : Nat} {v : Value} (hok : Value.okWide P W0 r b0 k v)
    {d : DataW H} {ps : List MemPlace} (hd : DataW.Trod enc P W base sp held k v d ps) :
    ∃ a b c : Int, v = .agg #[.int .i64 a, .int .i64 b, .int .i64 c] ∧ ps = [] ∧ (-9223372036854775808 ≤ a ∧ a ≤ 9223372036854775807) ∧ (-9223372036854775808 ≤ b ∧ b ≤ 9223372036854775807) ∧ (-9223372036854775808 ≤ c ∧ c ≤ 9223372036854775807) := by
  simp only [Value.okWide, hu] at hok
  obtain ⟨cs, rfl, hs, _⟩ := hok
  obtain ⟨fuel, hf⟩ := hd
  obtain ⟨xs, m, rfl, hx, hl, hn, hel⟩ := DataW.trod_array hu hf
  have h0 := hel 0 (by omega)
  have h1 := hel 1 (by omega)
  have h2 := hel 2 (by omega)
  rw [hc1] at h0 h1 h2
  rw [hc2] at hs
  obtain ⟨l⟩ := cs
  match xs, hn with
  | [x0, x1, x2], _ =>
    match l, hs with
    | [c0, c1, c2], _ =>
      simp [Value.cells] at h0 h1 h2
      obtain ⟨a, ea, rfl, wa⟩ := DataW.trod_int he h0
      obtain ⟨b, eb, rfl, wb⟩ := DataW.trod_int he h1
      obtain ⟨c, ec, rfl, wc⟩ := DataW.trod_int he h2
      simp at ea eb ec
      subst ea eb ec
      simp only [Prod.mk.injEq] at hx
      exact ⟨a, b, c, rfl, by simpa using hx.2, wf64 wa, wf64 wb, wf64 wc⟩
end
end Go.Proofs.YtnblmmhpndnjcaaGreatDoor
