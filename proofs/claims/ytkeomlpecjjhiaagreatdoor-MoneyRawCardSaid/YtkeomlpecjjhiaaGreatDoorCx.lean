/- What rows of layer 4 ask besides: a slice of triples that comes in. -/
import Derived.Test.YtkeomlpecjjhiaaGreatDoorCards
import Derived.Test.YtkeomlpecjjhiaaGreatDoorTie
import Derived.Lay
import Derived.WalkKit
import Derived.ProofKit
import Derived.OpenShut
import Derived.ShutString
import Derived.ChangeOld
import Derived.Below
import Derived.LaidMore
import Derived.MakeChecks
import Derived.Stop.Joined
import Derived.Stop.LaidErr
import Derived.Lib.LaidTab
import Derived.Deep.DeepHandedRow
import Derived.HandedShaped
import Derived.Shelf.Vars
import Derived.WideKeyArr2
import Derived.Test.YtkeomlpecjjhiaaGreatDoorWt
import Derived.Deep.Slices
namespace Go.Proofs.YtkeomlpecjjhiaaGreatDoor
open Go.ChangeShapes Go.WideShapes Go.ChangeAt Go.WideElems Go.RowKit
theorem lz_own : ownKnob Tryz.prog.godebug = none := by kernel_rfl
theorem lz_laidOut : laidOutB Tryz.prog = true := by kernel_rfl
theorem lz_pow10 : (Rows.laid_internal_strconv_uint64pow10 : DataW Unit) = Lib.tabData .u64 Lib.pow10Tab := by kernel_rfl
theorem lz_glob : Tryz.prog.globalNamed "internal/strconv.uint64pow10" = some 10 := by kernel_rfl
theorem lz_globType : (Tryz.prog.globals[10]?).map (·.type) = some 217 := by kernel_rfl
theorem lz_cells1 : Tryz.prog.cellsOf 125 = 1 := by kernel_rfl
theorem lz_cells20 : Tryz.prog.cellsOf 217 = 20 := by kernel_rfl
theorem lz_zeroglob : Tryz.prog.globalNamed "tithing/ratio.zero" = some 2 := by kernel_rfl
theorem lz_zerotype : (Tryz.prog.globals[2]?).map (·.type) = some 26 := by kernel_rfl
theorem lz_zero0 : ((begin Tryz.prog (fun _ _ => 0) default).world.heap[2]?).bind Obj.row? = some (#[.bool false, S [], S []], 26) := by kernel_rfl
theorem lz_centglob : Tryz.prog.globalNamed "tithing/money.cent" = some 0 := by kernel_rfl
theorem lz_centtype : (Tryz.prog.globals[0]?).map (·.type) = some 26 := by kernel_rfl
theorem lz_cent0 : ((begin Tryz.prog (fun _ _ => 0) default).world.heap[0]?).bind Obj.row? = some (#[.bool false, S [], S []], 26) := by kernel_rfl
theorem lz_halfglob : Tryz.prog.globalNamed "tithing/money.half" = some 1 := by kernel_rfl
theorem lz_halftype : (Tryz.prog.globals[1]?).map (·.type) = some 26 := by kernel_rfl
theorem lz_half0 : ((begin Tryz.prog (fun _ _ => 0) default).world.heap[1]?).bind Obj.row? = some (#[.bool false, S [], S []], 26) := by kernel_rfl
theorem lz_m0 : ((begin Tryz.prog (fun _ _ => 0) default).world.heap[3]?).bind Obj.row? = some (#[.int .i64 0], 3) := by kernel_rfl
theorem lz_parts {W : World} {m : Nat} (l : List Value) (xs : List (DataW Unit × List MemPlace)) (hl : l.length = 3) (hn : xs.length = 3) (h0 : DataW.trod (fun _ => ()) Tryz.prog W 0 (fun _ => true) false m 4 ((l.drop 0).take 1) = xs[0]?) (h1 : DataW.trod (fun _ => ()) Tryz.prog W 0 (fun _ => true) false m 24 ((l.drop 1).take 1) = xs[1]?) (h2 : DataW.trod (fun _ => ()) Tryz.prog W 0 (fun _ => true) false m 24 ((l.drop 2).take 1) = xs[2]?) (a b : List UInt8) (hx : xs.map (·.1) = [.lit (.bool false), .lit (.string a), .lit (.string b)]) : l = [.bool false, S a, S b] := by
 rcases l with _ | ⟨c0, _ | ⟨c1, _ | ⟨c2, _ | ⟨c3, l⟩⟩⟩⟩ <;> simp at hl
 rcases xs with _ | ⟨x0, _ | ⟨x1, _ | ⟨x2, _ | ⟨x3, xs⟩⟩⟩⟩ <;> simp at hn
 simp at h0 h1 h2
 obtain ⟨b, eb, rfl⟩ := DataW.trod_bool Tryz.underlying4 h0
 obtain ⟨s1, e1, rfl, -⟩ := DataW.trod_string Tryz.underlying24 h1
 obtain ⟨s2, e2, rfl, -⟩ := DataW.trod_string Tryz.underlying24 h2
 simp at eb e1 e2
 subst eb e1 e2
 obtain ⟨⟨k1⟩⟩ := s1
 obtain ⟨⟨k2⟩⟩ := s2
 simp at hx
 obtain ⟨rfl, rfl, rfl⟩ := hx
 rfl
theorem lz_vzero {W : World} (hs : W.ShapedOpen Tryz.prog) {rest : List (String × DataW Unit)} (h : laidMet Tryz.prog (("tithing/ratio.zero", Rows.laid_tithing_ratio_zero) :: rest) W) : Blk W 2 26 [.bool false, S [], S [1]] := by
 obtain ⟨ps, ⟨g', t', cs, fuel, p, q, hg', ht', hvar, hd, _, _⟩, _⟩ := h
 obtain rfl := Option.some.inj (lz_zeroglob.symm.trans hg')
 obtain rfl := Option.some.inj (lz_zerotype.symm.trans ht')
 obtain ⟨cs0, hh, hsz, -⟩ := hs.1 _ _ _ (of_decide_eq_true (by kernel_rfl)) lz_zero0
 have hcs : cs = cs0 := by
  simp only [World.var?, hg', Option.bind_some, hh, Option.some.injEq] at hvar
  exact hvar.symm
 subst hcs
 obtain ⟨xs, m, rfl, hx, hl, hn, hf⟩ := DataW.trod_struct Tryz.underlying26 hd
 have h0 : DataW.trod (fun _ => ()) Tryz.prog W 0 (fun _ => true) false m 4 ((cs.toList.drop 0).take (Tryz.prog.cellsOf 4)) = xs[0]? := hf 0 _ rfl
 have h1 : DataW.trod (fun _ => ()) Tryz.prog W 0 (fun _ => true) false m 24 ((cs.toList.drop 1).take (Tryz.prog.cellsOf 24)) = xs[1]? := hf 1 _ rfl
 have h2 : DataW.trod (fun _ => ()) Tryz.prog W 0 (fun _ => true) false m 24 ((cs.toList.drop 2).take (Tryz.prog.cellsOf 24)) = xs[2]? := hf 2 _ rfl
 rw [show Tryz.prog.cellsOf 4 = 1 from by kernel_rfl] at h0
 rw [show Tryz.prog.cellsOf 24 = 1 from by kernel_rfl] at h1 h2
 have hx1 : xs.map (·.1) = [.lit (.bool false), .lit (.string []), .lit (.string [1])] := (DataW.agg.inj (congrArg Prod.fst hx)).symm
 have hl3 : cs.toList.length = 3 := hsz
 have hfin := lz_parts cs.toList xs hl3 hn h0 h1 h2 [] [1] hx1
 unfold Blk
 rw [hh, ← hfin]
theorem lz_vcent {W : World} (hs : W.ShapedOpen Tryz.prog) {rest : List (String × DataW Unit)} (h : laidMet Tryz.prog (("tithing/money.cent", Rows.laid_tithing_money_cent) :: rest) W) : Blk W 0 26 [.bool false, S [1], S [100]] := by
 obtain ⟨ps, ⟨g', t', cs, fuel, p, q, hg', ht', hvar, hd, _, _⟩, _⟩ := h
 obtain rfl := Option.some.inj (lz_centglob.symm.trans hg')
 obtain rfl := Option.some.inj (lz_centtype.symm.trans ht')
 obtain ⟨cs0, hh, hsz, -⟩ := hs.1 _ _ _ (of_decide_eq_true (by kernel_rfl)) lz_cent0
 have hcs : cs = cs0 := by
  simp only [World.var?, hg', Option.bind_some, hh, Option.some.injEq] at hvar
  exact hvar.symm
 subst hcs
 obtain ⟨xs, m, rfl, hx, hl, hn, hf⟩ := DataW.trod_struct Tryz.underlying26 hd
 have h0 : DataW.trod (fun _ => ()) Tryz.prog W 0 (fun _ => true) false m 4 ((cs.toList.drop 0).take (Tryz.prog.cellsOf 4)) = xs[0]? := hf 0 _ rfl
 have h1 : DataW.trod (fun _ => ()) Tryz.prog W 0 (fun _ => true) false m 24 ((cs.toList.drop 1).take (Tryz.prog.cellsOf 24)) = xs[1]? := hf 1 _ rfl
 have h2 : DataW.trod (fun _ => ()) Tryz.prog W 0 (fun _ => true) false m 24 ((cs.toList.drop 2).take (Tryz.prog.cellsOf 24)) = xs[2]? := hf 2 _ rfl
 rw [show Tryz.prog.cellsOf 4 = 1 from by kernel_rfl] at h0
 rw [show Tryz.prog.cellsOf 24 = 1 from by kernel_rfl] at h1 h2
 have hx1 : xs.map (·.1) = [.lit (.bool false), .lit (.string [1]), .lit (.string [100])] := (DataW.agg.inj (congrArg Prod.fst hx)).symm
 have hl3 : cs.toList.length = 3 := hsz
 have hfin := lz_parts cs.toList xs hl3 hn h0 h1 h2 [1] [100] hx1
 unfold Blk
 rw [hh, ← hfin]
theorem lz_vhalf {W : World} (hs : W.ShapedOpen Tryz.prog) {rest : List (String × DataW Unit)} (h : laidMet Tryz.prog (("tithing/money.half", Rows.laid_tithing_money_half) :: rest) W) : Blk W 1 26 [.bool false, S [1], S [2]] := by
 obtain ⟨ps, ⟨g', t', cs, fuel, p, q, hg', ht', hvar, hd, _, _⟩, _⟩ := h
 obtain rfl := Option.some.inj (lz_halfglob.symm.trans hg')
 obtain rfl := Option.some.inj (lz_halftype.symm.trans ht')
 obtain ⟨cs0, hh, hsz, -⟩ := hs.1 _ _ _ (of_decide_eq_true (by kernel_rfl)) lz_half0
 have hcs : cs = cs0 := by
  simp only [World.var?, hg', Option.bind_some, hh, Option.some.injEq] at hvar
  exact hvar.symm
 subst hcs
 obtain ⟨xs, m, rfl, hx, hl, hn, hf⟩ := DataW.trod_struct Tryz.underlying26 hd
 have h0 : DataW.trod (fun _ => ()) Tryz.prog W 0 (fun _ => true) false m 4 ((cs.toList.drop 0).take (Tryz.prog.cellsOf 4)) = xs[0]? := hf 0 _ rfl
 have h1 : DataW.trod (fun _ => ()) Tryz.prog W 0 (fun _ => true) false m 24 ((cs.toList.drop 1).take (Tryz.prog.cellsOf 24)) = xs[1]? := hf 1 _ rfl
 have h2 : DataW.trod (fun _ => ()) Tryz.prog W 0 (fun _ => true) false m 24 ((cs.toList.drop 2).take (Tryz.prog.cellsOf 24)) = xs[2]? := hf 2 _ rfl
 rw [show Tryz.prog.cellsOf 4 = 1 from by kernel_rfl] at h0
 rw [show Tryz.prog.cellsOf 24 = 1 from by kernel_rfl] at h1 h2
 have hx1 : xs.map (·.1) = [.lit (.bool false), .lit (.string [1]), .lit (.string [2])] := (DataW.agg.inj (congrArg Prod.fst hx)).symm
 have hl3 : cs.toList.length = 3 := hsz
 have hfin := lz_parts cs.toList xs hl3 hn h0 h1 h2 [1] [2] hx1
 unfold Blk
 rw [hh, ← hfin]
theorem lz_max {W : World} (hs : W.ShapedOpen Tryz.prog) : ∃ m, W.cell? ⟨3, 0, none⟩ = some (.int .i64 m) ∧ 3 < W.heap.size := by
 obtain ⟨m, hm⟩ := cell_of_shapedOpen_int hs (of_decide_eq_true (by kernel_rfl)) lz_m0 rfl (by kernel_rfl) (by kernel_rfl) Tryz.underlying3
 obtain ⟨cs0, hh, -, -⟩ := hs.1 _ _ _ (of_decide_eq_true (by kernel_rfl)) lz_m0
 exact ⟨m, hm, (Array.getElem?_eq_some_iff.1 hh).1⟩
theorem lz_tm {W : World} (hs : W.ShapedOpen Tryz.prog) (h : laidMetH Tryz.prog Rows.moneyOrderRow.laid W) : Tm W := by
 rw [MakeChecks.laidMetH_plain _ _ _ (by kernel_rfl)] at h
 have h2 := laidMet.tail (laidMet.tail h)
 have h3 := laidMet.tail (laidMet.tail (laidMet.tail (laidMet.tail h2)))
 have h4 := laidMet.tail h3
 have h5 := laidMet.tail h4
 rw [lz_pow10] at h2
 exact ⟨⟨Lib.tabIs_of_head lz_glob lz_globType Tryz.underlying217 Tryz.underlying125 lz_cells1 lz_cells20 h2, lz_vzero hs h3, lz_max hs⟩, lz_vcent hs h4, lz_vhalf hs h5⟩
theorem lz_wrap {H : Type} {enc : TypeId × Value → H} {a : Assume} {C : Checked} {os : Os} {f : FuncId} {fn : Func} {s : ChangeSpec} {conds : List PathCond} {apart fresh handsOn again : Bool} {X : World → Array Value → Prop}
  (hX : ∀ (w w' : World) (args : Array Value), w.heap = w'.heap → X w args → X w' args)
  (own : ownKnob C.prog.godebug = none) (started : os.Started) (noInit : C.prog.inits.idxOf? f = none) (hfn : C.prog.funcs[f]? = some fn)
  (witness : ∃ (w : World) (tape : Tape) (i : Input), w.os = os ∧ (w.forCall tape i).Shaped C.prog ∧ i.vars = [] ∧ Input.okWide C.prog (w.forCall tape i) .any w.heap.size f i ∧
   ((s.pre enc C.prog fn conds apart (w.forCall tape i).memory i.args ∧ X (w.forCall tape i).memory i.args) ∧ sizedMet enc C.prog fn (OpenSpec.ofChange s) apart (w.forCall tape i).memory i.args) ∧ a.holds C.prog (lone (Frame.enter C.prog f i.args .normal) [] (w.forCall tape i)))
  (contract : ∀ (W : World) (base : Nat) (args : Array Value) (ds gs : List (DataW H)) (before : List MemPlace),
   (∀ (j : Nat) t v, fn.params[j]? = some t → args[j]? = some v → Value.okWide C.prog W .any base t v) →
   DataW.Whole enc C.prog fn.params.toList s.vars apart W args.toList ds gs before →
   X W args → W.ShapedOpen C.prog →
   Calls C.prog f args W fun e W' => ∃ v, e = .returned v ∧ s.post enc C.prog fn apart fresh handsOn again W args v W') :
  ReturnsInHanded a C os f .any (fun w args => (s.pre enc C.prog fn conds apart w args ∧ X w args) ∧ sizedMet enc C.prog fn (OpenSpec.ofChange s) apart w args) (s.post enc C.prog fn apart fresh handsOn again) := by
 refine returnsInHanded_of_calls own started noInit witness ?_
 intro w tape i _ hsh _ hok hpre hholds
 obtain ⟨_, _, _, fn', hfn', _, _, _, _, hval⟩ := hok
 have e : fn' = fn := Option.some.inj (hfn'.symm.trans hfn)
 subst e
 obtain ⟨⟨⟨ds, gs, before, hw, hc⟩, hx⟩, hz⟩ := hpre
 have hw' := DataW.Whole.of_heap (w' := w.forCall tape i) (by rfl) hw
 refine (contract (w.forCall tape i) w.heap.size i.args ds gs before hval hw' (hX _ _ _ (by rfl) hx) hsh).mono fun e W' ⟨v, he, hp⟩ => ?_
 subst he
 exact ChangeSpec.post_blind hp
section
variable {H : Type} {enc : TypeId × Value → H} {P : Program} {k e : TypeId} {W : World} {base : Nat} {sp : Nat → Bool} {held : Bool}
theorem wf64 {a : Int} (h : (Lit.int .i64 a).wf = true) : -9223372036854775808 ≤ a ∧ a ≤ 9223372036854775807 := by
 have h : IntKind.i64.min ≤ a ∧ a ≤ IntKind.i64.max := by simpa [Lit.wf] using h
 exact h
end
open Go.Deep Go.ChangeShapes Go.WideShapes Go.ChangeAt Go.WideElems Go.RowKit
theorem ye_plain (g o j : Nat) : (⟨g, o, none⟩ : Addr).add j = ⟨g, o + j, none⟩ := by simp [Addr.add]
theorem ye_lt {w : World} {a : Addr} {v : Value} (h : w.cell? a = some v) : a.block < w.heap.size := by
 rcases Nat.lt_or_ge a.block w.heap.size with q | q
 ·exact q
 ·unfold World.cell? at h
  rw [Array.getElem?_eq_none q] at h
  simp at h
section
variable {H : Type} {enc : TypeId × Value → H} {P : Program} {t k e : TypeId} {W : World} {base : Nat} {sp : Nat → Bool} {held : Bool}
theorem open_triples (ht : P.underlying t = some (.slice k)) (hu : P.underlying k = some (.array 3 e)) (he : P.underlying e = some (.int .i64)) (hc1 : P.cellsOf e = 1) (hc3 : P.cellsOf k = 3) {W0 : World} {r : Reach} {b0 : Nat} {v : Value} (hok : Value.okWide P W0 r b0 t v)
  {d : DataW H} {ps : List MemPlace} (hd : DataW.Trod enc P W base sp held t v d ps) :
  ∃ (p : Option Addr) (n c : Nat) (xs : List (Int × Int × Int)), v = .slice p n c ∧ Ti W p n xs ∧ n ≤ 9223372036854775807 := by
 obtain ⟨a, len, cap, rfl⟩ := okWide_slice ht hok
 obtain ⟨fuel, hf⟩ := hd
 rcases open_slice ht hf with ⟨h0, _⟩ | ⟨a', len', cap', m, n, D, Pl, hcs, hb, hl, hm, hmm, _, hx⟩
 ·simp [Value.cells] at h0
  obtain ⟨rfl, rfl, rfl⟩ := h0
  exact ⟨none, 0, 0, [], rfl, ⟨rfl, by simp, fun q => by omega⟩, by omega⟩
 ·simp [Value.cells] at hcs
  obtain ⟨rfl, rfl, rfl⟩ := hcs
  have hlm : len ≤ m := by rw [hmm]; split <;> omega
  have each : ∀ i, i < len → ∃ q : Int × Int × Int, (W.cell? (a'.add (i * 3)) = some (.int .i64 q.1) ∧ W.cell? ((a'.add (i * 3)).add 1) = some (.int .i64 q.2.1) ∧ W.cell? ((a'.add (i * 3)).add 2) = some (.int .i64 q.2.2)) ∧ i64q q.1 ∧ i64q q.2.1 ∧ i64q q.2.2 := by
   intro i hi
   obtain ⟨cs', h1, h2⟩ := hx i (by omega)
   rw [hc3] at h1
   obtain ⟨_, hlen, hcell⟩ := World.cells?_some h1
   obtain ⟨xs, k', hk, hxy, _, hxl, hel⟩ := DataW.trod_array hu h2
   have e0 := hel 0 (by omega)
   have e1 := hel 1 (by omega)
   have e2 := hel 2 (by omega)
   rw [hc1] at e0 e1 e2
   match xs, hxl, cs', hlen with
   | [y0, y1, y2], _, [v0, v1, v2], _ =>
    simp at e0 e1 e2
    obtain ⟨x, ex, _, wx⟩ := DataW.trod_int he e0
    obtain ⟨y, ey, _, wy⟩ := DataW.trod_int he e1
    obtain ⟨z, ez, _, wz⟩ := DataW.trod_int he e2
    simp at ex ey ez
    subst ex ey ez
    have b : ∀ u : Int, (Lit.int .i64 u).wf = true → i64q u := fun u h => by
     have h : IntKind.i64.min ≤ u ∧ u ≤ IntKind.i64.max := by simpa [Lit.wf] using h
     exact h
    exact ⟨(x, y, z), ⟨by have := hcell 0 (by omega); simpa [Addr.add] using this, by have := hcell 1 (by omega); simpa using this, by have := hcell 2 (by omega); simpa using this⟩, b x wx, b y wy, b z wz⟩
  obtain ⟨q, hq⟩ := choose_lt each
  refine ⟨some a', len, cap, (List.range len).map q, rfl, ⟨by simp, fun x hx => ?_, fun hpos => ?_⟩, by unfold maxLen at hm; omega⟩
  ·obtain ⟨i, hi, rfl⟩ := List.mem_map.1 hx
   exact (hq i (List.mem_range.1 hi)).2
  obtain ⟨b, off, spot⟩ := a'
  have h00 := (hq 0 hpos).1.1
  have hs : spot = none := by simpa [Addr.add] using World.cell?_spot h00
  subst hs
  refine ⟨b, off, rfl, by have := ye_lt h00; rw [ye_plain] at this; exact this, fun i x hx => ?_⟩
  have hi : i < len := by have := (List.getElem?_eq_some_iff.1 hx).1; simpa using this
  have hxe : x = q i := by
   rw [List.getElem?_map, List.getElem?_range hi] at hx
   exact (Option.some.inj hx).symm
  subst hxe
  obtain ⟨⟨g0, g1, g2⟩, _⟩ := hq i hi
  rw [ye_plain] at g0
  rw [ye_plain, ye_plain] at g1 g2
  exact ⟨g0, g1, g2⟩
end
end Go.Proofs.YtkeomlpecjjhiaaGreatDoor
