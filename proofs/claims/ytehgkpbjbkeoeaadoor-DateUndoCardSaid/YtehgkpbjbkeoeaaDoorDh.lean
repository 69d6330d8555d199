/- Package date's written; a strings.Builder's copyCheck and WriteString in this program. -/
import Derived.Test.YtehgkpbjbkeoeaaDoorDg
namespace Go.Proofs.YtehgkpbjbkeoeaaDoor
open Go.RowKit Go.Shelf
/-- Digits of the fields of a date. -/
structure Dat (y m d : Int) : Prop where
  y0 : 0 ≤ y
  y1 : y ≤ 99999
  m0 : 0 ≤ m
  m1 : m ≤ 99999
  d0 : 0 ≤ d
  d1 : d ≤ 99999
set_option maxRecDepth 100000 in
set_option maxHeartbeats 800000 in
theorem C_written {y m d : Int} (hd : Dat y m d) {p t : List UInt8} (hp : Lay.Ok p) (ht : Lay.wr y m d p = t) (w : World) (hw : Tw w) :
    Calls Tryd.prog 28 #[.agg #[iz y, iz m, iz d], S p] w (Yd w (S t)) := by
  have HC := Lib.hid (show Ch w.heap.size none1 w (w.alloc (.cells #[iz y, iz m, iz d] 53 (0, 0))) from (Ch.refl _ _ _).alloc (Nat.le_refl _) _)
  cases hp with
  | y =>
    have HP := Lib.hid (C_padded (k := 4) (K := 4) rfl hd.y0 (by have := hd.y1; omega) (by omega) (show Lay.pad 4 y = t from ht) _ (hw.ch HC.out))
    clear hd ht hw
    go_enter Tryd.func28, Tryd.ntmps28
    go_wp2_with fail
    with_reducible refine HP.out.mono ?_
    rintro e w1 ⟨rfl, hC1⟩
    have HC1 := Lib.hid hC1
    clear hC1
    go_wp2_with fail
    go_ret
    exact ⟨rfl, HC.out.trans (HC1.out.mono HC.out.size (fun _ _ q => q))⟩
  | mm =>
    have HP := Lib.hid (C_padded (k := 2) (K := 2) rfl hd.m0 (by have := hd.m1; omega) (by omega) (show Lay.pad 2 m = t from ht) _ (hw.ch HC.out))
    clear hd ht hw
    go_enter Tryd.func28, Tryd.ntmps28
    go_wp2_with fail
    with_reducible refine HP.out.mono ?_
    rintro e w1 ⟨rfl, hC1⟩
    have HC1 := Lib.hid hC1
    clear hC1
    go_wp2_with fail
    go_ret
    exact ⟨rfl, HC.out.trans (HC1.out.mono HC.out.size (fun _ _ q => q))⟩
  | m =>
    have HP := Lib.hid (C_padded (k := 1) (K := 1) rfl hd.m0 (by have := hd.m1; omega) (by omega) (show Lay.pad 1 m = t from ht) _ (hw.ch HC.out))
    clear hd ht hw
    go_enter Tryd.func28, Tryd.ntmps28
    go_wp2_with fail
    with_reducible refine HP.out.mono ?_
    rintro e w1 ⟨rfl, hC1⟩
    have HC1 := Lib.hid hC1
    clear hC1
    go_wp2_with fail
    go_ret
    exact ⟨rfl, HC.out.trans (HC1.out.mono HC.out.size (fun _ _ q => q))⟩
  | dd =>
    have HP := Lib.hid (C_padded (k := 2) (K := 2) rfl hd.d0 (by have := hd.d1; omega) (by omega) (show Lay.pad 2 d = t from ht) _ (hw.ch HC.out))
    clear hd ht hw
    go_enter Tryd.func28, Tryd.ntmps28
    go_wp2_with fail
    with_reducible refine HP.out.mono ?_
    rintro e w1 ⟨rfl, hC1⟩
    have HC1 := Lib.hid hC1
    clear hC1
    go_wp2_with fail
    go_ret
    exact ⟨rfl, HC.out.trans (HC1.out.mono HC.out.size (fun _ _ q => q))⟩
  | d =>
    have HP := Lib.hid (C_padded (k := 1) (K := 1) rfl hd.d0 (by have := hd.d1; omega) (by omega) (show Lay.pad 1 d = t from ht) _ (hw.ch HC.out))
    clear hd ht hw
    go_enter Tryd.func28, Tryd.ntmps28
    go_wp2_with fail
    with_reducible refine HP.out.mono ?_
    rintro e w1 ⟨rfl, hC1⟩
    have HC1 := Lib.hid hC1
    clear hC1
    go_wp2_with fail
    go_ret
    exact ⟨rfl, HC.out.trans (HC1.out.mono HC.out.size (fun _ _ q => q))⟩
  | one c h1 h2 =>
    have HT := Lib.hid (show [c] = t by rw [← ht]; simp [Lay.wr, h1, h2])
    have e1 : (c == 77) = false := by simpa using h1
    have e2 : (c == 68) = false := by simpa using h2
    clear hd ht hw
    go_enter Tryd.func28, Tryd.ntmps28
    go_wp2_with fail
    go_ret
    exact ⟨by rw [← HT.out]; rfl, HC.out⟩
theorem d_sizeB : (Tryd.prog.info? 65).map (·.size) = some 2 := by kernel_rfl
theorem d_lies : liesAt Tryd.prog Tryd.prog.depth 65 (2 / Tryd.prog.cellsOf 65) 0 65 1 = true := by kernel_rfl
set_option maxRecDepth 100000 in
set_option maxHeartbeats 1000000 in
theorem check_used (b : Nat) (w : World) (h0 : w.cell? ⟨b, 0, none⟩ = some (.pointer (some ⟨b, 0, none⟩))) :
    Calls Tryd.prog 52 #[.pointer (some ⟨b, 0, none⟩)] w fun e w' => e = .returned (.tuple #[]) ∧ w' = w := by
  obtain ⟨j, hj, _⟩ := Option.map_eq_some_iff.1 d_sizeB
  go_enter Tryd.func52, Tryd.ntmps52
  go_wp2
  rw [Lib.run_neq_ptr_same w _ Tryd.underlying63 hj]
  go_wp2
  go_end0
  exact ⟨rfl, rfl⟩
set_option maxRecDepth 100000 in
set_option maxHeartbeats 1000000 in
theorem check_fresh (b : Nat) (w : World) (h0 : w.cell? ⟨b, 0, none⟩ = some (.pointer none)) (hsh : w.shape? b = some (65, 2)) (hfz : w.frozen? ⟨b, 0, none⟩ = false) :
    Calls Tryd.prog 52 #[.pointer (some ⟨b, 0, none⟩)] w fun e w' => e = .returned (.tuple #[]) ∧ w' = w.setCell ⟨b, 0, none⟩ (.pointer (some ⟨b, 0, none⟩)) := by
  obtain ⟨j, hj, hjs⟩ := Option.map_eq_some_iff.1 d_sizeB
  go_enter Tryd.func52, Tryd.ntmps52
  go_wp2
  rw [Lib.run_to_unsafe w ⟨b, 0, none⟩ Tryd.underlying63 Tryd.underlying78 hj (by rw [hjs]; decide) hsh (Nat.zero_lt_succ 1)]
  simp only [Result.andThen]
  rw [Oper.upon_value]
  go_wp2
  rw [run_callFunc_extern Tryd.func56 (by kernel_rfl) (by kernel_rfl) (by kernel_rfl) (e := Extern.AbiNoEscape.same) (by kernel_rfl)]
  rw [Lib.run_noEscape]
  simp only [Result.andThen]
  rw [Oper.upon_value]
  go_wp2
  rw [Lib.run_from_unsafe w ⟨b, 0, none⟩ Tryd.underlying78 Tryd.underlying63 hj hsh d_lies]
  simp only [Result.andThen]
  rw [Oper.upon_value]
  go_wp2
  go_end0
  exact ⟨rfl, rfl⟩
/-- A builder of the call's own in block b. -/
abbrev Bld (b : Nat) (l : List UInt8) (w : World) : Prop := Lib.IsBuilderF 65 5 b b (Lib.byteCells l) w
theorem check_any (b : Nat) (l : List UInt8) (w : World) (h : Bld b l w) :
    Calls Tryd.prog 52 #[.pointer (some ⟨b, 0, none⟩)] w fun e w' => e = .returned (.tuple #[]) ∧ (Lib.BuilderAtF 65 5 b b (.pointer (some ⟨b, 0, none⟩)) (Lib.byteCells l) w' ∧ Below b w w' ∧ Lib.OthersKept 5 (some b) w w' ∧ w.heap.size ≤ w'.heap.size) := by
  rcases h with h | h
  · refine (check_fresh b w h.cell0 h.shape h.frozen0).mono ?_
    rintro e w' ⟨rfl, rfl⟩
    exact ⟨rfl, h.used _, (Below.refl b w).setCell (p := ⟨b, 0, none⟩) (Nat.le_refl _) _, (Lib.OthersKept.refl _ (some b) w).setCell ⟨b, 0, none⟩ rfl _, by simp [World.setCell]⟩
  · refine (check_used b w h.cell0).mono ?_
    rintro e w' ⟨rfl, rfl⟩
    exact ⟨rfl, h, Below.refl b _, Lib.OthersKept.refl _ _ _, Nat.le_refl _⟩
theorem Bld.block {b : Nat} {l : List UInt8} {w : World} (h : Bld b l w) : ∃ c t fr, w.heap[b]? = some (.cells c t fr) := by
  rcases h with h | h
  · obtain ⟨_, v, hb, _⟩ := h
    exact ⟨_, _, _, hb⟩
  · obtain ⟨_, v, hb, _⟩ := h
    exact ⟨_, _, _, hb⟩
theorem d_byte : (Tryd.prog.info? 5).map (fun i => (i.zero, i.size, i.bytes)) = some (some (.int .u8 0), 1, 1) := by kernel_rfl
theorem d_ne : 65 ≠ 5 := by decide
theorem cells_app (l s : List UInt8) : Lib.byteCells l ++ Lib.strCells ⟨s.toArray⟩ = Lib.byteCells (l ++ s) := by simp [Lib.byteCells, Lib.strCells]
set_option maxRecDepth 100000 in
set_option maxHeartbeats 2000000 in
theorem writeString_any (b : Nat) (l s : List UInt8) (w : World) (h : Bld b l w) (hlen : l.length + s.length ≤ 1000000000) :
    Calls Tryd.prog 43 #[.pointer (some ⟨b, 0, none⟩), S s] w fun e w' => e = .returned (.tuple #[.int .i64 (s.length : Int), .nilIface]) ∧ Bld b (l ++ s) w' ∧ Below b w w' ∧ Lib.OthersKept 5 (some b) w w' ∧ KeepsOthers w w' := by
  obtain ⟨i0, hi, hz0, hz1, hz2⟩ := info_parts d_byte
  have hbl : (Lib.byteCells l).length = l.length := Lib.byteCells_length l
  have hsl : (ByteArray.mk s.toArray).size = s.length := by simp [ByteArray.size]
  have hblt : b < w.heap.size := by rcases h with h | h <;> exact h.lt
  go_enter Tryd.func43, Tryd.ntmps43
  go_wp2_with fail
  refine (check_any b l _ h).mono ?_
  rintro e w1 ⟨rfl, h1, hb1, hk1, hs1⟩
  obtain ⟨hB, v, hbk, hown, hne⟩ := h1
  have c0 : w1.cell? ⟨b, 0, none⟩ = some (.pointer (some ⟨b, 0, none⟩)) := by rw [Lib.cell_of_heap hbk]; rfl
  have c1 : w1.cell? ⟨b, 1, none⟩ = some v := by rw [Lib.cell_of_heap hbk]; rfl
  rw [hbl] at hown
  go_wp2_with (at_builtin; refine Lib.wpList_append_own_stringF _ rfl _ _ 27 9 rfl b 5 i0 Tryd.underlying27 Tryd.underlying9 hi hz0 hz1 hz2 _ _ _ rfl hown ⟨s.toArray⟩ rfl ?c3 ?c4 ?c5 ?_)
  case c3 => unfold maxLen; omega
  case c4 => omega
  case c5 => omega
  intro v' w2 hown' hgrow _
  have hlt : b < w1.heap.size := by omega
  have hb2 : w2.heap[b]? = some (.cells #[.pointer (some ⟨b, 0, none⟩), v] 65 (0, 0)) := by
    rw [hgrow.block b hlt (fun e => hne e.symm)]
    exact hbk
  have d0 : w2.cell? ⟨b, 0, none⟩ = some (.pointer (some ⟨b, 0, none⟩)) := by rw [Lib.cell_of_heap hb2]; rfl
  have d1 : w2.cell? ⟨b, 1, none⟩ = some v := by rw [Lib.cell_of_heap hb2]; rfl
  have f1 : w2.frozen? ⟨b, 1, none⟩ = false := Lib.frozen_of_heap hb2 1
  obtain ⟨ao, n', cap, rfl⟩ : ∃ ao n' cap, v' = .slice ao n' cap := by
    rcases hown'.2 with ⟨hv, _⟩ | ⟨g, cap, cur, fz, hv, _⟩
    · exact ⟨_, _, _, hv⟩
    · exact ⟨_, _, _, hv⟩
  have hkk := (hk1.grown hgrow (Lib.ownsRowF_kind hown)).setCell ⟨b, 1, none⟩ rfl (.slice ao n' cap)
  go_wp2
  go_ret2
  refine ⟨rfl, .inr ?_, ?_, hkk, ?_⟩
  · rw [← cells_app]
    exact Lib.BuilderAtF.put (T := 65) (e := 5) hB hb2 (bs' := Lib.byteCells l ++ Lib.strCells ⟨s.toArray⟩) (by simpa [Lib.strCells_length, hbl, hsl] using hown') d_ne
  · exact (hb1.grown hgrow (by omega) (fun k hk => (hown.lt k hk).1)).setCell (p := ⟨b, 1, none⟩) hB _
  · refine ⟨by have := hgrow.size; simp [World.setCell]; omega, fun k o hk ho => hkk k o hk (fun e => ?_) (fun c fz e => ?_)⟩
    · obtain ⟨c, t, fr, hc⟩ := Bld.block h
      rw [Option.some.inj e, hc] at hk
      rw [← Option.some.inj hk] at ho
      exact Bool.noConfusion ho
    · rw [e] at ho
      exact Bool.noConfusion ho
end Go.Proofs.YtehgkpbjbkeoeaaDoor
