/- Contracts of packages nat and tithingref01, joined out of smaller texts. -/
import Derived.Test.YtkeomlpecjjhiaaGreatDoorGa
import Derived.Laws.Rows
import Derived.Deep.RegionHeld3
import Derived.Deep.LoopGhost
import Derived.StillTailTactics
import Derived.Laws.AppendOwnNone
import Derived.BigQuiet
import Derived.Lib.AppendIntMem
import Derived.Lib.ConvBytes
namespace Go.Proofs.YtkeomlpecjjhiaaGreatDoor
open Go.RowKit
/-- What combine's loop keeps: Lehmer's state, at the start or behind a step that the leading bits decide. -/
structure Lrun (V W x y a b c d : Nat) (s : Bool) : Prop where
 st : Lst V W x y a b c d s
 fit : (c = 0 ∧ a = 1 ∧ b = 0 ∧ d = 1) ∨ (a ≤ b ∧ c ≤ d ∧ d ≤ y ∧ b + d + y ≤ x ∧ 1 ≤ c)
theorem Lrun.bounds {V W x y a b c d : Nat} {s : Bool} (h : Lrun V W x y a b c d s) (hV : V < D) : a < D ∧ b < D ∧ c < D ∧ d < D ∧ x < D := by
 have h1 := h.st.top
 have hD1 : 1 < D := by decide
 rcases h.fit with ⟨rfl, rfl, rfl, rfl⟩ | ⟨k1, k2, k3, k4, k5⟩
 ·rw [Nat.one_mul, Nat.zero_mul, Nat.add_zero] at h1
  have h0 := D_pos
  exact ⟨hD1, h0, h0, hD1, by omega⟩
 ·have m1 : d * 1 ≤ d * x := Nat.mul_le_mul_left _ (by omega)
  have m2 : 1 * x ≤ d * x := Nat.mul_le_mul_right _ (by omega)
  omega
theorem Lrun.step {V W x y a b c d : Nat} {s : Bool} (h : Lrun V W x y a b c d s) (hy : 0 < y) (h1 : b + x / y * d ≤ x % y) (h2 : d + (b + x / y * d) + x % y ≤ y) :
  Lrun V W y (x % y) c d (a + x / y * c) (b + x / y * d) (!s) := by
 have hq1 : 1 ≤ x / y := (Nat.one_le_div_iff hy).2 h.st.ord
 refine ⟨h.st.step hy, .inr ?_⟩
 have hf := h.fit
 generalize x / y = q at *
 generalize x % y = r at *
 rcases hf with ⟨rfl, rfl, rfl, rfl⟩ | ⟨k1, k2, k3, k4, k5⟩
 ·rw [Nat.mul_one] at *
  rw [Nat.mul_zero] at *
  omega
 ·have m1 : q * c ≤ q * d := Nat.mul_le_mul_left _ k2
  have m2 : 1 * c ≤ q * c := Nat.mul_le_mul_right _ hq1
  omega
theorem results_cell_row_tmp {P : Program} {fn : Func} {p u : Tmp} {ty : TypeId} (h : fn.results = #[.cell p ty, .tmp u]) (tmps : Array Value) (w : World) (g : Nat) (t : TypeId) (cs : Array Value) (fr : Nat × Nat) (d : TypeDesc)
  (hp : tmps.getD p undef = .pointer (some ⟨g, 0, none⟩)) (hg : w.heap[g]? = some (.cells cs t fr))
  (hu : P.underlying ty = some d) (hd : (match d with | .struct _ | .array _ _ => true | _ => false) = true) (hi : (P.info? ty).map (·.size) = some cs.size) :
  (results fn tmps).run P w = .ok (.tuple #[.agg cs, tmps.getD u undef]) w := by
 have hp' : tmps[p]?.getD undef = .pointer (some ⟨g, 0, none⟩) := by simpa using hp
 simp [results, h, hp', asAddr, run_loadVar_row w g t ty cs fr d hg hu hd hi]
theorem tdiv_nat (a b : Nat) : (a : Int).tdiv (b : Int) = ((a / b : Nat) : Int) := by
 rw [Int.tdiv_eq_ediv_of_nonneg (by omega)]; exact (Int.natCast_ediv _ _).symm
theorem tmod_nat (a b : Nat) : (a : Int).tmod (b : Int) = ((a % b : Nat) : Int) := by
 rw [Int.tmod_eq_emod_of_nonneg (by omega)]; exact (Int.natCast_emod _ _).symm
theorem wrap_mul (q c : Nat) (h : q * c < D) : IntKind.u64.wrap ((q : Int) * (c : Int)) = ((q * c : Nat) : Int) := by
 rw [← Int.natCast_mul]; exact u64_wrap _ h
/-- What combine yields: multiples, and whether they are of a step. -/
def Comb (v u : Nat) (w : World) (e : Ending) (w' : World) : Prop := ∃ (a b c d : Nat) (s : Bool), e = .returned (.tuple #[.agg #[U a, U b, U c, U d, .bool s], .bool ((c : Int) != 0)]) ∧ a < D ∧ b < D ∧ c < D ∧ d < D ∧ (∃ x y, Lrun v u x y a b c d s) ∧ Ch w.heap.size none1 w w'
theorem Comb.mk' {v u a b c d x y : Nat} {s : Bool} {w w' : World} {e : Ending} (h : e = .returned (.tuple #[.agg #[U a, U b, U c, U d, .bool s], .bool ((c : Int) != 0)])) (ha : a < D) (hb : b < D) (hc : c < D) (hd : d < D) (hl : Lrun v u x y a b c d s) (hC : Ch w.heap.size none1 w w') : Comb v u w e w' := ⟨a, b, c, d, s, h, ha, hb, hc, hd, ⟨x, y, hl⟩, hC⟩
set_option maxRecDepth 100000 in
set_option maxHeartbeats 1600000 in
theorem combine_any (v u : Nat) (w : World) (hv : v < D) (hu : u ≤ v) :
  Calls Tryz.prog 220 #[U v, U u] w (Comb v u w) := by
 go_enter Tryz.func220, Tryz.ntmps220
 go_wp2_with fail
 have hR0 : Blk (w.alloc (.cells #[.int .u64 0, .int .u64 0, .int .u64 0, .int .u64 0, .bool false] 206 (0, 0))) w.heap.size 206 [.int .u64 0, .int .u64 0, .int .u64 0, .int .u64 0, .bool false] := Blk.new w _ _
 have hR := hR0.alloc (.cells #[.int .u64 1, .int .u64 0, .int .u64 0, .int .u64 1, .bool false] 206 (0, 0))
 have hS := Blk.new (w.alloc (.cells #[.int .u64 0, .int .u64 0, .int .u64 0, .int .u64 0, .bool false] 206 (0, 0))) #[.int .u64 1, .int .u64 0, .int .u64 0, .int .u64 1, .bool false] 206
 have hC0 := (Ch.refl w.heap.size none1 w).alloc (Nat.le_refl _) (.cells #[.int .u64 0, .int .u64 0, .int .u64 0, .int .u64 0, .bool false] 206 (0, 0))
 have hC := hC0.alloc hC0.size (.cells #[.int .u64 1, .int .u64 0, .int .u64 0, .int .u64 1, .bool false] 206 (0, 0))
 rw [World.size_alloc] at hS
 clear hR0 hC0
 obtain ⟨W0, hW0⟩ : ∃ W, (w.alloc (.cells #[.int .u64 0, .int .u64 0, .int .u64 0, .int .u64 0, .bool false] 206 (0, 0))).alloc (.cells #[.int .u64 1, .int .u64 0, .int .u64 0, .int .u64 1, .bool false] 206 (0, 0)) = W := ⟨_, rfl⟩
 rw [hW0] at hR hS hC ⊢
 clear hW0
 obtain ⟨g, hg⟩ : ∃ g, w.heap.size = g := ⟨_, rfl⟩
 rw [hg] at hR hS
 have HR := Lib.hid hR; clear hR
 have HS := Lib.hid hS; clear hS
 have HC := Lib.hid hC; clear hC
 have HU := Lib.hid hu
 rw [hg]
 have HG := Lib.hid hg; clear hg
 go_loopw [0, 1] (fun xv yv wr => ∃ (x y a b c d : Nat) (s : Bool), xv = U x ∧ yv = U y ∧ Lrun v u x y a b c d s ∧ Blk wr (g + 1) 206 [U a, U b, U c, U d, .bool s] ∧ Blk wr g 206 [.int .u64 0, .int .u64 0, .int .u64 0, .int .u64 0, .bool false] ∧ Ch w.heap.size none1 w wr)
  (fun _ yv _ => (intOf yv).toNat)
 case atStart => exact ⟨v, u, 1, 0, 0, 1, false, rfl, rfl, ⟨Lst.start _ _ HU.out, .inl ⟨rfl, rfl, rfl, rfl⟩⟩, HS.out, HR.out, HC.out⟩
 case round =>
  clear HS HR HC
  obtain ⟨x, y, a, b, c, d, s, rfl, rfl, hL, hS, hR, hC⟩ := hrel
  obtain ⟨ba, bb, bc, bd, bx⟩ := hL.bounds hv
  have HL := Lib.hid hL; clear hL
  have HC := Lib.hid hC; clear hC
  have s0 : wr.cell? ⟨g + 1, 0, none⟩ = some (U a) := hS.cell 0
  have s1 : wr.cell? ⟨g + 1, 1, none⟩ = some (U b) := hS.cell 1
  have s2 : wr.cell? ⟨g + 1, 2, none⟩ = some (U c) := hS.cell 2
  have s3 : wr.cell? ⟨g + 1, 3, none⟩ = some (U d) := hS.cell 3
  have s4 : wr.cell? ⟨g + 1, 4, none⟩ = some (.bool s) := hS.cell 4
  have HSS := Lib.hid hS; clear hS
  have HRR := Lib.hid hR; clear hR
  by_cases h0 : y = 0
  ·subst h0
   go_wp2_with fail
   have e0 : wr.cell? ⟨g, 0, none⟩ = some (.int .u64 0) := HRR.out.cell 0
   have e1 : wr.cell? ⟨g, 1, none⟩ = some (.int .u64 0) := HRR.out.cell 1
   have e2 : wr.cell? ⟨g, 2, none⟩ = some (.int .u64 0) := HRR.out.cell 2
   have e3 : wr.cell? ⟨g, 3, none⟩ = some (.int .u64 0) := HRR.out.cell 3
   have e4 : wr.cell? ⟨g, 4, none⟩ = some (.bool false) := HRR.out.cell 4
   have f0 := HRR.out.frozen 0
   have f1 := HRR.out.frozen 1
   have f2 := HRR.out.frozen 2
   have f3 := HRR.out.frozen 3
   have f4 := HRR.out.frozen 4
   go_region
   have hRb : Blk (((((wr.setCell ⟨g, 0, none⟩ (U a)).setCell ⟨g, 1, none⟩ (U b)).setCell ⟨g, 2, none⟩ (U c)).setCell ⟨g, 3, none⟩ (U d)).setCell ⟨g, 4, none⟩ (.bool s)).drew g 206 [U a, U b, U c, U d, .bool s] := (((((HRR.out.set 0 (U a)).set 1 (U b)).set 2 (U c)).set 3 (U d)).set 4 (.bool s)).drew
   have hg0 : w.heap.size ≤ g := by rw [HG.out]; exact Nat.le_refl _
   have hCb := (((((HC.out.setCell (p := ⟨g, 0, none⟩) (.inl hg0) (U a)).setCell (p := ⟨g, 1, none⟩) (.inl hg0) (U b)).setCell (p := ⟨g, 2, none⟩) (.inl hg0) (U c)).setCell (p := ⟨g, 3, none⟩) (.inl hg0) (U d)).setCell (p := ⟨g, 4, none⟩) (.inl hg0) (.bool s)).drew
   clear e0 e1 e2 e3 e4 f0 f1 f2 f3 f4
   obtain ⟨w9, hw9⟩ : ∃ w9, (((((wr.setCell ⟨g, 0, none⟩ (U a)).setCell ⟨g, 1, none⟩ (U b)).setCell ⟨g, 2, none⟩ (U c)).setCell ⟨g, 3, none⟩ (U d)).setCell ⟨g, 4, none⟩ (.bool s)).drew = w9 := ⟨_, rfl⟩
   rw [hw9] at hRb hCb ⊢
   clear hw9
   go_wp2_with fail
   refine bodyPost_ret (results_cell_row_tmp (P := Tryz.prog) rfl _ _ g 206 _ (0, 0) _ rfl hRb Tryz.underlying206 rfl (by kernel_rfl)) rfl ?_
   exact Comb.mk' rfl ba bb bc bd HL.out hCb
  ·have hb := ne_bool h0
   obtain ⟨hb1, hb2, hb3, hb4⟩ := HL.out.st.bound (show 0 < y by omega)
   have hr := Nat.mod_lt x (show 0 < y by omega)
   have hst := HL.out.step (show 0 < y by omega)
   have hsm := fun h => HL.out.st.small hv hr h
   have r1 : (x : Int) / (y : Int) = ((x / y : Nat) : Int) := (Int.natCast_ediv _ _).symm
   have r2 : (x : Int) % (y : Int) = ((x % y : Nat) : Int) := (Int.natCast_emod _ _).symm
   have t1 := tdiv_nat x y
   have t2 := tmod_nat x y
   have hqx : x / y ≤ x := Nat.div_le_self x y
   generalize x / y = q at *
   generalize x % y = r at *
   have hqD : q < D := Nat.lt_of_le_of_lt hqx bx
   have wq : IntKind.u64.wrap (q : Int) = (q : Int) := u64_wrap _ hqD
   have hu := HU.out
   have m1 := wrap_mul q c (by omega)
   have m2 := wrap_mul q d (by omega)
   have n1 : IntKind.u64.wrap ((a : Int) + ((q * c : Nat) : Int)) = ((a + q * c : Nat) : Int) := by rw [← Int.natCast_add]; exact u64_wrap _ (by unfold D at hv; omega)
   have n2 : IntKind.u64.wrap ((b : Int) + ((q * d : Nat) : Int)) = ((b + q * d : Nat) : Int) := by rw [← Int.natCast_add]; exact u64_wrap _ (by unfold D at hv; omega)
   have HST := Lib.hid hst; clear hst
   have HSM := Lib.hid hsm; clear hsm
   clear hb1 hb2 hb3 hb4 hu
   generalize a + q * c = c2 at *
   generalize b + q * d = d2 at *
   generalize q * c = qc at *
   generalize q * d = qd at *
   go_wp2_with fail
   go_quiet (fail)
   have hS2 := HSS.out.drewN nq
   have hR2 := HRR.out.drewN nq
   have hC2 := HC.out.drewN nq
   clear HSS HRR HC s0 s1 s2 s3 s4
   obtain ⟨w2, hw2⟩ : ∃ w2, wr.drewN nq = w2 := ⟨_, rfl⟩
   rw [hw2] at hS2 hR2 hC2 ⊢
   clear hw2
   have s0 : w2.cell? ⟨g + 1, 0, none⟩ = some (U a) := hS2.cell 0
   have s1 : w2.cell? ⟨g + 1, 1, none⟩ = some (U b) := hS2.cell 1
   have s2 : w2.cell? ⟨g + 1, 2, none⟩ = some (U c) := hS2.cell 2
   have s3 : w2.cell? ⟨g + 1, 3, none⟩ = some (U d) := hS2.cell 3
   have s4 : w2.cell? ⟨g + 1, 4, none⟩ = some (.bool s) := hS2.cell 4
   have HSS := Lib.hid hS2; clear hS2
   have HRR := Lib.hid hR2; clear hR2
   have HC := Lib.hid hC2; clear hC2
   have k0 : (w2.alloc (.cells #[U c2, U d2] 204 (0, 0))).cell? ⟨g + 1, 0, none⟩ = some (U a) := (HSS.out.alloc _).cell 0
   have k1 : (w2.alloc (.cells #[U c2, U d2] 204 (0, 0))).cell? ⟨g + 1, 1, none⟩ = some (U b) := (HSS.out.alloc _).cell 1
   have k2 : (w2.alloc (.cells #[U c2, U d2] 204 (0, 0))).cell? ⟨g + 1, 2, none⟩ = some (U c) := (HSS.out.alloc _).cell 2
   have k3 : (w2.alloc (.cells #[U c2, U d2] 204 (0, 0))).cell? ⟨g + 1, 3, none⟩ = some (U d) := (HSS.out.alloc _).cell 3
   have k4 : (w2.alloc (.cells #[U c2, U d2] 204 (0, 0))).cell? ⟨g + 1, 4, none⟩ = some (.bool s) := (HSS.out.alloc _).cell 4
   by_cases hlt : r < d2
   ·go_wp2_with fail
    have hS3 := HSS.out.alloc (.cells #[U c2, U d2] 204 (0, 0))
    have hR3 := HRR.out.alloc (.cells #[U c2, U d2] 204 (0, 0))
    have hN3 := Blk.new w2 #[U c2, U d2] 204
    have hC3 := HC.out.alloc HC.out.size (.cells #[U c2, U d2] 204 (0, 0))
    clear k0 k1 k2 k3 k4 s0 s1 s2 s3 s4 HSS HRR HC
    obtain ⟨w4, hw4⟩ : ∃ w4, w2.alloc (.cells #[U c2, U d2] 204 (0, 0)) = w4 := ⟨_, rfl⟩
    rw [hw4] at hS3 hR3 hN3 hC3 ⊢
    clear hw4
    have s0 : w4.cell? ⟨g + 1, 0, none⟩ = some (U a) := hS3.cell 0
    have s1 : w4.cell? ⟨g + 1, 1, none⟩ = some (U b) := hS3.cell 1
    have s2 : w4.cell? ⟨g + 1, 2, none⟩ = some (U c) := hS3.cell 2
    have s3 : w4.cell? ⟨g + 1, 3, none⟩ = some (U d) := hS3.cell 3
    have s4 : w4.cell? ⟨g + 1, 4, none⟩ = some (.bool s) := hS3.cell 4
    have HSS := Lib.hid hS3; clear hS3
    have HRR := Lib.hid hR3; clear hR3
    have HC := Lib.hid hC3; clear hC3
    have e0 : w4.cell? ⟨g, 0, none⟩ = some (.int .u64 0) := HRR.out.cell 0
    have e1 : w4.cell? ⟨g, 1, none⟩ = some (.int .u64 0) := HRR.out.cell 1
    have e2 : w4.cell? ⟨g, 2, none⟩ = some (.int .u64 0) := HRR.out.cell 2
    have e3 : w4.cell? ⟨g, 3, none⟩ = some (.int .u64 0) := HRR.out.cell 3
    have e4 : w4.cell? ⟨g, 4, none⟩ = some (.bool false) := HRR.out.cell 4
    have f0 := HRR.out.frozen 0
    have f1 := HRR.out.frozen 1
    have f2 := HRR.out.frozen 2
    have f3 := HRR.out.frozen 3
    have f4 := HRR.out.frozen 4
    go_region
    have hRb : Blk (((((w4.setCell ⟨g, 0, none⟩ (U a)).setCell ⟨g, 1, none⟩ (U b)).setCell ⟨g, 2, none⟩ (U c)).setCell ⟨g, 3, none⟩ (U d)).setCell ⟨g, 4, none⟩ (.bool s)).drew g 206 [U a, U b, U c, U d, .bool s] := (((((HRR.out.set 0 (U a)).set 1 (U b)).set 2 (U c)).set 3 (U d)).set 4 (.bool s)).drew
    have hg0 : w.heap.size ≤ g := by rw [HG.out]; exact Nat.le_refl _
    have hCb := (((((HC.out.setCell (p := ⟨g, 0, none⟩) (.inl hg0) (U a)).setCell (p := ⟨g, 1, none⟩) (.inl hg0) (U b)).setCell (p := ⟨g, 2, none⟩) (.inl hg0) (U c)).setCell (p := ⟨g, 3, none⟩) (.inl hg0) (U d)).setCell (p := ⟨g, 4, none⟩) (.inl hg0) (.bool s)).drew
    clear e0 e1 e2 e3 e4 f0 f1 f2 f3 f4
    obtain ⟨w9, hw9⟩ : ∃ w9, (((((w4.setCell ⟨g, 0, none⟩ (U a)).setCell ⟨g, 1, none⟩ (U b)).setCell ⟨g, 2, none⟩ (U c)).setCell ⟨g, 3, none⟩ (U d)).setCell ⟨g, 4, none⟩ (.bool s)).drew = w9 := ⟨_, rfl⟩
    rw [hw9] at hRb hCb ⊢
    clear hw9
    go_wp2_with fail
    refine bodyPost_ret (results_cell_row_tmp (P := Tryz.prog) rfl _ _ g 206 _ (0, 0) _ rfl hRb Tryz.underlying206 rfl (by kernel_rfl)) rfl ?_
    exact Comb.mk' rfl ba bb bc bd HL.out hCb
   ·obtain ⟨hd2, hd1⟩ := HSM.out (by omega)
    obtain ⟨z, hz⟩ : ∃ z, y - r = z := ⟨_, rfl⟩
    have z1 : (y : Int) - (r : Int) = (z : Int) := by omega
    have hyD : y < D := Nat.lt_of_le_of_lt HL.out.st.ord bx
    have z2 : IntKind.u64.wrap (z : Int) = (z : Int) := u64_wrap _ (by unfold D at hyD; omega)
    have z3 : IntKind.u64.wrap ((d : Int) + (d2 : Int)) = ((d + d2 : Nat) : Int) := by rw [← Int.natCast_add]; exact u64_wrap _ (by omega)
    obtain ⟨t, ht⟩ : ∃ t, d + d2 = t := ⟨_, rfl⟩
    rw [ht] at z3
    have hst : t ≤ z → Lrun v u y r c d c2 d2 (!s) := fun h => HST.out (by omega) (by omega)
    have HST2 := Lib.hid hst; clear hst HST HSM
    clear ht hd2 hd1 hyD
    have HZ := Lib.hid hz; clear hz
    by_cases hlt2 : z < t
    ·go_wp2_with fail
     have hS3 := HSS.out.alloc (.cells #[U c2, U d2] 204 (0, 0))
     have hR3 := HRR.out.alloc (.cells #[U c2, U d2] 204 (0, 0))
     have hN3 := Blk.new w2 #[U c2, U d2] 204
     have hC3 := HC.out.alloc HC.out.size (.cells #[U c2, U d2] 204 (0, 0))
     clear k0 k1 k2 k3 k4 s0 s1 s2 s3 s4 HSS HRR HC
     obtain ⟨w4, hw4⟩ : ∃ w4, w2.alloc (.cells #[U c2, U d2] 204 (0, 0)) = w4 := ⟨_, rfl⟩
     rw [hw4] at hS3 hR3 hN3 hC3 ⊢
     clear hw4
     have s0 : w4.cell? ⟨g + 1, 0, none⟩ = some (U a) := hS3.cell 0
     have s1 : w4.cell? ⟨g + 1, 1, none⟩ = some (U b) := hS3.cell 1
     have s2 : w4.cell? ⟨g + 1, 2, none⟩ = some (U c) := hS3.cell 2
     have s3 : w4.cell? ⟨g + 1, 3, none⟩ = some (U d) := hS3.cell 3
     have s4 : w4.cell? ⟨g + 1, 4, none⟩ = some (.bool s) := hS3.cell 4
     have HSS := Lib.hid hS3; clear hS3
     have HRR := Lib.hid hR3; clear hR3
     have HC := Lib.hid hC3; clear hC3
     have e0 : w4.cell? ⟨g, 0, none⟩ = some (.int .u64 0) := HRR.out.cell 0
     have e1 : w4.cell? ⟨g, 1, none⟩ = some (.int .u64 0) := HRR.out.cell 1
     have e2 : w4.cell? ⟨g, 2, none⟩ = some (.int .u64 0) := HRR.out.cell 2
     have e3 : w4.cell? ⟨g, 3, none⟩ = some (.int .u64 0) := HRR.out.cell 3
     have e4 : w4.cell? ⟨g, 4, none⟩ = some (.bool false) := HRR.out.cell 4
     have f0 := HRR.out.frozen 0
     have f1 := HRR.out.frozen 1
     have f2 := HRR.out.frozen 2
     have f3 := HRR.out.frozen 3
     have f4 := HRR.out.frozen 4
     go_region
     have hRb : Blk (((((w4.setCell ⟨g, 0, none⟩ (U a)).setCell ⟨g, 1, none⟩ (U b)).setCell ⟨g, 2, none⟩ (U c)).setCell ⟨g, 3, none⟩ (U d)).setCell ⟨g, 4, none⟩ (.bool s)).drew g 206 [U a, U b, U c, U d, .bool s] := (((((HRR.out.set 0 (U a)).set 1 (U b)).set 2 (U c)).set 3 (U d)).set 4 (.bool s)).drew
     have hg0 : w.heap.size ≤ g := by rw [HG.out]; exact Nat.le_refl _
     have hCb := (((((HC.out.setCell (p := ⟨g, 0, none⟩) (.inl hg0) (U a)).setCell (p := ⟨g, 1, none⟩) (.inl hg0) (U b)).setCell (p := ⟨g, 2, none⟩) (.inl hg0) (U c)).setCell (p := ⟨g, 3, none⟩) (.inl hg0) (U d)).setCell (p := ⟨g, 4, none⟩) (.inl hg0) (.bool s)).drew
     clear e0 e1 e2 e3 e4 f0 f1 f2 f3 f4
     obtain ⟨w9, hw9⟩ : ∃ w9, (((((w4.setCell ⟨g, 0, none⟩ (U a)).setCell ⟨g, 1, none⟩ (U b)).setCell ⟨g, 2, none⟩ (U c)).setCell ⟨g, 3, none⟩ (U d)).setCell ⟨g, 4, none⟩ (.bool s)).drew = w9 := ⟨_, rfl⟩
     rw [hw9] at hRb hCb ⊢
     clear hw9
     go_wp2_with fail
     refine bodyPost_ret (results_cell_row_tmp (P := Tryz.prog) rfl _ _ g 206 _ (0, 0) _ rfl hRb Tryz.underlying206 rfl (by kernel_rfl)) rfl ?_
     exact Comb.mk' rfl ba bb bc bd HL.out hCb
    ·have HL2 := Lib.hid (HST2.out (by omega)); clear HST2
     have y0 : (w2.alloc (.cells #[U c2, U d2] 204 (0, 0))).frozen? ⟨g + 1, 0, none⟩ = false := (HSS.out.alloc _).frozen 0
     have y1 : (w2.alloc (.cells #[U c2, U d2] 204 (0, 0))).frozen? ⟨g + 1, 1, none⟩ = false := (HSS.out.alloc _).frozen 1
     have y2 : (w2.alloc (.cells #[U c2, U d2] 204 (0, 0))).frozen? ⟨g + 1, 2, none⟩ = false := (HSS.out.alloc _).frozen 2
     have y3 : (w2.alloc (.cells #[U c2, U d2] 204 (0, 0))).frozen? ⟨g + 1, 3, none⟩ = false := (HSS.out.alloc _).frozen 3
     have y4 : (w2.alloc (.cells #[U c2, U d2] 204 (0, 0))).frozen? ⟨g + 1, 4, none⟩ = false := (HSS.out.alloc _).frozen 4
     go_wp2_with fail
     have hg0 : w.heap.size ≤ g + 1 := by rw [HG.out]; exact Nat.le_succ _
     have hne : g ≠ g + 1 := by omega
     refine ⟨⟨y, r, c, d, c2, d2, !s, rfl, rfl, HL2.out, (((((HSS.out.alloc _).set 0 (U c)).set 1 (U d)).set 2 (U c2)).set 3 (U d2)).set 4 (.bool !s), ?_, ?_⟩, by simp [intOf]; omega⟩
     ·exact (((((HRR.out.alloc _).set_other hne 0 (U c)).set_other hne 1 (U d)).set_other hne 2 (U c2)).set_other hne 3 (U d2)).set_other hne 4 (.bool !s)
     ·exact (((((HC.out.alloc HC.out.size _).setCell (p := ⟨g + 1, 0, none⟩) (.inl hg0) (U c)).setCell (p := ⟨g + 1, 1, none⟩) (.inl hg0) (U d)).setCell (p := ⟨g + 1, 2, none⟩) (.inl hg0) (U c2)).setCell (p := ⟨g + 1, 3, none⟩) (.inl hg0) (U d2)).setCell (p := ⟨g + 1, 4, none⟩) (.inl hg0) (.bool !s)
end Go.Proofs.YtkeomlpecjjhiaaGreatDoor
namespace Go.Proofs.YtkeomlpecjjhiaaGreatDoor
open Go.RowKit
theorem tab_ch {P : Program} {w w' : World} {name : String} {k : IntKind} {zs : List Int} (h : Lib.TabIs P w name k zs) (hC : Ch w.heap.size none1 w w') : Lib.TabIs P w' name k zs := by
 unfold Lib.TabIs World.var? at *
 cases hg : P.globalNamed name with
 | none => rw [hg] at h; simp at h
 | some g =>
  rw [hg] at h
  simp only [Option.bind_some] at h ⊢
  have hlt : g < w.heap.size := by
   rcases Nat.lt_or_ge g w.heap.size with q | q
   ·exact q
   ·rw [Array.getElem?_eq_none q] at h; simp at h
  rw [hC.block g hlt (fun q => q)]
  exact h
theorem below_ch {B : Nat} {w w' : World} (h : Below B w w') : Ch B none1 w w' := Ch.of_below h
def pow10Is (w : World) : Prop := Lib.TabIs Tryz.prog w "internal/strconv.uint64pow10" .u64 Lib.pow10Tab
set_option maxRecDepth 100000 in
set_option maxHeartbeats 1600000 in
theorem AppendUint_nil (u : Nat) (w : World) (hu : u < 18446744073709551616) (ht : pow10Is w) :
  Calls Tryz.prog 185 #[.slice none 0 0, .int .u64 u, .int .i64 10] w fun e w' => ∃ v', e = .returned v' ∧ w'.ownsRow w.heap.size 5 1 v' (Lib.decDigits u).length (Lib.byteCells (Lib.decDigits u)) ∧ Ch w.heap.size none1 w w' := by
 have hc := Tryz.internal_strconv_AppendUint_10 w.heap.size 0 u hu (.slice none 0 0) [] w (World.ownsRow_nil _ _ _ _) (Nat.le_refl _) (by omega) ht
 rw [Nat.zero_add] at hc
 have HC := Lib.hid hc; clear hc
 have HT := Lib.hid ht; clear ht
 go_enter Tryz.func185, Tryz.ntmps185
 go_wp2_with fail
 refine HC.out.mono ?_
 rintro e w1 ⟨v, rfl, ho, hb, _⟩
 go_wp2_with fail
 go_ret
 exact ⟨v, rfl, by simpa using ho, below_ch hb⟩
theorem decDigits_pos (u : Nat) : 0 < (Lib.decDigits u).length := by
 rcases Nat.eq_zero_or_pos (Lib.decDigits u).length with h | h
 ·exfalso
  have := List.eq_nil_of_length_eq_zero h
  rw [Lib.decDigits] at this
  split at this <;> simp at this
 ·exact h
end Go.Proofs.YtkeomlpecjjhiaaGreatDoor
namespace Go.Proofs.YtkeomlpecjjhiaaGreatDoor
open Go.RowKit
/-- v is a slice that reads as the digits of N. -/
def RdD (w : World) (v : Value) (N : Nat) : Prop := ∃ p cap, v = .slice p (ds N).length cap ∧ Dg w p (ds N).length (ds N)
theorem RdD.ch {w w' : World} {v : Value} {N : Nat} (h : RdD w v N) (hC : Ch w.heap.size none1 w w') : RdD w' v N := by
 obtain ⟨p, cap, rfl, hd⟩ := h
 exact ⟨p, cap, rfl, Dg.ch hC hd (fun a ha => ⟨hd.lt_size a ha, fun q => q⟩)⟩
theorem RdD.of_own {w : World} {B N : Nat} {v : Value} (h : OwnD w B v N) : RdD w v N := by
 obtain ⟨p, cap, rfl, hd, _⟩ := h.dg
 exact ⟨p, cap, rfl, hd⟩
theorem Dg.drew {w : World} {p : Option Addr} {n : Nat} {xs : List Nat} (h : Dg w p n xs) : Dg w.drew p n xs := ⟨h.len, h.lt, h.nil, h.at'⟩
end Go.Proofs.YtkeomlpecjjhiaaGreatDoor
namespace Go.Proofs.YtkeomlpecjjhiaaGreatDoor
open Go.RowKit
/-- Two slices that lie in different blocks. -/
def Far (v1 v2 : Value) : Prop := ∀ p n c q m k, v1 = .slice (some p) n c → v2 = .slice (some q) m k → p.block ≠ q.block
theorem OwnD.blk_lt {w : World} {B N : Nat} {v : Value} (h : OwnD w B v N) : ∀ p n c, v = .slice (some p) n c → B ≤ p.block ∧ p.block < w.heap.size := fun p n c e => by
 obtain ⟨_, h2⟩ := h
 rcases h2 with ⟨q, _⟩ | ⟨g, cap, cur, hv, hb, hg, _⟩
 ·rw [e] at q; simp at q
 ·rw [e] at hv
  simp only [Value.slice.injEq, Option.some.injEq] at hv
  obtain ⟨rfl, _⟩ := hv
  exact ⟨hb, (Array.getElem?_eq_some_iff.1 hg).1⟩
theorem OwnD.far {w1 w2 : World} {B1 B2 N1 N2 : Nat} {v1 v2 : Value} (h1 : OwnD w1 B1 v1 N1) (h2 : OwnD w2 B2 v2 N2) (h : w1.heap.size ≤ B2) : Far v1 v2 := fun p n c q m k e1 e2 => by
 have a := (h1.blk_lt p n c e1).2
 have b := (h2.blk_lt q m k e2).1
 omega
theorem Far.symm {v1 v2 : Value} (h : Far v1 v2) : Far v2 v1 := fun p n c q m k e1 e2 => (h q m k p n c e2 e1).symm
theorem keep4 {W W' : World} {B : Nat} {u0 u1 u2 u3 : Value} (h : Ch W.heap.size none1 W W') (hB : B < W.heap.size) (hc : W.cell? ⟨B, 0, none⟩ = some u0 ∧ W.cell? ⟨B, 1, none⟩ = some u1 ∧ W.cell? ⟨B, 2, none⟩ = some u2 ∧ W.cell? ⟨B, 3, none⟩ = some u3) :
  W'.cell? ⟨B, 0, none⟩ = some u0 ∧ W'.cell? ⟨B, 1, none⟩ = some u1 ∧ W'.cell? ⟨B, 2, none⟩ = some u2 ∧ W'.cell? ⟨B, 3, none⟩ = some u3 :=
 ⟨(h.cell (p := ⟨B, 0, none⟩) hB (fun q => q)).trans hc.1, (h.cell (p := ⟨B, 1, none⟩) hB (fun q => q)).trans hc.2.1, (h.cell (p := ⟨B, 2, none⟩) hB (fun q => q)).trans hc.2.2.1, (h.cell (p := ⟨B, 3, none⟩) hB (fun q => q)).trans hc.2.2.2⟩
/-- What applied yields: two slices of one's own, apart from one another. -/
def Two (w : World) (X Y : Nat) (e : Ending) (w' : World) : Prop := ∃ v1 v2, e = .returned (.tuple #[v1, v2]) ∧ OwnD w' w.heap.size v1 X ∧ OwnD w' w.heap.size v2 Y ∧ Far v1 v2 ∧ Ch w.heap.size none1 w w'
theorem Two.mk' {w w' : World} {X Y : Nat} {e : Ending} {v1 v2 : Value} (h : e = .returned (.tuple #[v1, v2])) (h1 : OwnD w' w.heap.size v1 X) (h2 : OwnD w' w.heap.size v2 Y) (h3 : Far v1 v2) (h4 : Ch w.heap.size none1 w w') : Two w X Y e w' := ⟨v1, v2, h, h1, h2, h3, h4⟩
set_option maxRecDepth 100000 in
set_option maxHeartbeats 1600000 in
theorem applied_false (n capx capy a b c d U0 Z0 : Nat) (p q : Option Addr) (xs ys : List Nat) (w : World) (hx : Dg w p n xs) (hy : Dg w q n ys) (hn : n ≤ 8796093022208) (ha : a < D) (hb : b < D) (hc : c < D) (hd : d < D)
  (h1 : U0 + dv ys * b = dv xs * a) (h2 : Z0 + dv xs * c = dv ys * d) :
  Calls Tryz.prog 222 #[.agg #[U a, U b, U c, U d, .bool false], .slice p n capx, .slice q n capy] w (Two w U0 Z0) := by
 have HS1 := Lib.hid h1; clear h1
 have HS2 := Lib.hid h2; clear h2
 go_enter Tryz.func222, Tryz.ntmps222
 go_wp2_with fail
 have hB0 := Blk.new w #[U a, U b, U c, U d, .bool false] 206
 have hC0 := (Ch.refl w.heap.size none1 w).alloc (Nat.le_refl _) (.cells #[U a, U b, U c, U d, .bool false] 206 (0, 0)) |>.drew
 have hx0 := Dg.ch hC0 hx (fun a ha => ⟨hx.lt_size a ha, fun q => q⟩)
 have hy0 := Dg.ch hC0 hy (fun a ha => ⟨hy.lt_size a ha, fun q => q⟩)
 have hxl := hx.lt_size
 have hyl := hy.lt_size
 clear hx hy
 obtain ⟨g, hg⟩ : ∃ g, w.heap.size = g := ⟨_, rfl⟩
 obtain ⟨W0, hW0⟩ : ∃ W, w.alloc (.cells #[U a, U b, U c, U d, .bool false] 206 (0, 0)) = W := ⟨_, rfl⟩
 rw [hW0] at hB0 hC0 hx0 hy0 ⊢
 rw [hg] at hB0 ⊢
 clear hW0
 have HS0 := Lib.hid (show W0.drew.cell? ⟨g, 0, none⟩ = some (U a) ∧ W0.drew.cell? ⟨g, 1, none⟩ = some (U b) ∧ W0.drew.cell? ⟨g, 2, none⟩ = some (U c) ∧ W0.drew.cell? ⟨g, 3, none⟩ = some (U d) from ⟨hB0.cell 0, hB0.cell 1, hB0.cell 2, hB0.cell 3⟩)
 have HLT := Lib.hid (show g < W0.drew.heap.size from hB0.lt)
 have HCH := Lib.hid (Ch.refl W0.drew.heap.size none1 W0.drew)
 have HX := Lib.hid (show Dg W0.drew p n xs from hx0)
 have HY := Lib.hid (show Dg W0.drew q n ys from hy0)
 have HXB := Lib.hid (show ∀ a, p = some a → a.block < W0.drew.heap.size ∧ ¬ none1 a.block from fun a ha => ⟨Nat.lt_of_lt_of_le (hxl a ha) hC0.size, fun q => q⟩)
 have HYB := Lib.hid (show ∀ a, q = some a → a.block < W0.drew.heap.size ∧ ¬ none1 a.block from fun a ha => ⟨Nat.lt_of_lt_of_le (hyl a ha) hC0.size, fun q => q⟩)
 have HC0 := Lib.hid (show Ch w.heap.size none1 w W0.drew from hC0)
 have HG := Lib.hid hg
 clear hB0 hC0 hx0 hy0 hxl hyl hg
 go_wp2_with fail
 go_region_held3 (fun w' => w'.cell? ⟨g, 0, none⟩ = some (U a) ∧ w'.cell? ⟨g, 1, none⟩ = some (U b) ∧ w'.cell? ⟨g, 2, none⟩ = some (U c) ∧ w'.cell? ⟨g, 3, none⟩ = some (U d))
  (first
   | (with_reducible exact HS0.out)
   | (with_reducible exact keep4 HCH.out HLT.out HS0.out)
   | go_keep)
  (first
   | (go_at_call 229; with_reducible refine (difference_any n capx capy a b p q xs ys _ (Dg.ch HCH.out HX.out HXB.out) (Dg.ch HCH.out HY.out HYB.out) hn ha hb (by have := HS1.out; omega)).mono ?_; rintro e wq ⟨v1, rfl, ho, hCq⟩; have HO1 := Lib.hid ho; have HCQ := Lib.hid (HCH.out.step0 hCq (Nat.le_refl _)); have HSZ := Lib.hid (HCH.out.step0 hCq (Nat.le_refl _)).size; clear hCq HCH ho; have HCH := HCQ; clear HCQ)
   | (go_at_call 229; with_reducible refine (difference_any n capy capx d c q p ys xs _ (Dg.ch HCH.out HY.out HYB.out) (Dg.ch HCH.out HX.out HXB.out) hn hd hc (by have := HS2.out; omega)).mono ?_; rintro e wq2 ⟨v2, rfl, ho, hCq⟩; have HO2 := Lib.hid ho; have HCL := Lib.hid hCq; have HCQ := Lib.hid (HCH.out.step0 hCq (Nat.le_refl _)); clear hCq HCH ho; have HCH := HCQ; clear HCQ))
 have hS1 := HO1.out
 have hlt := HSZ.out
 have hU : dv xs * a - dv ys * b = U0 := by have := HS1.out; omega
 have hZ : dv ys * d - dv xs * c = Z0 := by have := HS2.out; omega
 have ho1 := HO1.out
 have ho2 := HO2.out
 rw [hU] at ho1
 rw [hZ] at ho2
 have hfar := ho1.far ho2 (Nat.le_refl _)
 have hl0 := HC0.out.size
 have hl1 := HCL.out.size
 have ho1' := (ho1.ch HCL.out (Nat.le_refl _) (fun _ _ _ q => q)).mono (Nat.le_trans hl0 (Nat.le_refl _))
 have ho2' := ho2.mono (Nat.le_trans hl0 hlt)
 have hCF := HC0.out.step0 HCH.out (Nat.le_refl _)
 clear hS1 hU hZ ho1 ho2 hl0 hl1 hlt
 go_wp2_with fail
 go_ret2
 exact Two.mk' rfl ho1' ho2' hfar hCF
set_option maxRecDepth 100000 in
set_option maxHeartbeats 1600000 in
theorem applied_true (n capx capy a b c d U0 Z0 : Nat) (p q : Option Addr) (xs ys : List Nat) (w : World) (hx : Dg w p n xs) (hy : Dg w q n ys) (hn : n ≤ 8796093022208) (ha : a < D) (hb : b < D) (hc : c < D) (hd : d < D)
  (h1 : U0 + dv xs * a = dv ys * b) (h2 : Z0 + dv ys * d = dv xs * c) :
  Calls Tryz.prog 222 #[.agg #[U a, U b, U c, U d, .bool true], .slice p n capx, .slice q n capy] w (Two w U0 Z0) := by
 have HS1 := Lib.hid h1; clear h1
 have HS2 := Lib.hid h2; clear h2
 go_enter Tryz.func222, Tryz.ntmps222
 go_wp2_with fail
 have hB0 := Blk.new w #[U a, U b, U c, U d, .bool true] 206
 have hC0 := (Ch.refl w.heap.size none1 w).alloc (Nat.le_refl _) (.cells #[U a, U b, U c, U d, .bool true] 206 (0, 0)) |>.drew
 have hx0 := Dg.ch hC0 hx (fun a ha => ⟨hx.lt_size a ha, fun q => q⟩)
 have hy0 := Dg.ch hC0 hy (fun a ha => ⟨hy.lt_size a ha, fun q => q⟩)
 have hxl := hx.lt_size
 have hyl := hy.lt_size
 clear hx hy
 obtain ⟨g, hg⟩ : ∃ g, w.heap.size = g := ⟨_, rfl⟩
 obtain ⟨W0, hW0⟩ : ∃ W, w.alloc (.cells #[U a, U b, U c, U d, .bool true] 206 (0, 0)) = W := ⟨_, rfl⟩
 rw [hW0] at hB0 hC0 hx0 hy0 ⊢
 rw [hg] at hB0 ⊢
 clear hW0
 have HS0 := Lib.hid (show W0.drew.cell? ⟨g, 0, none⟩ = some (U a) ∧ W0.drew.cell? ⟨g, 1, none⟩ = some (U b) ∧ W0.drew.cell? ⟨g, 2, none⟩ = some (U c) ∧ W0.drew.cell? ⟨g, 3, none⟩ = some (U d) from ⟨hB0.cell 0, hB0.cell 1, hB0.cell 2, hB0.cell 3⟩)
 have HLT := Lib.hid (show g < W0.drew.heap.size from hB0.lt)
 have HCH := Lib.hid (Ch.refl W0.drew.heap.size none1 W0.drew)
 have HX := Lib.hid (show Dg W0.drew p n xs from hx0)
 have HY := Lib.hid (show Dg W0.drew q n ys from hy0)
 have HXB := Lib.hid (show ∀ a, p = some a → a.block < W0.drew.heap.size ∧ ¬ none1 a.block from fun a ha => ⟨Nat.lt_of_lt_of_le (hxl a ha) hC0.size, fun q => q⟩)
 have HYB := Lib.hid (show ∀ a, q = some a → a.block < W0.drew.heap.size ∧ ¬ none1 a.block from fun a ha => ⟨Nat.lt_of_lt_of_le (hyl a ha) hC0.size, fun q => q⟩)
 have HC0 := Lib.hid (show Ch w.heap.size none1 w W0.drew from hC0)
 have HG := Lib.hid hg
 clear hB0 hC0 hx0 hy0 hxl hyl hg
 go_wp2_with fail
 go_region_held3 (fun w' => w'.cell? ⟨g, 0, none⟩ = some (U a) ∧ w'.cell? ⟨g, 1, none⟩ = some (U b) ∧ w'.cell? ⟨g, 2, none⟩ = some (U c) ∧ w'.cell? ⟨g, 3, none⟩ = some (U d))
  (first
   | (with_reducible exact HS0.out)
   | (with_reducible exact keep4 HCH.out HLT.out HS0.out)
   | go_keep)
  (first
   | (go_at_call 229; with_reducible refine (difference_any n capy capx b a q p ys xs _ (Dg.ch HCH.out HY.out HYB.out) (Dg.ch HCH.out HX.out HXB.out) hn hb ha (by have := HS1.out; omega)).mono ?_; rintro e wq ⟨v1, rfl, ho, hCq⟩; have HO1 := Lib.hid ho; have HCQ := Lib.hid (HCH.out.step0 hCq (Nat.le_refl _)); have HSZ := Lib.hid (HCH.out.step0 hCq (Nat.le_refl _)).size; clear hCq HCH ho; have HCH := HCQ; clear HCQ)
   | (go_at_call 229; with_reducible refine (difference_any n capx capy c d p q xs ys _ (Dg.ch HCH.out HX.out HXB.out) (Dg.ch HCH.out HY.out HYB.out) hn hc hd (by have := HS2.out; omega)).mono ?_; rintro e wq2 ⟨v2, rfl, ho, hCq⟩; have HO2 := Lib.hid ho; have HCL := Lib.hid hCq; have HCQ := Lib.hid (HCH.out.step0 hCq (Nat.le_refl _)); clear hCq HCH ho; have HCH := HCQ; clear HCQ))
 have hS1 := HO1.out
 have hlt := HSZ.out
 have hU : dv ys * b - dv xs * a = U0 := by have := HS1.out; omega
 have hZ : dv xs * c - dv ys * d = Z0 := by have := HS2.out; omega
 have ho1 := HO1.out
 have ho2 := HO2.out
 rw [hU] at ho1
 rw [hZ] at ho2
 have hfar := ho1.far ho2 (Nat.le_refl _)
 have hl0 := HC0.out.size
 have hl1 := HCL.out.size
 have ho1' := (ho1.ch HCL.out (Nat.le_refl _) (fun _ _ _ q => q)).mono (Nat.le_trans hl0 (Nat.le_refl _))
 have ho2' := ho2.mono (Nat.le_trans hl0 hlt)
 have hCF := HC0.out.step0 HCH.out (Nat.le_refl _)
 clear hS1 hU hZ ho1 ho2 hl0 hl1 hlt
 go_wp2_with fail
 go_ret2
 exact Two.mk' rfl ho1' ho2' hfar hCF
end Go.Proofs.YtkeomlpecjjhiaaGreatDoor
namespace Go.Proofs.YtkeomlpecjjhiaaGreatDoor
open Go.RowKit
theorem tlen_one (x : Nat) (h : 0 < x) : tlen [x] = 1 := by
 simp [tlen]; omega
/-- What reduced yields: two numbers with the same common divisors, the second one less than the second one that came in. -/
def Redu (w : World) (B X Y : Nat) (e : Ending) (w' : World) : Prop := ∃ v1 v2 X' Y', e = .returned (.tuple #[v1, v2]) ∧ OwnD w' B v1 X' ∧ OwnD w' B v2 Y' ∧ Far v1 v2 ∧ Y' < X' ∧ Y' < Y ∧ X' ≤ Y ∧ Nat.gcd X' Y' = Nat.gcd X Y ∧ Ch w.heap.size none1 w w'
theorem Redu.mk' {w w' : World} {B X Y X' Y' : Nat} {e : Ending} {v1 v2 : Value} (h : e = .returned (.tuple #[v1, v2])) (h1 : OwnD w' B v1 X') (h2 : OwnD w' B v2 Y') (h3 : Far v1 v2) (h4 : Y' < X') (h5 : Y' < Y) (h6 : X' ≤ Y) (h7 : Nat.gcd X' Y' = Nat.gcd X Y) (h8 : Ch w.heap.size none1 w w') : Redu w B X Y e w' := ⟨v1, v2, X', Y', h, h1, h2, h3, h4, h5, h6, h7, h8⟩
theorem Redu.of_div {w w1 w' : World} {B X Y : Nat} {vx vy v2 : Value} (hy : OwnD w B vy Y) (hYX : Y ≤ X) (hY : 0 < Y) (hB : B ≤ w.heap.size) (hC1 : Ch w.heap.size none1 w w1) (h2 : (X < Y ∧ v2 = vx) ∨ OwnD w' w1.heap.size v2 (X % Y)) (hC2 : Ch w1.heap.size none1 w1 w') : Redu w B X Y (.returned (.tuple #[vy, v2])) w' := by
 rcases h2 with h | h2
 ·omega
 have hm := Nat.mod_lt X hY
 have hy1 := hy.ch hC1 (Nat.le_refl _) (fun _ _ _ q => q)
 exact Redu.mk' rfl (hy1.ch hC2 (Nat.le_refl _) (fun _ _ _ q => q)) (h2.mono (Nat.le_trans hB hC1.size)) (hy1.far h2 (Nat.le_refl _)) hm hm (Nat.le_refl _) (by rw [Nat.gcd_comm, ← Nat.gcd_rec, Nat.gcd_comm]) (hC1.step0 hC2 (Nat.le_refl _))
set_option maxRecDepth 100000 in
set_option maxHeartbeats 1600000 in
theorem reduced_any (vx vy : Value) (X Y B : Nat) (w : World) (hx : OwnD w B vx X) (hy : OwnD w B vy Y) (hYX : Y ≤ X) (hn : (ds X).length ≤ 8796093022208) (hm : 2 ≤ (ds Y).length) (hB : B ≤ w.heap.size) :
  Calls Tryz.prog 208 #[vx, vy] w (Redu w B X Y) := by
 have hY0 : 0 < Y := by
  rcases Nat.eq_zero_or_pos Y with h | h
  ·rw [h, ds_zero] at hm; simp at hm
  ·exact h
 have hml : (ds Y).length ≤ (ds X).length := (ds_len _ _).2 (Nat.lt_of_le_of_lt hYX ((ds_len _ _).1 (Nat.le_refl _)))
 have HOY := Lib.hid hy
 obtain ⟨px, cx, rfl, hdx, -, -, -⟩ := hx.dg
 obtain ⟨py, cy, rfl, hdy, -, -, -⟩ := hy.dg
 have hdiv : ∀ w1, Ch w.heap.size none1 w w1 → Calls Tryz.prog 142 #[.slice px (ds X).length cx, .slice py (ds Y).length cy] w1 (fun e w' => ∃ v1 v2, e = .returned (.tuple #[v1, v2]) ∧ OwnD w' w1.heap.size v1 (X / Y) ∧ ((X < Y ∧ v2 = .slice px (ds X).length cx) ∨ OwnD w' w1.heap.size v2 (X % Y)) ∧ Ch w1.heap.size none1 w1 w') := fun w1 hC =>
  divide_any _ _ _ _ X Y px py w1 (Dg.ch hC hdx (fun a ha => ⟨hdx.lt_size a ha, fun q => q⟩)) (Dg.ch hC hdy (fun a ha => ⟨hdy.lt_size a ha, fun q => q⟩)) hn (by omega) hY0
 have HDIV := Lib.hid hdiv; clear hdiv
 have HDX := Lib.hid hdx; clear hdx
 have HDY := Lib.hid hdy; clear hdy
 have HYX := Lib.hid hYX
 clear hx hy
 have htl := tlen_ds X
 obtain ⟨n, hnn⟩ : ∃ n, (ds X).length = n := ⟨_, rfl⟩
 obtain ⟨m, hmm⟩ : ∃ m, (ds Y).length = m := ⟨_, rfl⟩
 rw [hnn] at HDIV HDX htl hn hml ⊢
 rw [hmm] at HDIV HDY HOY hm hml ⊢
 have HTL := Lib.hid htl
 have HN := Lib.hid hnn
 have HM := Lib.hid hmm
 clear htl hnn hmm
 by_cases hnm : n = m
 ·subst hnm
  go_enter Tryz.func208, Tryz.ntmps208
  go_wp2_with fail
  refine (leading_any n cx cy px py (ds X) (ds Y) w HDX.out HDY.out hn hm HTL.out (by rw [dv_ds, dv_ds]; exact HYX.out)).mono ?_
  rintro e w1 ⟨v, u, P, x, y, rfl, hC1, hv, hu, hX, hY, hx, hy⟩
  rw [dv_ds] at hX hY
  have HX := Lib.hid hX
  have HY := Lib.hid hY
  have HXP := Lib.hid hx
  have HYP := Lib.hid hy
  have HC1 := Lib.hid hC1
  clear hX hY hx hy hC1
  go_wp2_with fail
  refine (combine_any v u w1 hv hu).mono ?_
  rintro e w2 ⟨a, b, c, d, s, rfl, ha, hb, hc, hd, ⟨x', y', hL⟩, hC2⟩
  have HL := Lib.hid hL
  have HC2 := Lib.hid hC2
  clear hL hC2
  by_cases hc0 : c = 0
  ·subst hc0
   go_wp2_with fail
   have hCA := (HC1.out.step0 HC2.out (Nat.le_refl _)).alloc (HC1.out.step0 HC2.out (Nat.le_refl _)).size (.cells #[U a, U b, U 0, U d, .bool s] 206 (0, 0))
   refine (HDIV.out _ hCA).mono ?_
   rintro e w3 ⟨q1, v2, rfl, -, h2, hC3⟩
   have HR := Lib.hid (Redu.of_div HOY.out HYX.out hY0 hB hCA h2 hC3)
   clear h2 hC3 hCA
   go_wp2_with fail
   go_ret2
   exact HR.out
  ·have hcb := ne_bool hc0
   have hfit : a ≤ b ∧ c ≤ d ∧ d ≤ y' ∧ b + d + y' ≤ x' ∧ 1 ≤ c := by
    rcases HL.out.fit with h | h
    ·omega
    ·exact h
   obtain ⟨U0, Z0, hlt, hle, hgcd, hif⟩ := HL.out.st.real hfit.1 hfit.2.1 hfit.2.2.1 hfit.2.2.2.1 hfit.2.2.2.2 HX.out HY.out HXP.out HYP.out
   have HIF := Lib.hid hif
   have HGCD := Lib.hid hgcd
   have HLT := Lib.hid hlt
   have HLE := Lib.hid hle
   clear hif hgcd hlt hle hfit
   go_wp2_with fail
   have hCA := (HC1.out.step0 HC2.out (Nat.le_refl _)).alloc (HC1.out.step0 HC2.out (Nat.le_refl _)).size (.cells #[U a, U b, U c, U d, .bool s] 206 (0, 0))
   have hx3 := Dg.ch hCA HDX.out (fun a ha => ⟨HDX.out.lt_size a ha, fun q => q⟩)
   have hy3 := Dg.ch hCA HDY.out (fun a ha => ⟨HDY.out.lt_size a ha, fun q => q⟩)
   have hap : Calls Tryz.prog 222 #[.agg #[U a, U b, U c, U d, .bool s], .slice px n cx, .slice py n cy] (w2.alloc (.cells #[U a, U b, U c, U d, .bool s] 206 (0, 0))) (Two (w2.alloc (.cells #[U a, U b, U c, U d, .bool s] 206 (0, 0))) U0 Z0) := by
    have hif := HIF.out
    cases s
    ·simp only [Bool.false_eq_true, if_false] at hif
     exact applied_false n cx cy a b c d U0 Z0 px py (ds X) (ds Y) _ hx3 hy3 hn ha hb hc hd (by rw [dv_ds, dv_ds, Nat.mul_comm Y, Nat.mul_comm X]; exact hif.1) (by rw [dv_ds, dv_ds, Nat.mul_comm Y, Nat.mul_comm X]; exact hif.2)
    ·simp only [if_true] at hif
     exact applied_true n cx cy a b c d U0 Z0 px py (ds X) (ds Y) _ hx3 hy3 hn ha hb hc hd (by rw [dv_ds, dv_ds, Nat.mul_comm Y, Nat.mul_comm X]; exact hif.1) (by rw [dv_ds, dv_ds, Nat.mul_comm Y, Nat.mul_comm X]; exact hif.2)
   clear hx3 hy3
   refine hap.mono ?_
   rintro e w3 ⟨v1, v2, rfl, ho1, ho2, hfar, hC3⟩
   have hb3 : B ≤ (w2.alloc (.cells #[U a, U b, U c, U d, .bool s] 206 (0, 0))).heap.size := Nat.le_trans hB hCA.size
   have HR := Lib.hid (Redu.mk' (B := B) (w := w) rfl (ho1.mono hb3) (ho2.mono hb3) hfar HLT.out (Nat.lt_of_lt_of_le HLT.out HLE.out) HLE.out HGCD.out (hCA.step0 hC3 (Nat.le_refl _)))
   clear ho1 ho2 hfar hC3 hb3 hCA hap
   go_wp2_with fail
   go_ret2
   exact HR.out
 ·have hne : ¬ ((n : Int) = (m : Int)) := by omega
  go_enter Tryz.func208, Tryz.ntmps208
  go_wp2_with fail
  have hCA := Ch.refl w.heap.size none1 w
  refine (HDIV.out _ hCA).mono ?_
  rintro e w3 ⟨q1, v2, rfl, -, h2, hC3⟩
  have HR := Lib.hid (Redu.of_div HOY.out HYX.out hY0 hB hCA h2 hC3)
  clear h2 hC3 hCA
  go_wp2_with fail
  go_ret2
  exact HR.out
set_option maxRecDepth 100000 in
set_option maxHeartbeats 3200000 in
/-- common: the greatest common divisor, over the memory of both. -/
theorem common_any (vx vy : Value) (X Y B : Nat) (w : World) (hx : OwnD w B vx X) (hy : OwnD w B vy Y) (hf : Far vx vy) (hn : (ds X).length ≤ 8796093022208) (hm : (ds Y).length ≤ 8796093022208) (hB : B ≤ w.heap.size) :
  Calls Tryz.prog 184 #[vx, vy] w fun e w' => ∃ v, e = .returned v ∧ RdD w' v (Nat.gcd X Y) ∧ Ch B none1 w w' := by
 have hHX := Lib.hid hx
 have hHY := Lib.hid hy
 obtain ⟨px, cx, rfl, hdx, -, -, -⟩ := hx.dg
 obtain ⟨py, cy, rfl, hdy, -, -, -⟩ := hy.dg
 have hcmp := compare_any px py _ _ cx cy _ _ w hdx hdy (tlen_ds X) (tlen_ds Y) (by omega) (by omega)
 rw [dv_ds, dv_ds] at hcmp
 have HFF := Lib.hid hf
 have HNX := Lib.hid hn
 have HMY := Lib.hid hm
 obtain ⟨n, hnn⟩ : ∃ n, (ds X).length = n := ⟨_, rfl⟩
 obtain ⟨m, hmm⟩ : ∃ m, (ds Y).length = m := ⟨_, rfl⟩
 rw [hnn] at hcmp hHX HFF ⊢
 rw [hmm] at hcmp hHY HFF ⊢
 clear hx hy hf hn hm hdx hdy hnn hmm
 by_cases hlt : X < Y
 ·rw [cmpN_lt hlt] at hcmp
  have HCMP := Lib.hid hcmp; clear hcmp
  have HLE := Lib.hid (Nat.le_of_lt hlt); clear hlt
  go_enter Tryz.func184, Tryz.ntmps184
  go_wp2_with fail
  refine HCMP.out.mono ?_
  rintro e w1 ⟨rfl, hC1⟩
  have HA := Lib.hid (hHY.out.ch hC1 (Nat.le_refl _) (fun _ _ _ q => q))
  have HB := Lib.hid (hHX.out.ch hC1 (Nat.le_refl _) (fun _ _ _ q => q))
  have HF := Lib.hid HFF.out.symm
  have HLX := Lib.hid HMY.out
  have HGG := Lib.hid (Nat.gcd_comm Y X)
  have HC := Lib.hid (hC1.mono hB (fun _ _ q => q))
  have HBB := Lib.hid (Nat.le_trans hB hC1.size)
  clear hC1 HCMP hHX hHY HFF HNX HMY
  go_wp2_with fail
  obtain ⟨wo, rfl⟩ : ∃ wo : World, wo = w1 := ⟨_, rfl⟩
  go_loopg [0, 1] (X + 0) (fun gh xv yv wr => ∃ X' Y' : Nat, gh = Y' + 0 ∧ OwnD wr B xv X' ∧ OwnD wr B yv Y' ∧ Far xv yv ∧ Y' ≤ X' ∧ (ds X').length ≤ 8796093022208 ∧ Nat.gcd X' Y' = Nat.gcd X Y ∧ Ch B none1 w wr ∧ B ≤ wr.heap.size)
  case atStart => exact ⟨_, _, rfl, HA.out, HB.out, HF.out, HLE.out, HLX.out, HGG.out, HC.out, HBB.out⟩
  case round =>
   clear HA HB HF HLE HLX HGG HC HBB
   obtain ⟨X', Y', hgh, hx, hy, hf, hle, hlx, hgg, hC, hBw⟩ := hrel
   have hHX := Lib.hid hx
   have hHY := Lib.hid hy
   obtain ⟨px, cx, rfl, hdx, hcx, hcx2, -⟩ := hx.dg
   obtain ⟨py, cy, rfl, hdy, -, -, -⟩ := hy.dg
   have hml : (ds Y').length ≤ (ds X').length := (ds_len _ _).2 (Nat.lt_of_le_of_lt hle ((ds_len _ _).1 (Nat.le_refl _)))
   clear hx hy
   have HF := Lib.hid hf
   have HGG := Lib.hid hgg
   have HC := Lib.hid hC
   have HGH := Lib.hid hgh
   have HLE := Lib.hid hle
   clear hf hgg hC hgh hle
   by_cases h2 : 2 ≤ (ds Y').length
   ·have hred := reduced_any _ _ X' Y' B wr hHX.out hHY.out HLE.out hlx h2 hBw
    have hred2 : ∀ e w', Redu wr B X' Y' e w' → ∃ v1 v2 X'' Y'', e = .returned (.tuple #[v1, v2]) ∧ OwnD w' B v1 X'' ∧ OwnD w' B v2 Y'' ∧ Far v1 v2 ∧ Y'' < X'' ∧ Y'' < Y' ∧ X'' ≤ Y' ∧ Nat.gcd X'' Y'' = Nat.gcd X' Y' ∧ Ch wr.heap.size none1 wr w' := fun e w' h => h
    have HRED2 := Lib.hid hred2; clear hred2
    obtain ⟨m, hmm⟩ : ∃ m, (ds Y').length = m := ⟨_, rfl⟩
    obtain ⟨n, hnn⟩ : ∃ n, (ds X').length = n := ⟨_, rfl⟩
    rw [hmm] at h2 hml hred ⊢
    rw [hnn] at hml hred hlx ⊢
    have HNN := Lib.hid hnn
    have HRED := Lib.hid hred
    clear hnn hmm hred
    go_wp2_with fail
    refine HRED.out.mono ?_
    intro e w4 hR
    obtain ⟨v1, v2, X2, Y2, rfl, ho1, ho2, hf2, hl1, hl2, hl3, hg2, hC4⟩ := HRED2.out e w4 hR
    have HO1 := Lib.hid ho1
    have HO2 := Lib.hid ho2
    have HF2 := Lib.hid hf2
    have HG2 := Lib.hid (hg2.trans HGG.out)
    have HC4 := Lib.hid (HC.out.trans (hC4.mono hBw (fun _ _ q => q)))
    have HSZ := Lib.hid (Nat.le_trans hBw hC4.size)
    clear ho1 ho2 hf2 hg2 hC4 hR
    go_wp2_with fail
    go_roundg (Y2 + 0)
    case measure => have := HGH.out; omega
    case rel =>
     refine ⟨X2, Y2, rfl, HO1.out, HO2.out, HF2.out, Nat.le_of_lt hl1, ?_, HG2.out, HC4.out, HSZ.out⟩
     have h3 : (ds X2).length ≤ (ds X').length := (ds_len _ _).2 (Nat.lt_of_le_of_lt (Nat.le_trans hl3 HLE.out) ((ds_len _ _).1 (Nat.le_refl _)))
     have := HNN.out
     omega
   ·by_cases h1 : (ds Y').length = 0
    ·have hY0 : Y' = 0 := by
      have h := dv_ds Y'
      rw [List.eq_nil_of_length_eq_zero h1] at h
      simpa [dv] using h.symm
     subst hY0
     rw [h1]
     have HG := Lib.hid HGG.out
     have HR := Lib.hid (RdD.of_own hHX.out)
     clear h1 h2 hml
     obtain ⟨n, hnn⟩ : ∃ n, (ds X').length = n := ⟨_, rfl⟩
     rw [hnn] at HR ⊢
     clear hnn
     go_wp2_with fail
     go_ret
     refine ⟨_, rfl, ?_, HC.out⟩
     rw [← HG.out, Nat.gcd_zero_right]
     exact HR.out
    ·have h1' : (ds Y').length = 1 := by omega
     obtain ⟨hYD, hYl⟩ := ds_one Y' h1'
     have hY0 : 0 < Y' := by
      rcases Nat.eq_zero_or_pos Y' with h | h
      ·rw [h, ds_zero] at h1'; simp at h1'
      ·exact h
     have hn0 : 0 < (ds X').length := by omega
     obtain ⟨g, cap, post, hvx, hgB, hBx, hpl, hcm⟩ := own_blk hHX.out hn0
     simp only [Value.slice.injEq] at hvx
     obtain ⟨rfl, -, rfl⟩ := hvx
     obtain ⟨gy, oy, rfl⟩ := hdy.addr (by omega)
     have hne : g ≠ gy := HF.out _ _ _ _ _ _ rfl rfl
     have hy0 := hdy.get 0 (by omega)
     have hyv : (ds Y')[0]'(by rw [hdy.len]; omega) = Y' := by simp [hYl]
     rw [hyv, Nat.add_zero] at hy0
     have hgy := hdy.lt_size _ rfl
     rw [h1']
     have HXL := Lib.hid (show (ds X').length = (ds X').length from rfl)
     have hBx' : Blk wr g 125 ([] ++ (ds X').map U ++ post) := hBx.cast (by simp)
     have hdw := divideByWord_any (ds X').length cx Y' g 0 _ [] post (ds X') wr (dok_ds X') rfl (by omega) hY0 hYD hBx' rfl
     rw [dv_ds] at hdw
     have HDW := Lib.hid hdw
     have hmod : X' % Y' < D := Nat.lt_trans (Nat.mod_lt _ hY0) hYD
     have hcw := fun w => commonWord_any Y' (X' % Y') w hYD hmod
     have hgcd : Nat.gcd Y' (X' % Y') = Nat.gcd X Y := by rw [Nat.gcd_comm, ← Nat.gcd_rec, Nat.gcd_comm]; exact HGG.out
     rw [hgcd] at hcw
     have hG0 : Nat.gcd X Y < D ∧ 0 < Nat.gcd X Y := by
      rw [← HGG.out]
      exact ⟨Nat.lt_of_le_of_lt (Nat.gcd_le_right _ hY0) hYD, Nat.gcd_pos_of_pos_right _ hY0⟩
     have HG0 := Lib.hid hG0
     have HCW := Lib.hid hcw
     have HGY := Lib.hid hgy
     have HGB := Lib.hid hgB
     have HHY0 := Lib.hid hy0
     have HNE := Lib.hid hne
     have HBL := Lib.hid hBx.lt
     clear hdw hcw hgcd hG0 h1 h1' h2 hml hYl hdy hdx hn0 hpl hcm hBx hBx' HXL hHX hHY HF hgy hgB hyv hcx hcx2
     obtain ⟨n, hnn⟩ : ∃ n, (ds X').length = n := ⟨_, rfl⟩
     obtain ⟨r, hr⟩ : ∃ r, X' % Y' = r := ⟨_, rfl⟩
     rw [hr] at HDW HCW hmod
     rw [hnn] at HDW ⊢
     clear hnn hr
     go_wp2_with fail
     refine HDW.out.mono ?_
     rintro e w4 ⟨zs, rfl, -, -, -, -, hC4⟩
     have hy4 := (hC4.cell (p := ⟨gy, oy, none⟩) HGY.out (fun q => HNE.out q.symm)).trans HHY0.out
     have HC5 := Lib.hid (HC.out.step hC4 hB (fun k hk q => by have := HGB.out; omega))
     have hs4 := hC4.size
     clear hC4 hy0
     go_wp2_with fail
     refine (HCW.out _).mono ?_
     rintro e w5 ⟨rfl, hC6⟩
     have hnew := Blk.new w5 #[U (Nat.gcd X Y)] 125
     have hb5 : B ≤ w5.heap.size := Nat.le_trans (Nat.le_trans hBw hs4) hC6.size
     have hown : OwnD (w5.alloc (.cells #[U (Nat.gcd X Y)] 125 (0, 0))) B (.slice (some ⟨w5.heap.size, 0, none⟩) (tlen [Nat.gcd X Y]) 1) (dv [Nat.gcd X Y]) := OwnD.of_blk hnew (Dok.cons HG0.out.1 Dok.nil) rfl (by decide) hb5
     have hv1 : dv [Nat.gcd X Y] = Nat.gcd X Y := by simp [dv]
     have ht1 : tlen [Nat.gcd X Y] = 1 := tlen_one _ HG0.out.2
     rw [hv1, ht1] at hown
     have HR := Lib.hid (RdD.of_own hown)
     have HC7 := Lib.hid ((HC5.out.trans (hC6.mono (Nat.le_trans hBw hs4) (fun _ _ q => q))).alloc hb5 (.cells #[U (Nat.gcd X Y)] 125 (0, 0)))
     clear hnew hown hv1 ht1 hC6
     go_wp2_with fail
     go_ret
     exact ⟨_, rfl, HR.out, HC7.out⟩
 ·obtain ⟨c, hcc, hc0⟩ := cmpN_ge (show Y ≤ X by omega)
  rw [hcc] at hcmp
  have HCMP := Lib.hid hcmp; clear hcmp hcc
  have HLE := Lib.hid (show Y ≤ X by omega); clear hlt
  go_enter Tryz.func184, Tryz.ntmps184
  go_wp2_with fail
  refine HCMP.out.mono ?_
  rintro e w1 ⟨rfl, hC1⟩
  have HA := Lib.hid (hHX.out.ch hC1 (Nat.le_refl _) (fun _ _ _ q => q))
  have HB := Lib.hid (hHY.out.ch hC1 (Nat.le_refl _) (fun _ _ _ q => q))
  have HF := Lib.hid HFF.out
  have HLX := Lib.hid HNX.out
  have HGG := Lib.hid (Nat.gcd_comm Y X)
  have HC := Lib.hid (hC1.mono hB (fun _ _ q => q))
  have HBB := Lib.hid (Nat.le_trans hB hC1.size)
  clear hC1 HCMP hHX hHY HFF HNX HMY
  go_wp2_with fail
  obtain ⟨wo, rfl⟩ : ∃ wo : World, wo = w1 := ⟨_, rfl⟩
  go_loopg [0, 1] (Y + 0) (fun gh xv yv wr => ∃ X' Y' : Nat, gh = Y' + 0 ∧ OwnD wr B xv X' ∧ OwnD wr B yv Y' ∧ Far xv yv ∧ Y' ≤ X' ∧ (ds X').length ≤ 8796093022208 ∧ Nat.gcd X' Y' = Nat.gcd X Y ∧ Ch B none1 w wr ∧ B ≤ wr.heap.size)
  case atStart => exact ⟨_, _, rfl, HA.out, HB.out, HF.out, HLE.out, HLX.out, rfl, HC.out, HBB.out⟩
  case round =>
   clear HA HB HF HLE HLX HGG HC HBB
   obtain ⟨X', Y', hgh, hx, hy, hf, hle, hlx, hgg, hC, hBw⟩ := hrel
   have hHX := Lib.hid hx
   have hHY := Lib.hid hy
   obtain ⟨px, cx, rfl, hdx, hcx, hcx2, -⟩ := hx.dg
   obtain ⟨py, cy, rfl, hdy, -, -, -⟩ := hy.dg
   have hml : (ds Y').length ≤ (ds X').length := (ds_len _ _).2 (Nat.lt_of_le_of_lt hle ((ds_len _ _).1 (Nat.le_refl _)))
   clear hx hy
   have HF := Lib.hid hf
   have HGG := Lib.hid hgg
   have HC := Lib.hid hC
   have HGH := Lib.hid hgh
   have HLE := Lib.hid hle
   clear hf hgg hC hgh hle
   by_cases h2 : 2 ≤ (ds Y').length
   ·have hred := reduced_any _ _ X' Y' B wr hHX.out hHY.out HLE.out hlx h2 hBw
    have hred2 : ∀ e w', Redu wr B X' Y' e w' → ∃ v1 v2 X'' Y'', e = .returned (.tuple #[v1, v2]) ∧ OwnD w' B v1 X'' ∧ OwnD w' B v2 Y'' ∧ Far v1 v2 ∧ Y'' < X'' ∧ Y'' < Y' ∧ X'' ≤ Y' ∧ Nat.gcd X'' Y'' = Nat.gcd X' Y' ∧ Ch wr.heap.size none1 wr w' := fun e w' h => h
    have HRED2 := Lib.hid hred2; clear hred2
    obtain ⟨m, hmm⟩ : ∃ m, (ds Y').length = m := ⟨_, rfl⟩
    obtain ⟨n, hnn⟩ : ∃ n, (ds X').length = n := ⟨_, rfl⟩
    rw [hmm] at h2 hml hred ⊢
    rw [hnn] at hml hred hlx ⊢
    have HNN := Lib.hid hnn
    have HRED := Lib.hid hred
    clear hnn hmm hred
    go_wp2_with fail
    refine HRED.out.mono ?_
    intro e w4 hR
    obtain ⟨v1, v2, X2, Y2, rfl, ho1, ho2, hf2, hl1, hl2, hl3, hg2, hC4⟩ := HRED2.out e w4 hR
    have HO1 := Lib.hid ho1
    have HO2 := Lib.hid ho2
    have HF2 := Lib.hid hf2
    have HG2 := Lib.hid (hg2.trans HGG.out)
    have HC4 := Lib.hid (HC.out.trans (hC4.mono hBw (fun _ _ q => q)))
    have HSZ := Lib.hid (Nat.le_trans hBw hC4.size)
    clear ho1 ho2 hf2 hg2 hC4 hR
    go_wp2_with fail
    go_roundg (Y2 + 0)
    case measure => have := HGH.out; omega
    case rel =>
     refine ⟨X2, Y2, rfl, HO1.out, HO2.out, HF2.out, Nat.le_of_lt hl1, ?_, HG2.out, HC4.out, HSZ.out⟩
     have h3 : (ds X2).length ≤ (ds X').length := (ds_len _ _).2 (Nat.lt_of_le_of_lt (Nat.le_trans hl3 HLE.out) ((ds_len _ _).1 (Nat.le_refl _)))
     have := HNN.out
     omega
   ·by_cases h1 : (ds Y').length = 0
    ·have hY0 : Y' = 0 := by
      have h := dv_ds Y'
      rw [List.eq_nil_of_length_eq_zero h1] at h
      simpa [dv] using h.symm
     subst hY0
     rw [h1]
     have HG := Lib.hid HGG.out
     have HR := Lib.hid (RdD.of_own hHX.out)
     clear h1 h2 hml
     obtain ⟨n, hnn⟩ : ∃ n, (ds X').length = n := ⟨_, rfl⟩
     rw [hnn] at HR ⊢
     clear hnn
     go_wp2_with fail
     go_ret
     refine ⟨_, rfl, ?_, HC.out⟩
     rw [← HG.out, Nat.gcd_zero_right]
     exact HR.out
    ·have h1' : (ds Y').length = 1 := by omega
     obtain ⟨hYD, hYl⟩ := ds_one Y' h1'
     have hY0 : 0 < Y' := by
      rcases Nat.eq_zero_or_pos Y' with h | h
      ·rw [h, ds_zero] at h1'; simp at h1'
      ·exact h
     have hn0 : 0 < (ds X').length := by omega
     obtain ⟨g, cap, post, hvx, hgB, hBx, hpl, hcm⟩ := own_blk hHX.out hn0
     simp only [Value.slice.injEq] at hvx
     obtain ⟨rfl, -, rfl⟩ := hvx
     obtain ⟨gy, oy, rfl⟩ := hdy.addr (by omega)
     have hne : g ≠ gy := HF.out _ _ _ _ _ _ rfl rfl
     have hy0 := hdy.get 0 (by omega)
     have hyv : (ds Y')[0]'(by rw [hdy.len]; omega) = Y' := by simp [hYl]
     rw [hyv, Nat.add_zero] at hy0
     have hgy := hdy.lt_size _ rfl
     rw [h1']
     have HXL := Lib.hid (show (ds X').length = (ds X').length from rfl)
     have hBx' : Blk wr g 125 ([] ++ (ds X').map U ++ post) := hBx.cast (by simp)
     have hdw := divideByWord_any (ds X').length cx Y' g 0 _ [] post (ds X') wr (dok_ds X') rfl (by omega) hY0 hYD hBx' rfl
     rw [dv_ds] at hdw
     have HDW := Lib.hid hdw
     have hmod : X' % Y' < D := Nat.lt_trans (Nat.mod_lt _ hY0) hYD
     have hcw := fun w => commonWord_any Y' (X' % Y') w hYD hmod
     have hgcd : Nat.gcd Y' (X' % Y') = Nat.gcd X Y := by rw [Nat.gcd_comm, ← Nat.gcd_rec, Nat.gcd_comm]; exact HGG.out
     rw [hgcd] at hcw
     have hG0 : Nat.gcd X Y < D ∧ 0 < Nat.gcd X Y := by
      rw [← HGG.out]
      exact ⟨Nat.lt_of_le_of_lt (Nat.gcd_le_right _ hY0) hYD, Nat.gcd_pos_of_pos_right _ hY0⟩
     have HG0 := Lib.hid hG0
     have HCW := Lib.hid hcw
     have HGY := Lib.hid hgy
     have HGB := Lib.hid hgB
     have HHY0 := Lib.hid hy0
     have HNE := Lib.hid hne
     have HBL := Lib.hid hBx.lt
     clear hdw hcw hgcd hG0 h1 h1' h2 hml hYl hdy hdx hn0 hpl hcm hBx hBx' HXL hHX hHY HF hgy hgB hyv hcx hcx2
     obtain ⟨n, hnn⟩ : ∃ n, (ds X').length = n := ⟨_, rfl⟩
     obtain ⟨r, hr⟩ : ∃ r, X' % Y' = r := ⟨_, rfl⟩
     rw [hr] at HDW HCW hmod
     rw [hnn] at HDW ⊢
     clear hnn hr
     go_wp2_with fail
     refine HDW.out.mono ?_
     rintro e w4 ⟨zs, rfl, -, -, -, -, hC4⟩
     have hy4 := (hC4.cell (p := ⟨gy, oy, none⟩) HGY.out (fun q => HNE.out q.symm)).trans HHY0.out
     have HC5 := Lib.hid (HC.out.step hC4 hB (fun k hk q => by have := HGB.out; omega))
     have hs4 := hC4.size
     clear hC4 hy0
     go_wp2_with fail
     refine (HCW.out _).mono ?_
     rintro e w5 ⟨rfl, hC6⟩
     have hnew := Blk.new w5 #[U (Nat.gcd X Y)] 125
     have hb5 : B ≤ w5.heap.size := Nat.le_trans (Nat.le_trans hBw hs4) hC6.size
     have hown : OwnD (w5.alloc (.cells #[U (Nat.gcd X Y)] 125 (0, 0))) B (.slice (some ⟨w5.heap.size, 0, none⟩) (tlen [Nat.gcd X Y]) 1) (dv [Nat.gcd X Y]) := OwnD.of_blk hnew (Dok.cons HG0.out.1 Dok.nil) rfl (by decide) hb5
     have hv1 : dv [Nat.gcd X Y] = Nat.gcd X Y := by simp [dv]
     have ht1 : tlen [Nat.gcd X Y] = 1 := tlen_one _ HG0.out.2
     rw [hv1, ht1] at hown
     have HR := Lib.hid (RdD.of_own hown)
     have HC7 := Lib.hid ((HC5.out.trans (hC6.mono (Nat.le_trans hBw hs4) (fun _ _ q => q))).alloc hb5 (.cells #[U (Nat.gcd X Y)] 125 (0, 0)))
     clear hnew hown hv1 ht1 hC6
     go_wp2_with fail
     go_ret
     exact ⟨_, rfl, HR.out, HC7.out⟩
set_option maxRecDepth 100000 in
set_option maxHeartbeats 1600000 in
theorem Gcd_digits (a b : List UInt8) (w : World) (ha : a.length ≤ LIM) (hb : b.length ≤ LIM) (h : ¬ (bv a < 18446744073709551616 ∧ bv b < 18446744073709551616)) :
  Calls Tryz.prog 152 #[S a, S b] w fun e w' => e = .returned (S (nb (Nat.gcd (bv a) (bv b)))) ∧ Ch w.heap.size none1 w w' := by
 have ham : a.length ≤ maxLen := by unfold LIM at ha; unfold maxLen; omega
 have hbm : b.length ≤ maxLen := by unfold LIM at hb; unfold maxLen; omega
 have hal := ds_lim a ha
 have hbl := ds_lim b hb
 have ha2 : a.length ≤ 140737488351232 := by unfold LIM at ha; omega
 have hb2 : b.length ≤ 140737488351232 := by unfold LIM at hb; omega
 go_enter Tryz.func152, Tryz.ntmps152
 go_wp2_with fail
 refine (words_no a b _ ham hbm h).mono ?_
 rintro e w' ⟨rfl, rfl⟩
 obtain ⟨w, rfl⟩ : ∃ w : World, w = w' := ⟨_, rfl⟩
 go_wp2_with fail
 refine (digitsOf_any a _ ha2).mono ?_
 rintro e w1 ⟨g1, rfl, hB1, hg1, hC1⟩
 have ho1 := OwnD.of_blk (B := w.heap.size) hB1 (dok_ds _) rfl (by unfold maxLen; omega) hg1
 rw [tlen_ds, dv_ds] at ho1
 have HO1 := Lib.hid ho1
 have HC1 := Lib.hid hC1
 clear ho1 hB1 hg1 hC1
 obtain ⟨n, hn⟩ : ∃ n, (ds (bv a)).length = n := ⟨_, rfl⟩
 have HN := Lib.hid hn
 rw [hn] at hal HO1 ⊢
 clear hn
 go_wp2_with fail
 refine (digitsOf_any b _ hb2).mono ?_
 rintro e w2 ⟨g2, rfl, hB2, hg2, hC2⟩
 have ho2 := OwnD.of_blk (B := w1.heap.size) hB2 (dok_ds _) rfl (by unfold maxLen; omega) hg2
 rw [tlen_ds, dv_ds] at ho2
 have hfar := HO1.out.far ho2 (Nat.le_refl _)
 have HO2 := Lib.hid (ho2.mono HC1.out.size)
 have HO1' := Lib.hid (HO1.out.ch hC2 (Nat.le_refl _) (fun _ _ _ q => q))
 have HF := Lib.hid hfar
 have HC2 := Lib.hid (HC1.out.step0 hC2 (Nat.le_refl _))
 clear ho2 hB2 hg2 hC2 hfar HO1 HC1
 obtain ⟨m, hm⟩ : ∃ m, (ds (bv b)).length = m := ⟨_, rfl⟩
 have HM := Lib.hid hm
 rw [hm] at hbl HO2 HF ⊢
 clear hm
 have hco := common_any _ _ (bv a) (bv b) w.heap.size w2 HO1'.out HO2.out HF.out (by rw [HN.out]; exact hal) (by rw [HM.out]; exact hbl) HC2.out.size
 have HCO := Lib.hid hco; clear hco
 go_wp2_with fail
 refine HCO.out.mono ?_
 rintro e w3 ⟨v, rfl, ⟨p, cap, rfl, hd⟩, hC3⟩
 have hgl : (ds (Nat.gcd (bv a) (bv b))).length ≤ 17592186044416 := by
  rcases Nat.eq_zero_or_pos (bv a) with h0 | h0
  ·rw [h0, Nat.gcd_zero_left]
   have := HM.out
   omega
  ·have h1 : (ds (Nat.gcd (bv a) (bv b))).length ≤ (ds (bv a)).length := (ds_len _ _).2 (Nat.lt_of_le_of_lt (Nat.gcd_le_left _ h0) ((ds_len _ _).1 (Nat.le_refl _)))
   have := HN.out
   omega
 have hna := natural_any p _ cap _ w3 hd hgl
 rw [dv_ds] at hna
 have HNA := Lib.hid hna
 have HC3 := Lib.hid (HC2.out.trans hC3)
 clear hna hd hC3 hgl
 obtain ⟨k, hk⟩ : ∃ k, (ds (Nat.gcd (bv a) (bv b))).length = k := ⟨_, rfl⟩
 rw [hk] at HNA ⊢
 clear hk
 go_wp2_with fail
 refine HNA.out.mono ?_
 rintro e w4 ⟨rfl, hC4⟩
 go_wp2_with fail
 go_ret
 exact ⟨rfl, HC3.out.step0 hC4 (Nat.le_refl _)⟩
theorem Gcd_any (a b : List UInt8) (w : World) (ha : a.length ≤ LIM) (hb : b.length ≤ LIM) :
  Calls Tryz.prog 152 #[S a, S b] w fun e w' => e = .returned (S (nb (Nat.gcd (bv a) (bv b)))) ∧ Ch w.heap.size none1 w w' := by
 by_cases h : bv a < 18446744073709551616 ∧ bv b < 18446744073709551616
 ·exact Gcd_words a b w ha hb h.1 h.2
 ·exact Gcd_digits a b w ha hb h
end Go.Proofs.YtkeomlpecjjhiaaGreatDoor
namespace Go.Proofs.YtkeomlpecjjhiaaGreatDoor
end Go.Proofs.YtkeomlpecjjhiaaGreatDoor
namespace Go.Proofs.YtkeomlpecjjhiaaGreatDoor
open Go.RowKit
/-- v is a slice of n digits of the value N, zeros at the end allowed. -/
def RdP (w : World) (v : Value) (n N : Nat) : Prop := ∃ p cap zs, v = .slice p n cap ∧ Dg w p n zs ∧ dv zs = N
theorem RdP.ch {w w' : World} {v : Value} {n N : Nat} (h : RdP w v n N) (hC : Ch w.heap.size none1 w w') : RdP w' v n N := by
 obtain ⟨p, cap, zs, rfl, hd, hv⟩ := h
 exact ⟨p, cap, zs, rfl, Dg.ch hC hd (fun a ha => ⟨hd.lt_size a ha, fun q => q⟩), hv⟩
end Go.Proofs.YtkeomlpecjjhiaaGreatDoor
namespace Go.Proofs.YtkeomlpecjjhiaaGreatDoor
open Go.RowKit
section
variable {P : Program}
/-- 'append' of a slice, nil or not, to a slice of one's own, at a step of a region that draws its order. -/
theorem step_append_src (w : World) {ops : Array Oper} {o : Oper} {a : Act} {K : Act → World → Prop} {Q : Exit → Act → World → Prop} {E : Prop} (hgd : o.guard = none) (s x : Operand) (t : TypeId)
  (ho : o.op = .call { callee := .builtin .append, args := #[s, x], argTypes := #[t, t] })
  (base : Nat) (e : TypeId) (i : TypeInfo) (z : Value) (bytes : Nat) (ht : P.underlying t = some (.slice e)) (hi : P.info? e = some i) (hz : i.zero = some z)
  (hsize : i.size = 1) (hby : i.bytes = bytes) (hzs : z.cells.size = 1)
  (v : Value) (n : Nat) (xs : List Value) (hs : a.eval s = v) (hown : w.ownsRow base e 1 v n xs)
  (ao : Option Addr) (m c : Nat) (news : List Value) (hx : a.eval x = .slice ao m c) (hl : news.length = m) (hnone : ao = none → m = 0 ∧ c = 0) (hnews : ∀ ad, ao = some ad → ∀ j u, news[j]? = some u → w.cell? (ad.add j) = some u) (h1 : ∀ u ∈ news, u.oneCell' = true)
  (h63 : n + m ≤ maxLen) (hbytes : (n + m) * bytes ≤ 140737488355328) (hbase : base ≤ w.heap.size)
  (h : ∀ v' w', w'.ownsRow base e 1 v' (n + m) (xs ++ news) → w.grownBy w' v.ownBlock → K (a.put o.dst v') w') :
  if Region.wanted o (yielded ops a.tmps) = true then Oper.wp P o a w K Q else E := by
 have hw : Region.wanted o (yielded ops a.tmps) = true := by simp [Region.wanted, hgd]
 rw [if_pos hw]
 cases ao with
 | some ad => exact wp_append_own w s x t ho base e i z 1 bytes ht hi hz hsize hby hzs (by omega) v n xs hs hown ad m c news hx (by omega) (hnews ad rfl) h1 h63 hbytes hbase fun v' w' h2 h3 _ => h v' w' h2 h3
 | none =>
  obtain ⟨rfl, rfl⟩ := hnone rfl
  have hnews : news = [] := List.eq_nil_of_length_eq_zero hl
  subst hnews
  have hrun := run_append_owned_none (P := P) (w := w) base t o.type e i 1 ht hi v n xs hown
  unfold Oper.wp
  simp [execOp, ho, resolve, invoke, builtin, hs, hx, hrun, Result.andThen]
  exact h v w (by simpa using hown) (World.grownBy.refl _ _)
end
end Go.Proofs.YtkeomlpecjjhiaaGreatDoor
namespace Go.Proofs.YtkeomlpecjjhiaaGreatDoor
open Go.RowKit
theorem nb_is (l : List UInt8) (n : Nat) (h : bv l = n) (ht : trimL l = l) : nb n = l := by rw [← trimL_of_nb h, ht]
theorem pow_ch {w w' : World} (h : pow10Is w) (hC : Ch w.heap.size none1 w w') : pow10Is w' := tab_ch h hC
theorem ch_same {w w' : World} (h : w' = w) : Ch w.heap.size none1 w w' := by subst h; exact Ch.refl _ _ _
abbrev Yld (w : World) (v : Value) (e : Ending) (w' : World) : Prop := e = .returned v ∧ Ch w.heap.size none1 w w'
end Go.Proofs.YtkeomlpecjjhiaaGreatDoor
namespace Go.Proofs.YtkeomlpecjjhiaaGreatDoor
open Go.RowKit
theorem ext_drop (l : List UInt8) (k n : Nat) (h : n = l.length) : (ByteArray.mk l.toArray).extract k n = ⟨(l.drop k).toArray⟩ := by
 subst h
 apply ByteArray.ext
 simp [ByteArray.data_extract]
 exact List.take_of_length_le (by rw [List.length_drop]; exact Nat.le_refl _)
theorem trimL_drop_step (l : List UInt8) (k : Nat) (hk : k < l.length) (h : l[k] = 0) : trimL (l.drop k) = trimL (l.drop (k + 1)) := by
 rw [List.drop_eq_getElem_cons hk, h, trimL_zero]
theorem trimL_drop_stop (l : List UInt8) (k : Nat) (hk : k < l.length) (h : ¬ l[k] = 0) : trimL (l.drop k) = l.drop k := by
 rw [List.drop_eq_getElem_cons hk, trimL_ne _ _ h]
set_option maxRecDepth 100000 in
set_option maxHeartbeats 800000 in
theorem canon_any (l : List UInt8) (w : World) (hl : l.length ≤ 1152921504606846975) :
  Calls Tryz.prog 79 #[S l] w fun e w' => e = .returned (S (trimL l)) ∧ w' = w := by
 go_enter Tryz.func79, Tryz.ntmps79
 go_wp2_with fail
 go_loop [3] (fun i => ∃ k : Nat, k ≤ l.length ∧ i = .int .i64 k ∧ trimL (l.drop k) = trimL l) (fun i => l.length - (intOf i).toNat)
 case atStart => exact ⟨0, Nat.zero_le _, rfl, by rw [List.drop_zero]⟩
 case round =>
  obtain ⟨k, hk, rfl, ht⟩ := hrel
  have HT := Lib.hid ht; clear ht
  by_cases hlt : k < l.length
  ·have hst := trimL_drop_step l k hlt
   have hsp := trimL_drop_stop l k hlt
   obtain ⟨b, hb⟩ : ∃ b, l[k] = b := ⟨_, rfl⟩
   rw [hb] at hst hsp
   have hg : ∀ h', (ByteArray.mk l.toArray)[k]'h' = b := fun _ => hb
   have HB := Lib.hid hb; clear hb
   have HST := Lib.hid hst; clear hst
   have HSP := Lib.hid hsp; clear hsp
   by_cases h0 : b = 0
   ·subst h0
    go_wp2_with fail
    go_round
    case rel => exact ⟨k + 1, by omega, by go_num, by rw [← HST.out rfl]; exact HT.out⟩
    case measure => simp [intOf]; omega
   ·have hbb : (((b.toNat : Nat) : Int) == 0) = false := by
     rw [beq_eq_false_iff_ne]
     intro h
     exact h0 (UInt8.toNat_inj.1 (show b.toNat = (0 : UInt8).toNat from by simpa using h))
    go_wp2_with fail
    go_ret
    exact ⟨by rw [ext_drop l k _ rfl, ← HT.out, HSP.out h0]; rfl, rfl⟩
  ·have hkl : k = l.length := by omega
   have HKL := Lib.hid hkl; clear hkl
   go_wp2_with fail
   go_ret
   refine ⟨?_, rfl⟩
   have h1 := HT.out
   rw [List.drop_of_length_le (by omega)] at h1
   rw [← h1, ext_drop l k _ rfl, List.drop_of_length_le (by omega)]
   rfl
set_option maxHeartbeats 800000 in
theorem refRight_any (a : List UInt8) (w : World) (ha : a.length ≤ maxLen) :
  Calls Tryz.prog 126 #[S a] w fun e w' => e = .returned (.bool (rightB a)) ∧ w' = w := by
 unfold maxLen at ha
 rcases a with _ | ⟨b, l⟩
 ·go_enter Tryz.func126, Tryz.ntmps126
  go_wp2_with fail
  go_ret
  exact ⟨rfl, rfl⟩
 ·go_enter Tryz.func126, Tryz.ntmps126
  go_wp2_with fail
  go_ret
  exact ⟨ret_bool (u8_ne b), rfl⟩
end Go.Proofs.YtkeomlpecjjhiaaGreatDoor
namespace Go.Proofs.YtkeomlpecjjhiaaGreatDoor
open Go.RowKit
/-- A slice of bytes that came in reads as the list l. -/
def BS (w : World) (v : Value) (l : List UInt8) : Prop :=
 ∃ p cap, v = .slice p l.length cap ∧ l.length ≤ cap ∧ cap ≤ maxLen ∧ (p = none → cap = 0) ∧
  (0 < l.length → ∃ g off, p = some ⟨g, off, none⟩ ∧ ∀ i (h : i < l.length), w.cell? ⟨g, off + i, none⟩ = some (Y l[i]))
theorem cell_lt {w : World} {p : Addr} {v : Value} (h : w.cell? p = some v) : p.block < w.heap.size := by
 by_cases hb : p.block < w.heap.size
 ·exact hb
 ·exfalso
  have : w.heap[p.block]? = none := Array.getElem?_eq_none (by omega)
  simp [World.cell?, this] at h
theorem BS.ch {w w' : World} {v : Value} {l : List UInt8} (h : BS w v l) (hC : Ch w.heap.size none1 w w') : BS w' v l := by
 obtain ⟨p, cap, hv, h1, h2, h3, h4⟩ := h
 refine ⟨p, cap, hv, h1, h2, h3, fun h0 => ?_⟩
 obtain ⟨g, off, hp, hc⟩ := h4 h0
 exact ⟨g, off, hp, fun i hi => by
  have h := hc i hi
  rw [hC.cell (p := ⟨g, off + i, none⟩) (cell_lt h) (fun q => q)]; exact h⟩
section
variable {P : Program}
end
end Go.Proofs.YtkeomlpecjjhiaaGreatDoor
namespace Go.Proofs.YtkeomlpecjjhiaaGreatDoor
open Go.RowKit
abbrev Ans (f : Nat) (args : Array Value) (v : Value) : Prop := ∀ w : World, Calls Tryz.prog f args w (Yld w v)
theorem has_nb (n : Nat) : ∃ l, nb n = l ∧ bv l = n := ⟨nb n, rfl, bv_nb n⟩
theorem lim_k {n : Nat} (h : n ≤ 10000) : n ≤ LIM := by unfold LIM; omega
theorem max_k {n : Nat} (h : n ≤ 10000) : n ≤ maxLen := by unfold maxLen; omega
theorem add_bound {m A B : Nat} (h1 : A < 256 ^ m) (h2 : B < 256 ^ m) : A + B < 256 ^ (m + 1) := by rw [Nat.pow_succ]; omega
theorem mulb {m k A B : Nat} (h1 : A < 256 ^ m) (h2 : B < 256 ^ k) : A * B < 256 ^ (m + k) := mul_bound 256 m k A B h1 h2
theorem upb {m k A : Nat} (h1 : A < 256 ^ m) (h2 : m ≤ k) : A < 256 ^ k := Nat.lt_of_lt_of_le h1 (Nat.pow_le_pow_right (by omega) h2)
theorem bv_b {l : List UInt8} {k : Nat} (h : l.length ≤ k) : bv l < 256 ^ k := upb (bv_lt l) h
theorem C_add {a b l : List UInt8} {n : Nat} (hl : nb n = l) (ha : a.length ≤ 10000) (hb : b.length ≤ 10000) (hn : bv a + bv b = n) : Ans 100 #[S a, S b] (S l) := fun w =>
 (Add_any a b w (lim_k ha) (lim_k hb)).mono fun _ _ ⟨he, hC⟩ => ⟨by rw [he, hn, hl], hC⟩
theorem C_mul {a b l : List UInt8} {n : Nat} (hl : nb n = l) (ha : a.length ≤ 10000) (hb : b.length ≤ 10000) (hn : bv a * bv b = n) : Ans 103 #[S a, S b] (S l) := fun w =>
 (Mul_any a b w (lim_k ha) (lim_k hb)).mono fun _ _ ⟨he, hC⟩ => ⟨by rw [he, hn, hl], hC⟩
theorem C_sub {a b l : List UInt8} {n : Nat} (hl : nb n = l) (ha : a.length ≤ 10000) (hb : b.length ≤ 10000) (hn : bv a = n + bv b) : Ans 104 #[S a, S b] (.tuple #[S l, .bool true]) := fun w =>
 (Sub_yes a b w (lim_k ha) (lim_k hb) (by omega)).mono fun _ _ ⟨he, hC⟩ => ⟨by rw [he, show bv a - bv b = n from by omega, hl], hC⟩
theorem C_sub_no {a b : List UInt8} (ha : a.length ≤ 10000) (hb : b.length ≤ 10000) (hn : bv a < bv b) : Ans 104 #[S a, S b] (.tuple #[S [], .bool false]) := fun w =>
 (Sub_no a b w (lim_k ha) (lim_k hb) hn).mono fun _ _ ⟨he, hC⟩ => ⟨he, ch_same hC⟩
theorem C_quo {a b l m : List UInt8} {n k : Nat} (hl : nb n = l) (hm : nb k = m) (ha : a.length ≤ 10000) (hb : b.length ≤ 10000) (h0 : 0 < bv b) (hn : bv a / bv b = n) (hk : bv a % bv b = k) : Ans 102 #[S a, S b] (.tuple #[S l, S m, .bool true]) := fun w =>
 (Quo_yes a b w (lim_k ha) (lim_k hb) h0).mono fun _ _ ⟨he, hC⟩ => ⟨by rw [he, hn, hk, hl, hm], hC⟩
theorem C_bits {a : List UInt8} {k : Int} (ha : a.length ≤ 10000) (hn : (nbits (bv a) : Int) = k) : Ans 78 #[S a] (.int .i64 k) := fun w =>
 (bits_any a w (by omega)).mono fun _ _ ⟨he, hC⟩ => ⟨by rw [he, hn], ch_same hC⟩
theorem C_right {a : List UInt8} {k : Bool} (ha : a.length ≤ 10000) (hn : rightB a = k) : Ans 112 #[S a] (.bool k) := fun w =>
 (right_any a w (max_k ha)).mono fun _ _ ⟨he, hC⟩ => ⟨by rw [he, hn], ch_same hC⟩
theorem C_canon {a l : List UInt8} {n : Nat} (hl : nb n = l) (ha : a.length ≤ 10000) (hn : bv a = n) : Ans 79 #[S a] (S l) := fun w =>
 (canon_any a w (by omega)).mono fun _ _ ⟨he, hC⟩ => ⟨by rw [he, ← hl, trimL_of_nb hn], ch_same hC⟩
theorem C_refRight {a : List UInt8} {k : Bool} (ha : a.length ≤ 10000) (hn : rightB a = k) : Ans 126 #[S a] (.bool k) := fun w =>
 (refRight_any a w (max_k ha)).mono fun _ _ ⟨he, hC⟩ => ⟨by rw [he, hn], ch_same hC⟩
end Go.Proofs.YtkeomlpecjjhiaaGreatDoor
namespace Go.Proofs.YtkeomlpecjjhiaaGreatDoor
/-- The base of digits. -/
def E24 : Nat := 16777216
theorem E24_eq : E24 = 16777216 := rfl
theorem E24_pos : 0 < E24 := by unfold E24; omega
/-- The value of digits, the least significant one first. -/
def ev : List Nat → Nat | [] => 0 | x :: xs => x + E24 * ev xs
def Eok (xs : List Nat) : Prop := ∀ x ∈ xs, x < E24
theorem Eok.nil : Eok [] := fun _ h => by simp at h
theorem Eok.cons {x : Nat} {xs : List Nat} (h : x < E24) (k : Eok xs) : Eok (x :: xs) := fun y hy => by
 rcases List.mem_cons.1 hy with rfl | q
 ·exact h
 ·exact k y q
theorem Eok.append {xs ys : List Nat} (h : Eok xs) (k : Eok ys) : Eok (xs ++ ys) := fun y hy => by
 rcases List.mem_append.1 hy with q | q
 ·exact h y q
 ·exact k y q
theorem Eok.left {xs ys : List Nat} (h : Eok (xs ++ ys)) : Eok xs := fun y hy => h y (List.mem_append_left _ hy)
theorem Eok.right {xs ys : List Nat} (h : Eok (xs ++ ys)) : Eok ys := fun y hy => h y (List.mem_append_right _ hy)
theorem Eok.take {xs : List Nat} (h : Eok xs) (k : Nat) : Eok (xs.take k) := fun y hy => h y (List.mem_of_mem_take hy)
theorem Eok.drop {xs : List Nat} (h : Eok xs) (k : Nat) : Eok (xs.drop k) := fun y hy => h y (List.mem_of_mem_drop hy)
theorem Eok.get {xs : List Nat} (h : Eok xs) (k : Nat) (hk : k < xs.length) : xs[k] < E24 := h _ (List.getElem_mem hk)
theorem Eok.zeros (n : Nat) : Eok (List.replicate n 0) := fun y hy => by
 rw [(List.mem_replicate.1 hy).2]; exact E24_pos
theorem Eok.set {xs : List Nat} (h : Eok xs) (k v : Nat) (hv : v < E24) : Eok (xs.set k v) := fun y hy => by
 rcases List.mem_or_eq_of_mem_set hy with q | q
 ·exact h y q
 ·rw [q]; exact hv
theorem ev_cons (x : Nat) (xs : List Nat) : ev (x :: xs) = x + E24 * ev xs := rfl
theorem ev_append (xs ys : List Nat) : ev (xs ++ ys) = ev xs + E24 ^ xs.length * ev ys := by
 induction xs with
 | nil => simp [ev]
 | cons x xs ih =>
  simp only [List.cons_append, ev_cons, ih, List.length_cons, Nat.pow_succ, Nat.mul_add]
  rw [← Nat.mul_assoc E24 (E24 ^ xs.length), Nat.mul_comm E24 (E24 ^ xs.length)]
  omega
theorem ev_snoc (xs : List Nat) (y : Nat) : ev (xs ++ [y]) = ev xs + E24 ^ xs.length * y := by
 rw [ev_append]; simp [ev]
theorem ev_lt {xs : List Nat} (h : Eok xs) : ev xs < E24 ^ xs.length := by
 induction xs with
 | nil => simp [ev]
 | cons x xs ih =>
  have h1 := h x (List.mem_cons_self ..)
  have h2 := ih (fun y hy => h y (List.mem_cons_of_mem _ hy))
  rw [ev_cons, List.length_cons, Nat.pow_succ, Nat.mul_comm (E24 ^ xs.length) E24]
  have := Nat.mul_le_mul_left E24 (show ev xs + 1 ≤ E24 ^ xs.length from h2)
  rw [Nat.mul_add] at this
  omega
theorem ev_zeros (n : Nat) : ev (List.replicate n 0) = 0 := by
 induction n with
 | zero => rfl
 | succ n ih => rw [List.replicate_succ, ev_cons, ih]; simp
theorem ev_take_drop (xs : List Nat) (k : Nat) (hk : k ≤ xs.length) : ev xs = ev (xs.take k) + E24 ^ k * ev (xs.drop k) := by
 have := ev_append (xs.take k) (xs.drop k)
 rw [List.take_append_drop, List.length_take, Nat.min_eq_left hk] at this
 exact this
theorem ev_take_succ (xs : List Nat) (k : Nat) (hk : k < xs.length) : ev (xs.take (k + 1)) = ev (xs.take k) + E24 ^ k * xs[k] := by
 rw [List.take_succ_eq_append_getElem hk, ev_snoc, List.length_take, Nat.min_eq_left (by omega)]
/-- The digits of a number without zeros at the end. -/
def es (n : Nat) : List Nat := if _h : n = 0 then [] else n % E24 :: es (n / E24)
termination_by n
decreasing_by exact Nat.div_lt_self (by omega) (by unfold E24; omega)
theorem es_zero : es 0 = [] := by unfold es; simp
theorem es_pos (n : Nat) (h : n ≠ 0) : es n = n % E24 :: es (n / E24) := by rw [es]; simp [h]
theorem ev_es (n : Nat) : ev (es n) = n := by
 induction n using Nat.strongRecOn with
 | ind n ih =>
  by_cases h : n = 0
  ·subst h; rw [es_zero]; rfl
  ·rw [es_pos n h, ev_cons, ih (n / E24) (Nat.div_lt_self (by omega) (by unfold E24; omega))]
   exact Nat.mod_add_div n E24
theorem eok_es (n : Nat) : Eok (es n) := by
 induction n using Nat.strongRecOn with
 | ind n ih =>
  by_cases h : n = 0
  ·subst h; rw [es_zero]; exact Eok.nil
  ·rw [es_pos n h]
   exact Eok.cons (Nat.mod_lt _ E24_pos) (ih (n / E24) (Nat.div_lt_self (by omega) (by unfold E24; omega)))
theorem es_get (n i : Nat) (hi : i < (es n).length) : (es n)[i] = n / E24 ^ i % E24 := by
 induction n using Nat.strongRecOn generalizing i with
 | ind n ih =>
  by_cases h : n = 0
  ·subst h; simp [es_zero] at hi
  ·have e := es_pos n h
   rcases i with _ | i
   ·simp [e]
   ·have hi' : i < (es (n / E24)).length := by rw [e] at hi; simpa using hi
    have := ih (n / E24) (Nat.div_lt_self (by omega) (by unfold E24; omega)) i hi'
    simp only [e, List.getElem_cons_succ, this]
    rw [Nat.div_div_eq_div_mul, Nat.pow_succ, Nat.mul_comm E24]
theorem es_len (n k : Nat) : (es n).length ≤ k ↔ n < E24 ^ k := by
 induction n using Nat.strongRecOn generalizing k with
 | ind n ih =>
  by_cases h : n = 0
  ·subst h; simp [es_zero, Nat.pow_pos E24_pos]
  ·rw [es_pos n h, List.length_cons]
   rcases k with _ | k
   ·simp; omega
   ·have := ih (n / E24) (Nat.div_lt_self (by omega) (by unfold E24; omega)) k
    rw [show (es (n / E24)).length + 1 ≤ k + 1 ↔ (es (n / E24)).length ≤ k from by omega, this, Nat.div_lt_iff_lt_mul E24_pos, Nat.pow_succ]
/-- How many digits are left without the zeros at the end. -/
def ulen : List Nat → Nat | [] => 0 | x :: xs => if ulen xs = 0 then (if x = 0 then 0 else 1) else ulen xs + 1
theorem ulen_le (xs : List Nat) : ulen xs ≤ xs.length := by
 induction xs with
 | nil => simp [ulen]
 | cons x xs ih => simp only [ulen, List.length_cons]; split <;> (try split) <;> omega
theorem ulen_iff (xs : List Nat) (k : Nat) : ulen xs ≤ k ↔ ∀ j, k ≤ j → xs.getD j 0 = 0 := by
 induction xs generalizing k with
 | nil => simp [ulen]
 | cons x xs ih =>
  rcases k with _ | k
  ·have := ih 0
   simp only [ulen]
   constructor
   ·intro h j _
    by_cases h0 : ulen xs = 0
    ·rw [if_pos h0] at h
     have hx : x = 0 := by by_cases q : x = 0; exact q; rw [if_neg q] at h; omega
     rcases j with _ | j
     ·simpa using hx
     ·simpa using (this.1 (by omega)) j (by omega)
    ·rw [if_neg h0] at h; omega
   ·intro h
    have h1 : ulen xs = 0 := by
     have := this.2 (fun j _ => by simpa using h (j + 1) (by omega)); omega
    have h2 : x = 0 := by simpa using h 0 (by omega)
    rw [if_pos h1, if_pos h2]; omega
  ·have := ih k
   simp only [ulen]
   constructor
   ·intro h j hj
    rcases j with _ | j
    ·omega
    ·have h1 : ulen xs ≤ k := by split at h <;> omega
     simpa using this.1 h1 j (by omega)
   ·intro h
    have h1 := this.2 (fun j hj => by simpa using h (j + 1) (by omega))
    split <;> (try split) <;> omega
theorem ev_eq_zero (xs : List Nat) : ev xs = 0 ↔ ulen xs = 0 := by
 induction xs with
 | nil => simp [ev, ulen]
 | cons x xs ih =>
  rw [ev_cons]
  have := E24_pos
  simp only [ulen]
  by_cases h : ulen xs = 0
  ·rw [if_pos h, ih.2 h]
   by_cases hx : x = 0 <;> simp [hx]
  ·have h1 : ev xs ≠ 0 := fun q => h (ih.1 q)
   have h2 : 0 < E24 * ev xs := Nat.mul_pos E24_pos (by omega)
   rw [if_neg h]; omega
theorem trimE (xs : List Nat) (h : Eok xs) : xs.take (ulen xs) = es (ev xs) := by
 induction xs with
 | nil => simp [ev, es_zero]
 | cons x xs ih =>
  have h1 : x < E24 := h x (List.mem_cons_self ..)
  have ih := ih (fun y hy => h y (List.mem_cons_of_mem _ hy))
  rw [ev_cons]
  by_cases h0 : ulen xs = 0
  ·have hz := (ev_eq_zero xs).2 h0
   simp only [ulen, if_pos h0, hz]
   by_cases hx : x = 0
   ·simp [hx, es_zero]
   ·rw [if_neg hx, show x + E24 * 0 = x from by simp, es_pos x hx, Nat.mod_eq_of_lt h1, Nat.div_eq_of_lt h1, es_zero]
    simp
  ·have hz : ev xs ≠ 0 := fun q => h0 ((ev_eq_zero xs).1 q)
   have hp : 0 < E24 * ev xs := Nat.mul_pos E24_pos (by omega)
   simp only [ulen, if_neg h0]
   rw [es_pos (x + E24 * ev xs) (by omega), Nat.add_mul_mod_self_left, Nat.mod_eq_of_lt h1, Nat.add_mul_div_left _ _ E24_pos, Nat.div_eq_of_lt h1, Nat.zero_add, List.take_succ_cons, ih]
theorem E24_pow (k : Nat) : E24 ^ k = 256 ^ (3 * k) := by rw [Nat.pow_mul, show (256 : Nat) ^ 3 = E24 from by decide]
theorem es_len_bytes (l : List UInt8) : (es (bv l)).length = ((trimL l).length + 2) / 3 := by
 have h1 : ∀ k, (es (bv l)).length ≤ k ↔ (trimL l).length ≤ 3 * k := fun k => by rw [es_len, E24_pow, trim_len]
 have h2 := (h1 (es (bv l)).length).1 (Nat.le_refl _)
 rcases Nat.eq_zero_or_pos (es (bv l)).length with h0 | h0
 ·omega
 ·have h3 := h1 ((es (bv l)).length - 1)
  omega
theorem bv_chunk3 (l : List UInt8) (k e : Nat) (he : e = l.length - 3 * k) (hk : 3 * k ≤ l.length) : bv ((l.take e).drop (e - 3)) = bv l / 256 ^ (3 * k) % 256 ^ 3 := by
 have hl : (l.take e).length = e := by rw [List.length_take]; omega
 have h := bv_drop_mod (l.take e) 3
 rw [hl] at h
 rw [h, he, bv_take_div l (3 * k) hk]
theorem es_chunk (l : List UInt8) (k e : Nat) (he : e = (trimL l).length - 3 * k) (hk : k < (es (bv l)).length) : bv (((trimL l).take e).drop (e - 3)) = (es (bv l))[k] := by
 have h := es_len_bytes l
 rw [bv_chunk3 (trimL l) k e he (by omega), es_get, E24_pow, bv_trim, show (256 : Nat) ^ 3 = E24 from by decide]
end Go.Proofs.YtkeomlpecjjhiaaGreatDoor
namespace Go.Proofs.YtkeomlpecjjhiaaGreatDoor
open Go.RowKit
abbrev I (n : Nat) : Value := .int .i64 (n : Int)
abbrev Own (w : World) (B : Nat) (e : TypeId) (v : Value) (xs : List Value) : Prop := w.ownsRow B e 1 v xs.length xs
theorem Own.nil (w : World) (B : Nat) (e : TypeId) : Own w B e (.slice none 0 0) [] := World.ownsRow_nil w B e 1
theorem Own.ch {w w' : World} {B : Nat} {e : TypeId} {v : Value} {xs : List Value} (h : Own w B e v xs) (hC : Ch w.heap.size none1 w w') : Own w' B e v xs := by
 refine ⟨h.1, ?_⟩
 rcases h.2 with hn | ⟨g, cap, cur, hv, hb, hg, hn, hm, hs, ht⟩
 ·exact .inl hn
 ·exact .inr ⟨g, cap, cur, hv, hb, (hC.block g (Array.getElem?_eq_some_iff.1 hg).1 (fun q => q)).trans hg, hn, hm, hs, ht⟩
theorem Ch.grown {w w' : World} {B : Nat} {e : TypeId} {v : Value} {xs : List Value} (hB : B ≤ w.heap.size) (ho : Own w B e v xs) (h : w.grownBy w' v.ownBlock) : Ch B none1 w w' :=
 ⟨h.os, h.tape, h.output, h.size, fun k hk _ => h.block k (by omega) (fun q => by have := (ho.lt k q.symm).1; omega)⟩
theorem Own.grow {w w' : World} {B : Nat} {e : TypeId} {v : Value} {xs : List Value} (ho : Own w B e v xs) (h : w.grownBy w' v.ownBlock) (hB : B ≤ w.heap.size) : Ch B none1 w w' := Ch.grown hB ho h
section
variable {P : Program}
/-- append to a slice of one's own, of cells that lie at an address. -/
theorem wpList_append_up (w : World) {ops : Array Oper} {rest : List Oper} {o : Oper} {a : Act} {Q : Exit → Act → World → Prop} (hgd : o.guard = none) (s x : Operand) (t : TypeId)
  (ho : o.op = .call { callee := .builtin .append, args := #[s, x], argTypes := #[t, t] })
  (B : Nat) (e : TypeId) (i : TypeInfo) (k : IntKind) (z : Int) (bytes : Nat) (ht : P.underlying t = some (.slice e)) (hi : P.info? e = some i) (hz : i.zero = some (.int k z))
  (hsize : i.size = 1) (hby : i.bytes = bytes) (hb8 : bytes ≤ 8)
  (v : Value) (xs : List Value) (hs : a.eval s = v) (hown : Own w B e v xs)
  (ad : Addr) (m c : Nat) (news : List Value) (hx : a.eval x = .slice (some ad) m c) (hl : news.length = m) (hnews : ∀ j u, news[j]? = some u → w.cell? (ad.add j) = some u) (h1 : ∀ u ∈ news, u.oneCell' = true)
  (h40 : xs.length + m ≤ 1000000000000) (hbase : B ≤ w.heap.size)
  (h : ∀ v' w', Own w' B e v' (xs ++ news) → Ch B none1 w w' → wpList P ops Q rest (a.put o.dst v') w') : wpList P ops Q (o :: rest) a w :=
 wpList_append_own w hgd s x t ho B e i _ 1 bytes ht hi hz hsize hby rfl (by decide) v xs.length xs hs hown ad m c news hx (by rw [hl, Nat.mul_one]) hnews h1 (by unfold maxLen; omega)
  (by have := Nat.mul_le_mul h40 hb8; omega) hbase fun v' w' h2 h3 _ => h v' w' (by rw [Own, List.length_append, hl]; exact h2) (Ch.grown hbase hown h3)
end
/-- A slice of digits base 2^24 as it is read: nil, or cells of a block from its head on. -/
structure Di (w : World) (p : Option Addr) (n : Nat) (xs : List Nat) : Prop where
 len : xs.length = n
 lt : Eok xs
 nil : p = none → n = 0
 at' : ∀ a, p = some a → a.spot = none ∧ a.off = 0 ∧ ∃ t post, Blk w a.block t (xs.map I ++ post)
theorem Di.get {w : World} {g o n : Nat} {xs : List Nat} (h : Di w (some ⟨g, o, none⟩) n xs) (i : Nat) (hi : i < n) : w.cell? ⟨g, o + i, none⟩ = some (I (xs[i]'(by rw [h.len]; exact hi))) := by
 obtain ⟨_, h0, t, post, hb⟩ := h.at' _ rfl
 simp only at h0
 subst h0
 have hx : i < xs.length := by rw [h.len]; exact hi
 rw [Nat.zero_add, hb.cell, List.getElem?_append_left (by simpa using hx)]
 simp [hx]
theorem Di.get0 {w : World} {g n : Nat} {xs : List Nat} (h : Di w (some ⟨g, 0, none⟩) n xs) (i : Nat) (hi : i < n) : w.cell? ⟨g, i, none⟩ = some (I (xs[i]'(by rw [h.len]; exact hi))) := by
 have := h.get i hi
 rwa [Nat.zero_add] at this
theorem Di.addr {w : World} {p : Option Addr} {n : Nat} {xs : List Nat} (h : Di w p n xs) (hn : 0 < n) : ∃ g, p = some ⟨g, 0, none⟩ := by
 cases p with
 | none => have := h.nil rfl; omega
 | some a =>
  obtain ⟨h1, h2, _⟩ := h.at' a rfl
  obtain ⟨g, o, s⟩ := a
  simp only at h1 h2
  subst h1 h2
  exact ⟨g, rfl⟩
theorem Di.lt_size {w : World} {p : Option Addr} {n : Nat} {xs : List Nat} (hd : Di w p n xs) : ∀ a, p = some a → a.block < w.heap.size := fun a ha => by
 obtain ⟨_, _, t, post, hb⟩ := hd.at' a ha
 exact hb.lt
theorem Di.ch {B : Nat} {w w' : World} (h : Ch B none1 w w') {p : Option Addr} {n : Nat} {xs : List Nat} (hd : Di w p n xs) (hp : ∀ a, p = some a → a.block < B) : Di w' p n xs :=
 ⟨hd.len, hd.lt, hd.nil, fun a ha => by
  obtain ⟨h1, h2, t, post, hb⟩ := hd.at' a ha
  exact ⟨h1, h2, t, post, h.blk hb (hp a ha) (fun q => q)⟩⟩
theorem Di.on {w w' : World} {p : Option Addr} {n : Nat} {xs : List Nat} (hd : Di w p n xs) (h : Ch w.heap.size none1 w w') : Di w' p n xs := Di.ch h hd hd.lt_size
theorem Di.take {w : World} {p : Option Addr} {n : Nat} {xs : List Nat} (hd : Di w p n xs) (k : Nat) (hk : k ≤ n) : Di w p k (xs.take k) := by
 refine ⟨by rw [List.length_take, hd.len]; omega, hd.lt.take k, fun h => by have := hd.nil h; omega, fun a ha => ?_⟩
 obtain ⟨h1, h2, t, post, hb⟩ := hd.at' a ha
 exact ⟨h1, h2, t, (xs.drop k).map I ++ post, hb.cast (by rw [← List.append_assoc, ← List.map_append, List.take_append_drop])⟩
theorem Di.nil' (w : World) : Di w none 0 [] := ⟨rfl, Eok.nil, fun _ => rfl, fun _ h => by cases h⟩
/-- What was made by appending reads as its digits. -/
theorem Own.di {w : World} {B : Nat} {e : TypeId} {v : Value} {xs : List Nat} (h : Own w B e v (xs.map I)) (hx : Eok xs) : ∃ p cap, v = .slice p xs.length cap ∧ xs.length ≤ cap ∧ cap ≤ maxLen ∧ (p = none → cap = 0) ∧ Di w p xs.length xs ∧ ∀ a, p = some a → B ≤ a.block := by
 rcases h.2 with ⟨hv, hn⟩ | ⟨g, cap, cur, hv, hb, hg, hn, hm, hs, ht⟩
 ·have hn' : xs = [] := by simpa using hn
  subst hn'
  exact ⟨none, 0, hv, Nat.le_refl _, by unfold maxLen; omega, fun _ => rfl, Di.nil' w, fun _ h => by cases h⟩
 ·rw [List.length_map] at hv hn ht
  rw [Nat.mul_one] at ht
  refine ⟨_, cap, hv, hn, hm, (fun h => by cases h), ⟨rfl, hx, fun h => (by cases h), fun a ha => ?_⟩, fun a ha => ?_⟩
  ·obtain rfl := Option.some.inj ha
   refine ⟨rfl, rfl, e, cur.toList.drop xs.length, ?_⟩
   rw [← ht, List.take_append_drop]
   unfold Blk
   simpa using hg
  ·obtain rfl := Option.some.inj ha
   exact hb
theorem new_cell (w : World) (u : Value) (t : TypeId) : ∀ j x, [u][j]? = some x → (w.alloc (.cells #[u] t (0, 0))).cell? ((⟨w.heap.size, 0, none⟩ : Addr).add j) = some x := fun j x hj =>
 (Blk.new w #[u] t).adds j x hj
theorem one_one (k : IntKind) (n : Int) : ∀ u ∈ [Value.int k n], u.oneCell' = true := fun u hu => by
 obtain rfl := List.mem_singleton.1 hu
 rfl
theorem size_alloc_le {B : Nat} {w : World} (o : Obj) (h : B ≤ w.heap.size) : B ≤ (w.alloc o).heap.size := by
 rw [World.size_alloc]; omega
end Go.Proofs.YtkeomlpecjjhiaaGreatDoor
namespace Go.Proofs.YtkeomlpecjjhiaaGreatDoor
theorem ev_getD (xs : List Nat) (k : Nat) : ev (xs.take (k + 1)) = ev (xs.take k) + E24 ^ k * xs.getD k 0 := by
 by_cases h : k < xs.length
 ·rw [ev_take_succ xs k h, List.getD_eq_getElem?_getD, List.getElem?_eq_getElem h]; rfl
 ·rw [List.take_of_length_le (by omega), List.take_of_length_le (by omega), List.getD_eq_getElem?_getD, List.getElem?_eq_none (by omega)]; simp
theorem getD_lt (xs : List Nat) (h : Eok xs) (k : Nat) : xs.getD k 0 < E24 := by
 by_cases hk : k < xs.length
 ·rw [List.getD_eq_getElem?_getD, List.getElem?_eq_getElem hk]; exact h.get k hk
 ·rw [List.getD_eq_getElem?_getD, List.getElem?_eq_none (by omega)]; exact E24_pos
theorem put_step (zs : List Nat) (k s : Nat) (hz : zs.length = k) : ev (zs ++ [s % E24]) + E24 ^ (k + 1) * (s / E24) = ev zs + E24 ^ k * s := by
 rw [ev_snoc, hz, Nat.pow_succ, Nat.add_assoc, Nat.mul_assoc, ← Nat.mul_add, Nat.mod_add_div]
theorem add_put (zs : List Nat) (k c x y X Y : Nat) (hz : zs.length = k) (h : ev zs + E24 ^ k * c = X + Y) :
  ev (zs ++ [(c + x + y) % E24]) + E24 ^ (k + 1) * ((c + x + y) / E24) = (X + E24 ^ k * x) + (Y + E24 ^ k * y) := by
 rw [put_step zs k _ hz, Nat.mul_add, Nat.mul_add]; omega
theorem times_put (zs : List Nat) (k c x d X : Nat) (hz : zs.length = k) (h : ev zs + E24 ^ k * c = X * d) :
  ev (zs ++ [(x * d + c) % E24]) + E24 ^ (k + 1) * ((x * d + c) / E24) = (X + E24 ^ k * x) * d := by
 rw [put_step zs k _ hz, Nat.mul_add, Nat.add_mul, Nat.mul_assoc]; omega
theorem minus_put (zs : List Nat) (k b b2 x y z X Y : Nat) (hz : zs.length = k) (h : ev zs + Y = X + E24 ^ k * b) (h2 : z + y + b = x + E24 * b2) :
  ev (zs ++ [z]) + (Y + E24 ^ k * y) = (X + E24 ^ k * x) + E24 ^ (k + 1) * b2 := by
 rw [ev_snoc, hz, Nat.pow_succ, Nat.mul_assoc]
 have : E24 ^ k * (z + y + b) = E24 ^ k * (x + E24 * b2) := by rw [h2]
 rw [Nat.mul_add, Nat.mul_add, Nat.mul_add] at this
 omega
theorem ev_set (xs : List Nat) (p z : Nat) (hp : p < xs.length) : ev (xs.set p z) + E24 ^ p * xs[p] = ev xs + E24 ^ p * z := by
 have h1 := ev_take_drop xs p (by omega)
 have h2 := ev_take_drop (xs.set p z) p (by rw [List.length_set]; omega)
 rw [List.take_set_of_le (Nat.le_refl _), List.drop_set, if_neg (by omega), Nat.sub_self] at h2
 have h3 := List.drop_eq_getElem_cons hp
 rw [h3] at h1 h2
 rw [List.set_cons_zero, ev_cons] at h2
 rw [ev_cons] at h1
 rw [h1, h2]
 simp only [Nat.mul_add]
 omega
theorem mul_put (zs : List Nat) (i m j u v c s W : Nat) (hj : j < m) (hz : i + j < zs.length) (h : ev (zs.take (i + m)) + E24 ^ (i + j) * c = W) (hs : s = zs[i + j] + u * v + c) :
  ev ((zs.set (i + j) (s % E24)).take (i + m)) + E24 ^ (i + (j + 1)) * (s / E24) = W + E24 ^ i * (u * (E24 ^ j * v)) := by
 have hl : i + j < (zs.take (i + m)).length := by rw [List.length_take]; omega
 have h1 := ev_set (zs.take (i + m)) (i + j) (s % E24) hl
 rw [List.getElem_take] at h1
 rw [List.take_set, ← Nat.add_assoc, Nat.pow_succ, Nat.mul_assoc]
 have h3 : E24 ^ (i + j) * (s % E24 + E24 * (s / E24)) = E24 ^ (i + j) * (zs[i + j] + u * v + c) := by rw [Nat.mod_add_div, hs]
 rw [Nat.mul_add, Nat.mul_add, Nat.mul_add] at h3
 have h4 : E24 ^ i * (u * (E24 ^ j * v)) = E24 ^ (i + j) * (u * v) := by rw [Nat.pow_add]; simp only [Nat.mul_assoc, Nat.mul_left_comm]
 rw [h4]
 omega
theorem mul_end (zs : List Nat) (q c : Nat) (hq : q < zs.length) : ev ((zs.set q c).take (q + 1)) = ev (zs.take q) + E24 ^ q * c := by
 rw [ev_take_succ _ q (by rw [List.length_set]; exact hq), List.take_set_of_le (Nat.le_refl _), List.getElem_set_self]
theorem quo_put (A V u : Nat) (hV : 0 < V) : (u + E24 * A) / V = (u + E24 * (A % V)) / V + E24 * (A / V) ∧ (u + E24 * A) % V = (u + E24 * (A % V)) % V := by
 have h := Nat.mod_add_div A V
 have e : u + E24 * A = u + E24 * (A % V) + V * (E24 * (A / V)) := by
  rw [Nat.add_assoc, Nat.mul_left_comm V E24, ← Nat.mul_add, h]
 constructor
 ·rw [e, Nat.add_mul_div_left _ _ hV]
 ·rw [e, Nat.add_mul_mod_self_left]
theorem quo_digit (A V u : Nat) (hV : 0 < V) (hu : u < E24) : (u + E24 * (A % V)) / V < E24 := by
 rw [Nat.div_lt_iff_lt_mul hV]
 have h := Nat.mod_lt A hV
 have : E24 * (A % V + 1) ≤ E24 * V := Nat.mul_le_mul_left _ h
 rw [Nat.mul_add, Nat.mul_one] at this
 omega
end Go.Proofs.YtkeomlpecjjhiaaGreatDoor
namespace Go.Proofs.YtkeomlpecjjhiaaGreatDoor
open Go.RowKit
theorem Ch.alloc0 {w : World} (o : Obj) : Ch w.heap.size none1 w (w.alloc o) := (Ch.refl w.heap.size none1 w).alloc (Nat.le_refl _) o
theorem ofs_step (N j : Nat) (hj : j < 8) (z : Int) (hz : z = ((N / 2 ^ (56 - 8 * j) : Nat) : Int) % 256) :
  ((be8 N).take j).map Y ++ [Value.int .u8 z] = ((be8 N).take (j + 1)).map Y := by
 rw [List.take_succ_eq_append_getElem (by rw [be8_len]; exact hj), List.map_append]
 congr 1
 rw [Y_of (N / 2 ^ (56 - 8 * j)) z hz]
 have : j = 0 ∨ j = 1 ∨ j = 2 ∨ j = 3 ∨ j = 4 ∨ j = 5 ∨ j = 6 ∨ j = 7 := by omega
 rcases this with rfl | rfl | rfl | rfl | rfl | rfl | rfl | rfl <;> simp [be8]
/-- Bytes of one's own, as a string. -/
theorem own_conv (w : World) (B : Nat) (v : Value) (l : List UInt8) (h : Own w B 5 v (l.map Y)) :
  (convert 87 24 v).run Tryz.prog w = .ok (S l) w := by
 rcases h.2 with ⟨hv, hn⟩ | ⟨g, cap, cur, hv, hb, hg, hn, hm, hs, ht⟩
 ·have hl : l = [] := by simpa using hn
  subst hl hv
  have hcv : (convert 87 24 (.slice none 0 0)).run Tryz.prog w = .ok (.string ⟨#[]⟩) w := by kernel_rfl
  simpa using hcv
 ·rw [List.length_map] at hv hn ht
  rw [Nat.mul_one] at ht
  subst hv
  refine run_convert_blk (P := Tryz.prog) w 87 24 5 Tryz.underlying87 Tryz.underlying5 Tryz.underlying24 g 0 l.length cap l 5 cur.toList (by unfold Blk; simpa using hg) rfl (fun i hi => ?_)
  have h1 := congrArg (·[i]?) ht
  simp only [List.getElem?_take, List.getElem?_map] at h1
  rw [if_pos hi, List.getElem?_eq_getElem hi] at h1
  rw [Nat.zero_add, h1]; rfl
set_option maxRecDepth 100000 in
set_option maxHeartbeats 1600000 in
theorem refOf_pos (N : Nat) (w : World) (h0 : 0 < N) (h1 : N ≤ 9223372036854775807) :
  Calls Tryz.prog 40 #[.int .i64 (N : Int)] w (Yld w (S (nb N))) := by
 obtain ⟨i0, hi, hz0, hz1, hz2⟩ := info_parts Tryz.info5
 go_enter Tryz.func40, Tryz.ntmps40
 go_wp2_with fail
 obtain ⟨wo, rfl⟩ : ∃ wo : World, wo = w := ⟨_, rfl⟩
 go_loopw [3, 4] (fun v i wr => ∃ j : Nat, j ≤ 8 ∧ i = .int .i64 (56 - 8 * (j : Int)) ∧ Own wr wo.heap.size 5 v (((be8 N).take j).map Y) ∧ Ch wo.heap.size none1 wo wr) (fun _ i _ => (intOf i + 8).toNat)
 case atStart => exact ⟨0, Nat.zero_le _, rfl, Own.nil _ _ _, Ch.refl _ _ _⟩
 case round =>
  obtain ⟨j, hj, rfl, hown, hC⟩ := hrel
  by_cases h8 : j < 8
  ·have : j = 0 ∨ j = 1 ∨ j = 2 ∨ j = 3 ∨ j = 4 ∨ j = 5 ∨ j = 6 ∨ j = 7 := by omega
   have HO := Lib.hid hown; clear hown
   have HS := Lib.hid (ofs_step N)
   rcases this with rfl | rfl | rfl | rfl | rfl | rfl | rfl | rfl
   all_goals
    go_wp2_with (at_builtin; refine wpList_append_up _ rfl _ _ 87 rfl wo.heap.size 5 i0 .u8 0 1 Tryz.underlying87 hi hz0 hz1 hz2 (by decide) _ _ rfl (HO.out.ch (Ch.alloc0 _)) ⟨wr.heap.size, 0, none⟩ 1 1 [_] rfl rfl (new_cell _ _ _) (one_one _ _) (by rw [List.length_map, List.length_take]; omega) (size_alloc_le _ hC.size) ?_; intro v' w1 hown' hC1)
    rw [HS.out _ (by omega) _ (by omega)] at hown'
    go_roundw
    case rel => exact ⟨_, by omega, rfl, hown', (hC.alloc hC.size _).trans hC1⟩
    case measure => decide
  ·obtain rfl : j = 8 := by omega
   have hcv := own_conv wr _ _ _ hown
   have ht8 : (be8 N).take 8 = be8 N := List.take_of_length_le (by rw [be8_len]; exact Nat.le_refl _)
   rw [ht8] at hcv
   have HT := Lib.hid (trim_be8 N (by omega))
   have HBL := Lib.hid (show (be8 N).length ≤ 1152921504606846975 by rw [be8_len]; omega)
   clear hown ht8
   go_wp2_with fail
   refine (canon_any (be8 N) _ HBL.out).mono ?_
   rintro e w' ⟨rfl, rfl⟩
   go_wp2_with fail
   go_ret
   exact ⟨ret_S HT.out, hC⟩
set_option maxRecDepth 100000 in
theorem refOf_neg (n : Int) (w : World) (h0 : -9223372036854775808 ≤ n) (h1 : n ≤ 0) :
  Calls Tryz.prog 40 #[.int .i64 n] w (Yld w (S [])) := by
 have hb : ¬ (0 : Int) < n := by omega
 have hcv : (convert 87 24 (.slice none 0 0)).run Tryz.prog w = .ok (.string ⟨#[]⟩) w := by kernel_rfl
 have HC0 := Lib.hid (fun w => canon_any [] w (by decide))
 go_enter Tryz.func40, Tryz.ntmps40
 go_wp2_with fail
 obtain ⟨wo, rfl⟩ : ∃ wo : World, wo = w := ⟨_, rfl⟩
 go_loopw [3, 4] (fun v i wr => v = .slice none 0 0 ∧ i = .int .i64 56 ∧ wr = wo) (fun _ _ _ => 0)
 case atStart => exact ⟨rfl, rfl, rfl⟩
 case round =>
  obtain ⟨rfl, rfl, rfl⟩ := hrel
  go_wp2_with fail
  refine (HC0.out _).mono ?_
  rintro e w' ⟨rfl, rfl⟩
  go_wp2_with fail
  go_ret
  exact ⟨rfl, Ch.refl _ _ _⟩
end Go.Proofs.YtkeomlpecjjhiaaGreatDoor
namespace Go.Proofs.YtkeomlpecjjhiaaGreatDoor
open Go.RowKit
def slLenI : Value → Nat | .slice _ k _ => k | _ => 0
theorem ulen_step (xs : List Nat) (k : Nat) (hk : k < xs.length) (h0 : xs[k] = 0) (h : ulen xs ≤ k + 1) : ulen xs ≤ k := by
 rw [ulen_iff] at h ⊢
 intro j hj
 rcases Nat.eq_or_lt_of_le hj with e | e
 ·subst e
  rw [List.getD_eq_getElem?_getD, List.getElem?_eq_getElem hk, h0]; rfl
 ·exact h j e
theorem ulen_stop (xs : List Nat) (k : Nat) (hk : k < xs.length) (h0 : ¬ xs[k] = 0) (h : ulen xs ≤ k + 1) : ulen xs = k + 1 := by
 rcases Nat.lt_or_ge k (ulen xs) with h1 | h1
 ·omega
 ·have := (ulen_iff xs k).1 h1 k (Nat.le_refl _)
  rw [List.getD_eq_getElem?_getD, List.getElem?_eq_getElem hk] at this
  exact absurd this h0
set_option maxHeartbeats 400000 in
theorem rtrim_any (p : Option Addr) (n cap : Nat) (xs : List Nat) (w : World) (hd : Di w p n xs) (hc : n ≤ cap) (hm : cap ≤ maxLen) :
  Calls Tryz.prog 129 #[.slice p n cap] w fun e w' => e = .returned (.slice p (ulen xs) cap) ∧ w' = w := by
 unfold maxLen at hm
 have hxl := hd.len
 have htl := ulen_le xs
 rw [hxl] at htl
 have HX := Lib.hid hxl; clear hxl
 have HD := Lib.hid hd; clear hd
 go_enter Tryz.func129, Tryz.ntmps129
 go_wp2_with fail
 go_loop [0] (fun v => ∃ k : Nat, ulen xs ≤ k ∧ k ≤ n ∧ v = .slice p k cap) (fun v => slLenI v)
 case atStart => exact ⟨n, htl, Nat.le_refl _, rfl⟩
 case round =>
  obtain ⟨k, hk1, hk2, rfl⟩ := hrel
  rcases k with _ | k
  ·go_wp2_with fail
   go_ret
   refine ⟨?_, rfl⟩
   have : ulen xs = 0 := by omega
   rw [this]; rfl
  ·have hkl : k < xs.length := by rw [HX.out]; omega
   obtain ⟨g, rfl⟩ := HD.out.addr (by omega)
   have hg := HD.out.get0 k (by omega)
   obtain ⟨x, hx⟩ : ∃ x, xs[k] = x := ⟨_, rfl⟩
   rw [hx] at hg
   by_cases h0 : x = 0
   ·subst h0
    have ht := ulen_step xs k hkl hx hk1
    have HXX := Lib.hid hx; clear hx
    go_wp2_with fail
    go_round
    case rel => exact ⟨k, ht, by omega, rfl⟩
    case measure => simp [slLenI]
   ·have ht := ulen_stop xs k hkl (by rw [hx]; exact h0) hk1
    have HXX := Lib.hid hx; clear hx
    have HT := Lib.hid ht; clear ht
    have hb : (((x : Nat) : Int) == 0) = false := by simp; omega
    go_wp2_with fail
    go_ret
    exact ⟨by rw [HT.out]; rfl, rfl⟩
theorem Tryz.info3 : (Tryz.prog.info? 3).map (fun i => (i.zero, i.size, i.bytes)) = some (some (.int .i64 0), 1, 8) := by kernel_rfl
theorem drop_take_succ (l : List UInt8) (lo k : Nat) (h1 : lo ≤ k) (h2 : k < l.length) : (l.take (k + 1)).drop lo = (l.take k).drop lo ++ [l[k]] := by
 rw [List.take_succ_eq_append_getElem h2, List.drop_append_of_le_length (by rw [List.length_take]; omega)]
theorem bv_small (l : List UInt8) (lo k : Nat) (h : k ≤ lo + 2) : bv ((l.take k).drop lo) < 65536 := by
 refine Nat.lt_of_lt_of_le (bv_lt _) (Nat.le_trans (Nat.pow_le_pow_right (by omega) (show _ ≤ 2 from ?_)) (by decide))
 rw [List.length_drop, List.length_take]; omega
set_option maxRecDepth 100000 in
set_option maxHeartbeats 1600000 in
theorem rof_any (a : List UInt8) (w : World) (ha : a.length ≤ 100000000000) :
  Calls Tryz.prog 81 #[S a] w fun e w' => ∃ v, e = .returned v ∧ Own w' w.heap.size 3 v ((es (bv a)).map I) ∧ Ch w.heap.size none1 w w' := by
 obtain ⟨i0, hi, hz0, hz1, hz2⟩ := info_parts Tryz.info3
 have ha1 := trimL_len a
 have hel := es_len_bytes a
 have hch := es_chunk a
 obtain ⟨l, hl⟩ : ∃ l, trimL a = l := ⟨_, rfl⟩
 have HC0 := Lib.hid (canon_any a)
 rw [hl] at ha1 hel hch HC0
 obtain ⟨xs, hx⟩ : ∃ xs, es (bv a) = xs := ⟨_, rfl⟩
 rw [hx] at hel
 have hh : ∀ k e, e = l.length - 3 * k → ∀ (hk : k < xs.length), bv ((l.take e).drop (e - 3)) = xs[k] := fun k e he hk => by subst hx; exact hch k e he hk
 have HH := Lib.hid hh
 rw [hx]
 have HE := Lib.hid hel
 clear hch hx hel hl hh
 go_enter Tryz.func81, Tryz.ntmps81
 go_wp2_with fail
 refine (HC0.out _ (by omega)).mono ?_
 rintro e w' ⟨rfl, rfl⟩
 go_wp2_with fail
 obtain ⟨wo, rfl⟩ : ∃ wo : World, wo = w' := ⟨_, rfl⟩
 go_loopg [3, 4] (xs.length) (fun gh v i wr => ∃ j : Nat, j ≤ xs.length ∧ gh = xs.length - j ∧ i = .int .i64 ((l.length : Int) - 3 * (j : Int)) ∧ Own wr wo.heap.size 3 v ((xs.take j).map I) ∧ Ch wo.heap.size none1 wo wr)
 case atStart => exact ⟨0, Nat.zero_le _, rfl, by go_num, Own.nil _ _ _, Ch.refl _ _ _⟩
 case round =>
  obtain ⟨j, hj, rfl, rfl, hown, hC⟩ := hrel
  have HO := Lib.hid hown; clear hown
  have HCH := Lib.hid hC; clear hC
  by_cases hlt : j < xs.length
  ·have hpos : 3 * j < l.length := by have := HE.out; omega
   obtain ⟨en, hen⟩ : ∃ en, en = l.length - 3 * j := ⟨_, rfl⟩
   have hen2 : (l.length : Int) - 3 * (j : Int) = (en : Int) := by omega
   rw [hen2]
   have hen3 : 0 < en := by omega
   have hen4 : en ≤ l.length := by omega
   have hv := HH.out j en hen hlt
   have HV := Lib.hid hv; clear hv
   have HEN := Lib.hid hen; clear hen
   have HEN2 := Lib.hid hen2; clear hen2
   obtain ⟨lo, hlo⟩ : ∃ lo, lo = en - 3 := ⟨_, rfl⟩
   have hlo2 : max ((en : Int) - 3) 0 = (lo : Int) := by rw [Int.max_def]; split <;> omega
   have HLO := Lib.hid hlo
   have hlo3 : lo ≤ en := by omega
   have hlo4 : en ≤ lo + 3 := by omega
   clear hlo
   go_wp2_with fail
   clear hlo2
   go_loopg [5, 6] (en - lo) (fun gh d i wi => wr = wi ∧ ∃ k : Nat, lo ≤ k ∧ k ≤ en ∧ gh = en - k ∧ i = .int .i64 (k : Int) ∧ d = I (bv ((l.take k).drop lo)))
   case atStart => exact ⟨rfl, lo, Nat.le_refl _, by omega, rfl, rfl, by rw [List.drop_of_length_le (by rw [List.length_take]; omega)]; rfl⟩
   case round =>
    obtain ⟨rfl, k, hk1, hk2, rfl, rfl, rfl⟩ := hrel
    by_cases hke : k < en
    ·have hkl : k < l.length := by omega
     have hst := drop_take_succ l lo k hk1 hkl
     have hsm := bv_small l lo k (by omega)
     have hb := bv_snoc ((l.take k).drop lo) l[k]
     rw [← hst] at hb
     obtain ⟨b, hb1⟩ : ∃ b, l[k] = b := ⟨_, rfl⟩
     obtain ⟨d, hd⟩ : ∃ d, bv ((l.take k).drop lo) = d := ⟨_, rfl⟩
     rw [hd, hb1] at hb
     rw [hd] at hsm ⊢
     have hbb := u8_lt b
     have hg : ∀ h', (ByteArray.mk l.toArray)[k]'h' = b := fun _ => hb1
     have HB := Lib.hid hb
     clear hb hd hst hb1
     go_wp2_with fail
     go_roundg (en - (k + 1))
     case measure => omega
     case rel => exact ⟨rfl, k + 1, by omega, by omega, rfl, by go_num, by rw [HB.out]; go_num⟩
    ·obtain rfl : k = en := by omega
     have hv2 : bv ((l.take k).drop lo) = xs[j] := by rw [HLO.out]; exact HV.out
     rw [hv2]
     have hst : (xs.take j).map I ++ [I xs[j]] = (xs.take (j + 1)).map I := by rw [List.take_succ_eq_append_getElem hlt, List.map_append]; rfl
     obtain ⟨x, hx⟩ : ∃ x, xs[j] = x := ⟨_, rfl⟩
     rw [hx] at hst ⊢
     have HST := Lib.hid hst
     clear hx hst hv2
     have hsz := HCH.out.size
     go_wp2_with (at_builtin; refine wpList_append_up _ rfl _ _ 54 rfl wo.heap.size 3 i0 .i64 0 8 Tryz.underlying54 hi hz0 hz1 hz2 (by decide) _ _ rfl (HO.out.ch (Ch.alloc0 _)) ⟨wr.heap.size, 0, none⟩ 1 1 [I x] rfl rfl (new_cell _ _ _) (one_one _ _) (by rw [List.length_map, List.length_take]; omega) (size_alloc_le _ hsz) ?_; intro v' w1 hown' hC1)
     go_roundg (xs.length - (j + 1))
     case measure => omega
     case rel =>
      exact ⟨j + 1, by omega, rfl, by have := HEN2.out; have := HEN.out; go_num, by rw [← HST.out]; exact hown', (HCH.out.alloc hsz _).trans hC1⟩
  ·have hje : j = xs.length := by omega
   have hneg : (l.length : Int) - 3 * (j : Int) ≤ 0 := by have := HE.out; omega
   have HJ := Lib.hid hje; clear hje hj
   go_wp2_with fail
   go_ret
   refine ⟨_, rfl, ?_, HCH.out⟩
   have h := HO.out
   rwa [HJ.out, List.take_length] at h
end Go.Proofs.YtkeomlpecjjhiaaGreatDoor
namespace Go.Proofs.YtkeomlpecjjhiaaGreatDoor
open Go.RowKit
def b3 (x : Nat) : List UInt8 := [UInt8.ofNat (x / 65536), UInt8.ofNat (x / 256), UInt8.ofNat x]
theorem bv_b3 (x : Nat) (h : x < E24) : bv (b3 x) = x := by
 unfold E24 at h
 simp only [b3, bv, List.foldl, UInt8.toNat_ofNat']
 omega
def byts (xs : List Nat) : List UInt8 := xs.reverse.flatMap b3
theorem byts_cons (x : Nat) (xs : List Nat) : byts (x :: xs) = byts xs ++ b3 x := by simp [byts]
theorem byts_len (xs : List Nat) : (byts xs).length = 3 * xs.length := by
 induction xs with
 | nil => rfl
 | cons x xs ih => rw [byts_cons, List.length_append, ih, List.length_cons]; simp [b3]; omega
theorem bv_byts (xs : List Nat) (h : Eok xs) : bv (byts xs) = ev xs := by
 induction xs with
 | nil => rfl
 | cons x xs ih =>
  have h1 := h x (List.mem_cons_self ..)
  rw [byts_cons, bv_append, ih (fun y hy => h y (List.mem_cons_of_mem _ hy)), show (b3 x).length = 3 from rfl, bv_b3 x h1, ev_cons, show (256 : Nat) ^ 3 = E24 from by decide, Nat.mul_comm]
  omega
theorem u8_wrap (n : Int) : IntKind.u8.wrap n = n % 256 := by
 simp [IntKind.wrap, IntKind.bits, IntKind.signed]
theorem b3_vals (x : Nat) : [Value.int .u8 (IntKind.u8.wrap ((x : Int) / 65536)), .int .u8 (IntKind.u8.wrap ((x : Int) / 256)), .int .u8 (IntKind.u8.wrap (x : Int))] = (b3 x).map Y := by
 simp only [b3, List.map_cons, List.map_nil]
 rw [u8_wrap, u8_wrap, u8_wrap, ← Y_of (x / 65536) ((x : Int) / 65536 % 256) (by omega), ← Y_of (x / 256) ((x : Int) / 256 % 256) (by omega), ← Y_of x ((x : Int) % 256) rfl]
theorem three_cells (w : World) (u0 u1 u2 : Value) (t : TypeId) : ∀ j x, [u0, u1, u2][j]? = some x → (w.alloc (.cells #[u0, u1, u2] t (0, 0))).cell? ((⟨w.heap.size, 0, none⟩ : Addr).add j) = some x := by
 intro j x hj
 have := (Blk.new w #[u0, u1, u2] t).adds j x (by simpa using hj)
 exact this
theorem three_one (a b c : Int) : ∀ u ∈ [Value.int .u8 a, .int .u8 b, .int .u8 c], u.oneCell' = true := fun u hu => by
 simp only [List.mem_cons, List.mem_nil_iff, or_false] at hu
 rcases hu with rfl | rfl | rfl <;> rfl
set_option maxRecDepth 100000 in
set_option maxHeartbeats 1600000 in
theorem rnumber_any (p : Option Addr) (n cap : Nat) (xs : List Nat) (w : World) (hd : Di w p n xs) (hn : n ≤ 33333333333) :
  Calls Tryz.prog 82 #[.slice p n cap] w (Yld w (S (nb (ev xs)))) := by
 obtain ⟨i0, hi, hz0, hz1, hz2⟩ := info_parts Tryz.info5
 have hxl := hd.len
 have HX := Lib.hid hxl; clear hxl
 have HD := Lib.hid hd; clear hd
 have HBL := Lib.hid byts_len
 go_enter Tryz.func82, Tryz.ntmps82
 go_wp2_with fail
 obtain ⟨wo, rfl⟩ : ∃ wo : World, wo = w := ⟨_, rfl⟩
 go_loopw [3, 4] (fun b i wr => ∃ k : Nat, k ≤ n ∧ i = .int .i64 ((k : Int) - 1) ∧ Own wr wo.heap.size 5 b ((byts (xs.drop k)).map Y) ∧ Ch wo.heap.size none1 wo wr) (fun _ i _ => (intOf i + 1).toNat)
 case atStart => exact ⟨n, Nat.le_refl _, rfl, by rw [List.drop_of_length_le (by rw [HX.out]; exact Nat.le_refl _)]; exact Own.nil _ _ _, Ch.refl _ _ _⟩
 case round =>
  obtain ⟨k, hk, rfl, hown, hC⟩ := hrel
  have HO := Lib.hid hown; clear hown
  have HCH := Lib.hid hC; clear hC
  rcases k with _ | k
  ·have hcv := own_conv wr _ _ _ HO.out
   have hlen : (byts (xs.drop 0)).length ≤ 1152921504606846975 := by rw [byts_len, List.drop_zero, HX.out]; omega
   have HL := Lib.hid hlen; clear hlen
   rw [List.drop_zero] at hcv HL
   go_wp2_with fail
   refine (canon_any _ _ HL.out).mono ?_
   rintro e w' ⟨rfl, rfl⟩
   go_wp2_with fail
   go_ret
   exact ⟨ret_S (trimL_of_nb (bv_byts xs HD.out.lt)), HCH.out⟩
  ·obtain ⟨g, rfl⟩ := HD.out.addr (by omega)
   have hg := (HD.out.on HCH.out).get0 k (by omega)
   have hkx : k < xs.length := by rw [HX.out]; omega
   have hb := HD.out.lt.get k hkx
   have hdr : byts (xs.drop k) = byts (xs.drop (k + 1)) ++ b3 xs[k] := by rw [List.drop_eq_getElem_cons hkx, byts_cons]
   obtain ⟨x, hx⟩ : ∃ x, xs[k] = x := ⟨_, rfl⟩
   rw [hx] at hg hb hdr
   unfold E24 at hb
   have hvals : (byts (xs.drop (k + 1))).map Y ++ [Value.int .u8 (IntKind.u8.wrap ((x : Int) / 65536)), .int .u8 (IntKind.u8.wrap ((x : Int) / 256)), .int .u8 (IntKind.u8.wrap (x : Int))] = (byts (xs.drop k)).map Y := by rw [hdr, List.map_append, b3_vals x]
   have HV := Lib.hid hvals; clear hvals
   have hll : ((byts (xs.drop (k + 1))).map Y).length + 3 ≤ 1000000000000 := by rw [List.length_map, byts_len, List.length_drop, HX.out]; omega
   have HL := Lib.hid hll; clear hll
   have HSZ := Lib.hid HCH.out.size
   clear hx hdr
   have hkn : (k : Int) < (n : Int) := by omega
   have hk0 : (0 : Int) ≤ (k : Int) := by omega
   have hgl : g < wo.heap.size := HD.out.lt_size _ rfl
   have HGA := Lib.hid (fun o => show (wr.alloc o).drew.cell? ⟨g, k, none⟩ = some (I x) from ((Ch.alloc0 (w := wr) o).cell (p := ⟨g, k, none⟩) (Nat.lt_of_lt_of_le hgl HSZ.out) (fun q => q)).trans hg)
   have HGL := Lib.hid hgl
   clear hgl
   have HG := Lib.hid (show wr.drew.cell? ⟨g, k, none⟩ = some (I x) from hg)
   have HL2 := Lib.hid (show ((byts (xs.drop (k + 1))).map Y).length + 3 ≤ maxLen by have := HL.out; unfold maxLen; omega)
   have HL3 := Lib.hid (show (((byts (xs.drop (k + 1))).map Y).length + 3) * 1 ≤ 140737488355328 by have := HL.out; omega)
   go_wp2_with fail
   go_region_held3 (fun w' => w'.cell? ⟨g, k, none⟩ = some (I x))
    (first
     | (with_reducible exact HG.out)
     | (with_reducible exact (hC1.cell (p := ⟨g, k, none⟩) HGL.out (fun q => q)).trans (HGA.out _))
     | (with_reducible exact HGA.out _)
     | go_keep)
    (first
     | (refine step_append_src _ (by rfl) _ _ 87 (by rfl) wo.heap.size 5 i0 _ 1 Tryz.underlying87 hi hz0 hz1 hz2 rfl _ _ _ (by rfl) (HO.out.alloc _).drew _ 3 3 [_, _, _] (by rfl) rfl (fun h => by cases h) (fun ad ha => by obtain rfl := Option.some.inj ha; exact three_cells _ _ _ _ _) (three_one _ _ _) HL2.out HL3.out (size_alloc_le _ HSZ.out) ?_; intro v' w1 hown' hgr; have hC1 := Own.grow (HO.out.alloc _).drew hgr (size_alloc_le _ HSZ.out); clear hgr))
   go_wp2_with fail
   go_roundw
   case rel => exact ⟨k, by omega, by go_num, by rw [← HV.out, Own, List.length_append]; exact hown', ((HCH.out.alloc HSZ.out _).drew).trans hC1⟩
   case measure => simp [intOf]
end Go.Proofs.YtkeomlpecjjhiaaGreatDoor
namespace Go.Proofs.YtkeomlpecjjhiaaGreatDoor
open Go.RowKit
theorem refOf_any (n : Int) (w : World) (h0 : -9223372036854775808 ≤ n) (h1 : n ≤ 9223372036854775807) :
  Calls Tryz.prog 40 #[.int .i64 n] w (Yld w (S (nb n.toNat))) := by
 by_cases hp : 0 < n
 ·obtain ⟨N, rfl⟩ := Int.eq_ofNat_of_zero_le (Int.le_of_lt hp)
  exact refOf_pos N w (by omega) (by omega)
 ·have hz : nb n.toNat = [] := by rw [show n.toNat = 0 from by omega, nb_zero]
  rw [hz]
  exact refOf_neg n w h0 (by omega)
theorem take_bv_le (l : List UInt8) (k : Nat) : bv (l.take k) ≤ bv l := by
 by_cases h : k ≤ l.length
 ·have := bv_take_div l (l.length - k) (by omega)
  rw [show l.length - (l.length - k) = k from by omega] at this
  rw [this]; exact Nat.div_le_self _ _
 ·rw [List.take_of_length_le (by omega)]; exact Nat.le_refl _
set_option maxRecDepth 100000 in
set_option maxHeartbeats 800000 in
theorem refInt_yes (a : List UInt8) (w : World) (ha : a.length ≤ 1152921504606846975) (h1 : bv a ≤ 9223372036854775807) :
  Calls Tryz.prog 86 #[S a] w fun e w' => e = .returned (.tuple #[.int .i64 (bv a : Nat), .bool true]) ∧ w' = w := by
 have ha1 := trimL_len a
 have hbv := bv_trim a
 have h8 : (trimL a).length ≤ 8 := (trim_len8 a).2 (by omega)
 obtain ⟨l, hl⟩ : ∃ l, trimL a = l := ⟨_, rfl⟩
 have HC0 := Lib.hid (canon_any a)
 have hr := rt_trim a
 rw [hl] at ha1 hbv h8 HC0 hr
 have htk := take_bv_le l
 rw [hbv] at htk
 have HB := Lib.hid hbv
 have hfirst : ∀ h : 0 < l.length, l.length = 8 → (l[0].toNat : Int) ≤ 127 := fun h he => by
  have h2 := htk 1
  have h3 := bv_take_div l 7 (by omega)
  rw [show l.length - 7 = 1 from by omega, hbv] at h3
  have h4 : bv (l.take 1) = l[0].toNat := by
   rw [List.take_succ_eq_append_getElem h, List.take_zero, List.nil_append]
   simp [bv]
  rw [h4] at h3
  have : bv a / 256 ^ 7 ≤ 127 := by
   have : bv a / 256 ^ 7 < 128 := (Nat.div_lt_iff_lt_mul (by decide)).2 (by omega)
   omega
  omega
 clear hbv hr hl
 have HTK := Lib.hid htk; clear htk
 have hloop : ∀ k, k < l.length → bv (l.take (k + 1)) = bv (l.take k) * 256 + (l[k]?.getD 0).toNat := fun k hk => by
  rw [List.take_succ_eq_append_getElem hk, bv_snoc, List.getElem?_eq_getElem hk]; rfl
 have HLP := Lib.hid hloop; clear hloop
 have hfull : bv (l.take l.length) = bv a := by rw [List.take_length, HB.out]
 have HF := Lib.hid hfull; clear hfull
 have hnine : ¬ (8 : Int) < (l.length : Int) := by omega
 by_cases he8 : l.length = 8
 ·have hp0 : 0 < l.length := by omega
  have hf := hfirst hp0 he8
  obtain ⟨b0, hb0⟩ : ∃ b, l[0] = b := ⟨_, rfl⟩
  rw [hb0] at hf
  have hg0 : ∀ h', (ByteArray.mk l.toArray)[0]'h' = b0 := fun _ => hb0
  have hne : ¬ (127 : Int) < (b0.toNat : Int) := by omega
  have he : ((l.length : Int) == 8) = true := by simp; omega
  clear hfirst hb0
  go_enter Tryz.func86, Tryz.ntmps86
  go_wp2_with fail
  refine (HC0.out _ (by omega)).mono ?_
  rintro e w' ⟨rfl, rfl⟩
  go_wp2_with fail
  go_loop [4, 5] (fun n i => ∃ k : Nat, k ≤ l.length ∧ i = I k ∧ n = I (bv (l.take k))) (fun _ i => l.length - (intOf i).toNat)
  case atStart => exact ⟨0, Nat.zero_le _, rfl, rfl⟩
  case round =>
   obtain ⟨k, hk, rfl, rfl⟩ := hrel
   by_cases hlt : k < l.length
   ·have hst := HLP.out k hlt
    have hle := HTK.out (k + 1)
    rw [List.getElem?_eq_getElem hlt] at hst
    simp only [Option.getD_some] at hst
    obtain ⟨b, hb⟩ : ∃ b, l[k] = b := ⟨_, rfl⟩
    rw [hb] at hst
    obtain ⟨t, ht⟩ : ∃ t, bv (l.take (k + 1)) = t := ⟨_, rfl⟩
    obtain ⟨d, hd⟩ : ∃ d, bv (l.take k) = d := ⟨_, rfl⟩
    rw [ht] at hle
    rw [ht, hd] at hst
    rw [hd]
    have hbb := u8_lt b
    have hdb : d * 256 ≤ 9223372036854775807 := by omega
    have htb : d * 256 + b.toNat ≤ 9223372036854775807 := by omega
    have hg : ∀ h', (ByteArray.mk l.toArray)[k]'h' = b := fun _ => hb
    have HST := Lib.hid hst
    have HT := Lib.hid ht
    clear hst ht hd hb hle
    go_wp2_with fail
    go_round
    case rel => exact ⟨k + 1, by omega, by go_num, by rw [HT.out, HST.out]; go_num⟩
    case measure => simp [intOf]; omega
   ·obtain rfl : k = l.length := by omega
    rw [HF.out]
    go_wp2_with fail
    go_ret2
    exact ⟨rfl, rfl⟩
 ·have he : ((l.length : Int) == 8) = false := by simp; omega
  clear hfirst
  go_enter Tryz.func86, Tryz.ntmps86
  go_wp2_with fail
  refine (HC0.out _ (by omega)).mono ?_
  rintro e w' ⟨rfl, rfl⟩
  go_wp2_with fail
  go_loop [4, 5] (fun n i => ∃ k : Nat, k ≤ l.length ∧ i = I k ∧ n = I (bv (l.take k))) (fun _ i => l.length - (intOf i).toNat)
  case atStart => exact ⟨0, Nat.zero_le _, rfl, rfl⟩
  case round =>
   obtain ⟨k, hk, rfl, rfl⟩ := hrel
   by_cases hlt : k < l.length
   ·have hst := HLP.out k hlt
    have hle := HTK.out (k + 1)
    rw [List.getElem?_eq_getElem hlt] at hst
    simp only [Option.getD_some] at hst
    obtain ⟨b, hb⟩ : ∃ b, l[k] = b := ⟨_, rfl⟩
    rw [hb] at hst
    obtain ⟨t, ht⟩ : ∃ t, bv (l.take (k + 1)) = t := ⟨_, rfl⟩
    obtain ⟨d, hd⟩ : ∃ d, bv (l.take k) = d := ⟨_, rfl⟩
    rw [ht] at hle
    rw [ht, hd] at hst
    rw [hd]
    have hbb := u8_lt b
    have hdb : d * 256 ≤ 9223372036854775807 := by omega
    have htb : d * 256 + b.toNat ≤ 9223372036854775807 := by omega
    have hg : ∀ h', (ByteArray.mk l.toArray)[k]'h' = b := fun _ => hb
    have HST := Lib.hid hst
    have HT := Lib.hid ht
    clear hst ht hd hb hle
    go_wp2_with fail
    go_round
    case rel => exact ⟨k + 1, by omega, by go_num, by rw [HT.out, HST.out]; go_num⟩
    case measure => simp [intOf]; omega
   ·obtain rfl : k = l.length := by omega
    rw [HF.out]
    go_wp2_with fail
    go_ret2
    exact ⟨rfl, rfl⟩
set_option maxRecDepth 100000 in
set_option maxHeartbeats 800000 in
theorem refInt_no (a : List UInt8) (w : World) (ha : a.length ≤ 1152921504606846975) (h1 : ¬ bv a ≤ 9223372036854775807) :
  Calls Tryz.prog 86 #[S a] w fun e w' => e = .returned (.tuple #[.int .i64 0, .bool false]) ∧ w' = w := by
 have ha1 := trimL_len a
 have hbv := bv_trim a
 have HC0 := Lib.hid (canon_any a)
 have hr := trim_len a 7
 obtain ⟨l, hl⟩ : ∃ l, trimL a = l := ⟨_, rfl⟩
 rw [hl] at ha1 hbv HC0 hr
 clear hl
 have h7 : ¬ l.length ≤ 7 := fun q => by
  have := hr.1 q
  omega
 by_cases he8 : l.length = 8
 ·have hp0 : 0 < l.length := by omega
  have hf : (127 : Int) < (l[0].toNat : Int) := by
   have h3 := bv_take_div l 7 (by omega)
   rw [show l.length - 7 = 1 from by omega, hbv] at h3
   have h4 : bv (l.take 1) = l[0].toNat := by
    rw [List.take_succ_eq_append_getElem hp0, List.take_zero, List.nil_append]
    simp [bv]
   rw [h4] at h3
   have : 128 ≤ bv a / 256 ^ 7 := (Nat.le_div_iff_mul_le (by decide)).2 (by omega)
   omega
  obtain ⟨b0, hb0⟩ : ∃ b, l[0] = b := ⟨_, rfl⟩
  rw [hb0] at hf
  have hg0 : ∀ h', (ByteArray.mk l.toArray)[0]'h' = b0 := fun _ => hb0
  have hnine : ¬ (8 : Int) < (l.length : Int) := by omega
  have he : ((l.length : Int) == 8) = true := by simp; omega
  clear hb0 hr hbv h1
  go_enter Tryz.func86, Tryz.ntmps86
  go_wp2_with fail
  refine (HC0.out _ (by omega)).mono ?_
  rintro e w' ⟨rfl, rfl⟩
  go_wp2_with fail
  go_ret2
  exact ⟨rfl, rfl⟩
 ·have hnine : (8 : Int) < (l.length : Int) := by omega
  clear hr hbv h1 h7 he8
  go_enter Tryz.func86, Tryz.ntmps86
  go_wp2_with fail
  refine (HC0.out _ (by omega)).mono ?_
  rintro e w' ⟨rfl, rfl⟩
  go_wp2_with fail
  go_ret2
  exact ⟨rfl, rfl⟩
end Go.Proofs.YtkeomlpecjjhiaaGreatDoor
namespace Go.Proofs.YtkeomlpecjjhiaaGreatDoor
open Go.RowKit
/-- A slice that reads as the digits of N. -/
def RdE (w : World) (v : Value) (N : Nat) : Prop := ∃ p n cap, v = .slice p n cap ∧ n ≤ cap ∧ cap ≤ maxLen ∧ (p = none → cap = 0) ∧ Di w p n (es N)
theorem RdE.on {w w' : World} {v : Value} {N : Nat} (h : RdE w v N) (hC : Ch w.heap.size none1 w w') : RdE w' v N := by
 obtain ⟨p, n, cap, hv, h1, h2, h0, h3⟩ := h
 exact ⟨p, n, cap, hv, h1, h2, h0, h3.on hC⟩
theorem Own.rd {w : World} {B : Nat} {v : Value} {N : Nat} (h : Own w B 3 v ((es N).map I)) : RdE w v N := by
 obtain ⟨p, cap, hv, h1, h2, h0, h3, _⟩ := Own.di h (eok_es N)
 exact ⟨p, _, cap, hv, h1, h2, h0, h3⟩
theorem rof_rd (a : List UInt8) (w : World) (ha : a.length ≤ 100000000000) :
  Calls Tryz.prog 81 #[S a] w fun e w' => ∃ v, e = .returned v ∧ RdE w' v (bv a) ∧ Ch w.heap.size none1 w w' :=
 (rof_any a w ha).mono fun _ _ ⟨v, he, ho, hC⟩ => ⟨v, he, ho.rd, hC⟩
theorem rnumber_rd (v : Value) (N : Nat) (w : World) (h : RdE w v N) (hn : (es N).length ≤ 33333333333) :
  Calls Tryz.prog 82 #[v] w (Yld w (S (nb N))) := by
 obtain ⟨p, n, cap, rfl, h1, h2, h0, h3⟩ := h
 have := rnumber_any p n cap (es N) w h3 (by rw [← h3.len]; exact hn)
 rwa [ev_es] at this
/-- Trimmed digits. -/
theorem rtrim_rd (p : Option Addr) (n cap : Nat) (xs : List Nat) (w : World) (hd : Di w p n xs) (hc : n ≤ cap) (hm : cap ≤ maxLen) (h0 : p = none → cap = 0) :
  Calls Tryz.prog 129 #[.slice p n cap] w fun e w' => ∃ v, e = .returned v ∧ RdE w' v (ev xs) ∧ w' = w :=
 (rtrim_any p n cap xs w hd hc hm).mono fun _ _ ⟨he, hw⟩ => by
  subst hw
  have hle : ulen xs ≤ n := by rw [← hd.len]; exact ulen_le xs
  have h := hd.take (ulen xs) hle
  rw [trimE xs hd.lt] at h
  exact ⟨_, he, ⟨p, _, cap, rfl, by omega, hm, h0, h⟩, rfl⟩
theorem small_yes (a : List UInt8) (k : Nat) (w : World) (ha : a.length ≤ 1152921504606846975) (hk : k ≤ 7) (h : bv a < 256 ^ k) :
  Calls Tryz.prog 80 #[S a, .int .i64 (k : Int)] w fun e w' => e = .returned (.tuple #[.int .i64 (bv a : Nat), .bool true]) ∧ w' = w := by
 have h7 : bv a < 256 ^ 7 := Nat.lt_of_lt_of_le h (Nat.pow_le_pow_right (by omega) hk)
 have hl := (trim_len a k).2 h
 have hb : ¬ (k : Int) < ((trimL a).length : Int) := by omega
 have HI := Lib.hid (fun w => refInt_yes a w ha (by omega))
 have HC0 := Lib.hid (fun w => canon_any a w ha)
 clear h h7 hl ha
 go_enter Tryz.func80, Tryz.ntmps80
 go_wp2_with (first
  | (go_at_call 79; with_reducible refine (HC0.out _).mono ?_; rintro e w' ⟨rfl, rfl⟩)
  | (go_at_call 86; with_reducible refine (HI.out _).mono ?_; rintro e w' ⟨rfl, rfl⟩))
 go_ret2
 exact ⟨rfl, rfl⟩
theorem small_no (a : List UInt8) (k : Nat) (w : World) (ha : a.length ≤ 1152921504606846975) (_hk : k ≤ 7) (h : ¬ bv a < 256 ^ k) :
  Calls Tryz.prog 80 #[S a, .int .i64 (k : Int)] w fun e w' => e = .returned (.tuple #[.int .i64 0, .bool false]) ∧ w' = w := by
 have hl : ¬ (trimL a).length ≤ k := fun q => h ((trim_len a k).1 q)
 have hb : (k : Int) < ((trimL a).length : Int) := by omega
 have HC0 := Lib.hid (fun w => canon_any a w ha)
 clear h hl ha
 go_enter Tryz.func80, Tryz.ntmps80
 go_wp2_with (first
  | (go_at_call 79; with_reducible refine (HC0.out _).mono ?_; rintro e w' ⟨rfl, rfl⟩))
 go_ret2
 exact ⟨rfl, rfl⟩
theorem rem24 (s : Nat) : (s : Int).tmod 16777216 = ((s % E24 : Nat) : Int) := by
 rw [E24_eq, Int.tmod_eq_emod_of_nonneg (by omega)]; omega
theorem quo24 (s : Nat) : (s : Int).tdiv 16777216 = ((s / E24 : Nat) : Int) := by
 rw [E24_eq, Int.tdiv_eq_ediv_of_nonneg (by omega)]; omega
end Go.Proofs.YtkeomlpecjjhiaaGreatDoor
namespace Go.Proofs.YtkeomlpecjjhiaaGreatDoor
open Go.RowKit
set_option maxRecDepth 100000 in
set_option maxHeartbeats 1600000 in
theorem rtimes_any (v : Value) (U d : Nat) (w : World) (hv : RdE w v U) (hd : d < E24) (hn : (es U).length ≤ 10000) :
  Calls Tryz.prog 132 #[v, I d] w fun e w' => ∃ v', e = .returned v' ∧ RdE w' v' (U * d) ∧ Ch w.heap.size none1 w w' := by
 obtain ⟨i0, hi, hz0, hz1, hz2⟩ := info_parts Tryz.info3
 obtain ⟨p, n, cap, rfl, h1, h2, _, h3⟩ := hv
 have hxl := h3.len
 have hxe := ev_es U
 obtain ⟨xs, hxs⟩ : ∃ xs, es U = xs := ⟨_, rfl⟩
 rw [hxs] at hxl h3 hn hxe
 have HX := Lib.hid hxl
 have HD := Lib.hid h3
 have HEV := Lib.hid hxe
 have hn2 : n ≤ 10000 := by omega
 unfold E24 at hd
 clear hxl h3 hxs hn hxe
 go_enter Tryz.func132, Tryz.ntmps132
 go_wp2_with fail
 obtain ⟨wo, rfl⟩ : ∃ wo : World, wo = w := ⟨_, rfl⟩
 go_loopw [5, 6, 7] (fun o c i wr => ∃ (k cN : Nat) (zs : List Nat), k ≤ n ∧ i = .int .i64 (k : Int) ∧ c = I cN ∧ cN < 16777216 ∧ zs.length = k ∧ Eok zs ∧ Own wr wo.heap.size 3 o (zs.map I) ∧
   ev zs + E24 ^ k * cN = ev (xs.take k) * d ∧ Ch wo.heap.size none1 wo wr) (fun _ _ i _ => n - (intOf i).toNat)
 case atStart => exact ⟨0, 0, [], Nat.zero_le _, rfl, rfl, by omega, rfl, Eok.nil, Own.nil _ _ _, by simp [ev], Ch.refl _ _ _⟩
 case round =>
  obtain ⟨k, c, zs, hk, rfl, rfl, hc, hzl, hz, hown, hzv, hC⟩ := hrel
  have HZ := Lib.hid hzl; clear hzl
  have HZK := Lib.hid hz; clear hz
  have HO := Lib.hid hown; clear hown
  have HZV := Lib.hid hzv; clear hzv
  have HCH := Lib.hid hC; clear hC
  have HSZ := Lib.hid HCH.out.size
  by_cases hlt : k < n
  ·obtain ⟨g, rfl⟩ := HD.out.addr (by omega)
   have hg := (HD.out.on HCH.out).get0 k (by omega)
   have hkx : k < xs.length := by rw [HX.out]; omega
   have hts := ev_take_succ xs k hkx
   have hb := HD.out.lt.get k hkx
   obtain ⟨x, hx⟩ : ∃ x, xs[k] = x := ⟨_, rfl⟩
   rw [hx] at hg hb hts
   unfold E24 at hb
   have hmul : x * d ≤ 16777215 * 16777215 := Nat.mul_le_mul (by omega) (by omega)
   have hput := times_put zs k c x d (ev (xs.take k)) HZ.out HZV.out
   rw [← hts] at hput
   obtain ⟨m, hm⟩ : ∃ m, x * d = m := ⟨_, rfl⟩
   have hmi : (x : Int) * (d : Int) = (m : Int) := by rw [← hm, Int.natCast_mul]
   rw [hm] at hmul hput
   have hmb : m ≤ 281474943156225 := by omega
   have hr := rem24 (m + c)
   have hq := quo24 (m + c)
   have hdiv : (m + c) / E24 < 16777216 := by rw [E24_eq, Nat.div_lt_iff_lt_mul (by omega)]; omega
   have hmod : (m + c) % E24 < E24 := Nat.mod_lt _ E24_pos
   obtain ⟨rr, hrr⟩ : ∃ rr, (m + c) % E24 = rr := ⟨_, rfl⟩
   obtain ⟨qq, hqq⟩ : ∃ qq, (m + c) / E24 = qq := ⟨_, rfl⟩
   rw [hrr] at hput hr hmod
   rw [hqq] at hput hq hdiv
   rw [Int.natCast_add] at hr hq
   have HP := Lib.hid hput
   have HMD := Lib.hid hmod
   have HDV := Lib.hid hdiv
   clear hput hts hx hmod hm hmul hrr hqq
   go_wp2_with (at_builtin; refine wpList_append_up _ rfl _ _ 54 rfl wo.heap.size 3 i0 .i64 0 8 Tryz.underlying54 hi hz0 hz1 hz2 (by decide) _ _ rfl (HO.out.ch (Ch.alloc0 _)) ⟨wr.heap.size, 0, none⟩ 1 1 [_] rfl rfl (new_cell _ _ _) (one_one _ _) (by rw [List.length_map, HZ.out]; omega) (size_alloc_le _ HSZ.out) ?_; intro v' w1 hown' hC1)
   go_roundw
   case rel =>
    refine ⟨k + 1, qq, zs ++ [rr], by omega, by go_num, rfl, HDV.out, by rw [List.length_append, HZ.out]; rfl, HZK.out.append (Eok.cons HMD.out Eok.nil), ?_, HP.out, (HCH.out.alloc HSZ.out _).trans hC1⟩
    rw [List.map_append]; exact hown'
   case measure => simp [intOf]; omega
  ·obtain rfl : k = n := by omega
   go_wp2_with (first
    | (at_builtin; refine wpList_append_up _ rfl _ _ 54 rfl wo.heap.size 3 i0 .i64 0 8 Tryz.underlying54 hi hz0 hz1 hz2 (by decide) _ _ rfl (HO.out.ch (Ch.alloc0 _)) ⟨wr.heap.size, 0, none⟩ 1 1 [_] rfl rfl (new_cell _ _ _) (one_one _ _) (by rw [List.length_map, HZ.out]; omega) (size_alloc_le _ HSZ.out) ?_; intro v' w1 hown' hC1))
   have hok : Eok (zs ++ [c]) := HZK.out.append (Eok.cons (by unfold E24; exact hc) Eok.nil)
   have hev : ev (zs ++ [c]) = U * d := by
    have h := HZV.out
    rw [← HX.out, List.take_length, HEV.out] at h
    rw [ev_snoc, HZ.out, ← HX.out, h]
   have hown2 : Own w1 wo.heap.size 3 v' ((zs ++ [c]).map I) := by rw [List.map_append]; exact hown'
   obtain ⟨p', cap', rfl, q1, q2, q0, qd, _⟩ := Own.di hown2 hok
   refine (rtrim_rd p' _ cap' (zs ++ [c]) _ qd q1 q2 q0).mono ?_
   rw [hev]
   have HCC := Lib.hid ((HCH.out.alloc HSZ.out _).trans hC1)
   clear hown2 hown' hok hev qd hC1
   rintro e w2 ⟨v2, rfl, hr2, rfl⟩
   have HR2 := Lib.hid hr2
   clear hr2
   go_wp2_with fail
   go_ret
   exact ⟨_, rfl, HR2.out, HCC.out⟩
end Go.Proofs.YtkeomlpecjjhiaaGreatDoor
namespace Go.Proofs.YtkeomlpecjjhiaaGreatDoor
open Go.RowKit
theorem es_lt_of_len {U V : Nat} (h : (es U).length < (es V).length) : U < V := by
 have h3 := (es_len U (es U).length).1 (Nat.le_refl _)
 have h4 := es_len V (es U).length
 omega
theorem cmp_topE (xs ys : List Nat) (k : Nat) (hx : Eok xs) (hkx : k < xs.length) (hky : k < ys.length) (hd : xs.drop (k + 1) = ys.drop (k + 1)) (h : xs[k] < ys[k]) : ev xs < ev ys := by
 have h1 := ev_take_drop xs (k + 1) (by omega)
 have h2 := ev_take_drop ys (k + 1) (by omega)
 have h3 := ev_take_succ xs k hkx
 have h4 := ev_take_succ ys k hky
 have h5 := ev_lt (hx.take k)
 rw [List.length_take, Nat.min_eq_left (by omega)] at h5
 have h6 := Nat.mul_le_mul_left (E24 ^ k) (show xs[k] + 1 ≤ ys[k] from h)
 rw [Nat.mul_add] at h6
 rw [hd] at h1
 omega
theorem ret_int_v {k : IntKind} {a b : Int} (h : a = b) : Value.int k a = Value.int k b := by rw [h]
def Sgn (r : Int) (U V : Nat) : Prop := (r ≤ 0 ↔ U ≤ V) ∧ (0 ≤ r ↔ V ≤ U)
theorem Sgn.lt {r : Int} {U V : Nat} (hr : r < 0) (h : U < V) : Sgn r U V := ⟨by omega, by omega⟩
theorem Sgn.gt {r : Int} {U V : Nat} (hr : 0 < r) (h : V < U) : Sgn r U V := ⟨by omega, by omega⟩
theorem Sgn.eq {U V : Nat} (h : U = V) : Sgn 0 U V := ⟨by omega, by omega⟩
set_option maxRecDepth 100000 in
set_option maxHeartbeats 1600000 in
theorem rcmp_any (v1 v2 : Value) (U V : Nat) (w : World) (h1 : RdE w v1 U) (h2 : RdE w v2 V) (hn1 : (es U).length ≤ 10000) (hn2 : (es V).length ≤ 10000) :
  Calls Tryz.prog 130 #[v1, v2] w fun e w' => ∃ r : Int, e = .returned (.int .i64 r) ∧ Sgn r U V ∧ Ch w.heap.size none1 w w' := by
 obtain ⟨p, n, cap, rfl, _, _, _, hx⟩ := h1
 obtain ⟨q, m, capy, rfl, _, _, _, hy⟩ := h2
 have hxl := hx.len
 have hyl := hy.len
 by_cases he : n = m
 ·subst he
  have hxe := ev_es U
  have hye := ev_es V
  obtain ⟨xs, hxs⟩ : ∃ xs, es U = xs := ⟨_, rfl⟩
  obtain ⟨ys, hys⟩ : ∃ ys, es V = ys := ⟨_, rfl⟩
  rw [hxs] at hxl hx hxe hn1
  rw [hys] at hyl hy hye
  have hn : n ≤ 10000 := by omega
  have HXL := Lib.hid hxl
  have HYL := Lib.hid hyl
  have HX := Lib.hid hx
  have HY := Lib.hid hy
  have HXE := Lib.hid hxe
  have HYE := Lib.hid hye
  clear hxl hyl hx hy hxe hye hxs hys hn1 hn2
  go_enter Tryz.func130, Tryz.ntmps130
  go_wp2_with fail
  obtain ⟨wo, rfl⟩ : ∃ wo : World, wo = w := ⟨_, rfl⟩
  go_loopw [5] (fun i wr => ∃ (k : Nat), k ≤ n ∧ i = .int .i64 ((k : Int) - 1) ∧ xs.drop k = ys.drop k ∧ Ch wo.heap.size none1 wo wr)
   (fun i _ => (intOf i + 1).toNat)
  case atStart => exact ⟨n, Nat.le_refl _, rfl, by rw [List.drop_of_length_le (by rw [HXL.out]; exact Nat.le_refl _), List.drop_of_length_le (by rw [HYL.out]; exact Nat.le_refl _)], Ch.refl _ _ _⟩
  case round =>
   obtain ⟨k, hk, rfl, hdr, hC'⟩ := hrel
   have HDR := Lib.hid hdr; clear hdr
   rcases k with _ | k
   ·have hxy : U = V := by
     have := HDR.out
     rw [List.drop_zero, List.drop_zero] at this
     rw [← HXE.out, ← HYE.out, this]
    have HC := Lib.hid hxy; clear hxy
    go_wp2_with fail
    go_ret
    exact ⟨_, rfl, Sgn.eq HC.out, hC'⟩
   ·obtain ⟨gx, rfl⟩ := HX.out.addr (by omega)
    obtain ⟨gy, rfl⟩ := HY.out.addr (by omega)
    have hxg := (HX.out.on hC').get0 k (by omega)
    have hyg := (HY.out.on hC').get0 k (by omega)
    have hkx : k < xs.length := by rw [HXL.out]; omega
    have hky : k < ys.length := by rw [HYL.out]; omega
    have ht1 := cmp_topE xs ys k HX.out.lt hkx hky HDR.out
    have ht2 := cmp_topE ys xs k HY.out.lt hky hkx HDR.out.symm
    have ht3 := drop_eq_step xs ys k hkx hky HDR.out
    have hbx := HX.out.lt.get k hkx
    have hby := HY.out.lt.get k hky
    rw [HXE.out, HYE.out] at ht1 ht2
    obtain ⟨x, hx1⟩ : ∃ x, xs[k] = x := ⟨_, rfl⟩
    obtain ⟨y, hy1⟩ : ∃ y, ys[k] = y := ⟨_, rfl⟩
    rw [hx1] at hxg hbx
    rw [hy1] at hyg hby
    rw [hx1, hy1] at ht1 ht2 ht3
    unfold E24 at hbx hby
    clear hx1 hy1
    have e1 : ((k : Int) + 1 - 1) = (k : Int) := by omega
    by_cases hxy : x = y
    ·subst hxy
     have hdr := ht3 rfl
     have HD2 := Lib.hid hdr; clear hdr ht1 ht2 ht3
     go_wp2_with fail
     go_quiet (fail)
     go_wp2_with fail
     go_roundw
     case rel => exact ⟨k, by omega, by go_num, HD2.out, hC'.drewN _⟩
     case measure => simp [intOf]
    ·have hc : Sgn ((x : Int) - (y : Int)) U V := by
      rcases Nat.lt_or_gt_of_ne hxy with h | h
      ·exact Sgn.lt (by omega) (ht1 h)
      ·exact Sgn.gt (by omega) (ht2 h)
     have HC := Lib.hid hc; clear hc ht1 ht2 ht3
     have hb : (((x : Nat) : Int) != ((y : Nat) : Int)) = true := by rw [bne_iff_ne]; omega
     clear hxy
     go_wp2_with fail
     go_quiet (fail)
     go_wp2_with fail
     go_quiet (fail)
     go_wp2_with fail
     go_ret
     exact ⟨_, rfl, HC.out, (hC'.drewN _).drewN _⟩
 ·have hb : (((n : Nat) : Int) != ((m : Nat) : Int)) = true := by rw [bne_iff_ne]; omega
  have hc : Sgn ((n : Int) - (m : Int)) U V := by
   rcases Nat.lt_or_gt_of_ne he with h | h
   ·exact Sgn.lt (by omega) (es_lt_of_len (by omega))
   ·exact Sgn.gt (by omega) (es_lt_of_len (by omega))
  have hn : n ≤ 10000 := by omega
  have hm : m ≤ 10000 := by omega
  have HC := Lib.hid hc; clear hc hxl hyl hx hy he hn1 hn2
  go_enter Tryz.func130, Tryz.ntmps130
  go_wp2_with fail
  go_ret
  exact ⟨_, rfl, HC.out, Ch.refl _ _ _⟩
theorem es_len_le {A B : Nat} (h : A ≤ B) : (es A).length ≤ (es B).length := by
 have h1 := es_len A (es B).length
 have h2 := (es_len B (es B).length).1 (Nat.le_refl _)
 exact h1.2 (by omega)
theorem es_len_mul {U d n : Nat} (h : (es U).length ≤ n) (hd : d < E24) : (es (U * d)).length ≤ n + 1 := by
 have h1 := (es_len U n).1 h
 refine (es_len _ _).2 ?_
 rw [Nat.pow_succ]
 rcases Nat.eq_zero_or_pos d with h0 | h0
 ·subst h0; rw [Nat.mul_zero]; exact Nat.mul_pos (Nat.pow_pos E24_pos) E24_pos
 ·exact Nat.lt_of_lt_of_le (Nat.mul_lt_mul_of_pos_right h1 h0) (Nat.mul_le_mul_left _ (Nat.le_of_lt hd))
set_option maxRecDepth 100000 in
set_option maxHeartbeats 1600000 in
theorem rdigit_any (v1 v2 : Value) (U V : Nat) (w : World) (h1 : RdE w v1 U) (h2 : RdE w v2 V) (hV : 0 < V) (hq : U / V < E24) (hn1 : (es U).length ≤ 5000) (hn2 : (es V).length ≤ 5000) :
  Calls Tryz.prog 131 #[v1, v2] w (Yld w (I (U / V))) := by
 have H1 := Lib.hid h1
 have H2 := Lib.hid h2
 unfold E24 at hq
 have HN1 := Lib.hid hn1
 have HN2 := Lib.hid hn2
 have hdv : ∀ d, V * d ≤ U ↔ d ≤ U / V := fun d => by rw [Nat.le_div_iff_mul_le hV, Nat.mul_comm]
 obtain ⟨t, ht⟩ : ∃ t, U / V = t := ⟨_, rfl⟩
 rw [ht] at hq hdv ⊢
 have HDV := Lib.hid hdv
 clear h1 h2 hn1 hn2 hV hdv ht
 go_enter Tryz.func131, Tryz.ntmps131
 go_wp2_with fail
 obtain ⟨wo, rfl⟩ : ∃ wo : World, wo = w := ⟨_, rfl⟩
 go_loopw [5, 6] (fun l h wr => ∃ (lo hi : Nat), l = I lo ∧ h = I hi ∧ lo ≤ t ∧ t ≤ hi ∧ hi ≤ 16777215 ∧ Ch wo.heap.size none1 wo wr)
  (fun l h _ => (intOf h - intOf l).toNat)
 case atStart => exact ⟨0, 16777215, rfl, rfl, by omega, by omega, by omega, Ch.refl _ _ _⟩
 case round =>
  obtain ⟨lo, hi, rfl, rfl, hlo, hhi, hmax, hC⟩ := hrel
  have HCH := Lib.hid hC; clear hC
  by_cases hlt : lo < hi
  ·obtain ⟨mid, hmid⟩ : ∃ mid, mid = (lo + hi + 1) / 2 := ⟨_, rfl⟩
   have hmid2 : ((lo : Int) + (hi : Int) + 1).tdiv 2 = (mid : Int) := by rw [hmid, Int.tdiv_eq_ediv_of_nonneg (by omega)]; omega
   have hmb : mid < E24 := by unfold E24; omega
   have HX := Lib.hid hmid
   have hml : lo < mid := by omega
   have hmh : mid ≤ hi := by omega
   clear hmid
   have HMB := Lib.hid hmb
   have HL2 := Lib.hid (Nat.le_trans HN2.out (show 5000 ≤ 10000 by omega))
   have HL3 := Lib.hid (Nat.le_trans (es_len_mul HN2.out hmb) (show 5000 + 1 ≤ 10000 by omega))
   have HL1 := Lib.hid (Nat.le_trans HN1.out (show 5000 ≤ 10000 by omega))
   clear hmb
   go_wp2_with fail
   refine (rtimes_any v2 V mid _ (H2.out.on HCH.out) HMB.out HL2.out).mono ?_
   rintro e w1 ⟨vt, rfl, hrt, hC1⟩
   have HRT := Lib.hid hrt
   have HC1 := Lib.hid (HCH.out.step0 hC1 (Nat.le_refl _))
   clear hrt hC1
   go_wp2_with fail
   refine (rcmp_any vt v1 (V * mid) U _ HRT.out (H1.out.on HC1.out) HL3.out HL1.out).mono ?_
   rintro e w2 ⟨r, rfl, hs, hC2⟩
   have HC2 := Lib.hid (HC1.out.step0 hC2 (Nat.le_refl _))
   have hs1 := hs.1.trans (HDV.out mid)
   clear hs hC2
   by_cases hr : r ≤ 0
   ·have hmt : mid ≤ t := hs1.1 hr
    clear hs1
    go_wp2_with fail
    go_roundw
    case rel => exact ⟨mid, hi, rfl, rfl, hmt, hhi, hmax, HC2.out⟩
    case measure => simp only [intOf]; omega
   ·have hmt : ¬ mid ≤ t := fun q => hr (hs1.2 q)
    have hmp : ((mid : Int) - 1) = ((mid - 1 : Nat) : Int) := by omega
    have HP := Lib.hid hmp
    clear hs1 hmp
    go_wp2_with fail
    go_roundw
    case rel => exact ⟨lo, mid - 1, rfl, ret_int_v HP.out, hlo, by omega, by omega, HC2.out⟩
    case measure => simp only [intOf]; omega
  ·obtain rfl : lo = t := by omega
   go_wp2_with fail
   go_ret
   exact ⟨rfl, HCH.out⟩
end Go.Proofs.YtkeomlpecjjhiaaGreatDoor
namespace Go.Proofs.YtkeomlpecjjhiaaGreatDoor
open Go.RowKit
theorem minus_end (zs xs ys : List Nat) (n b U V : Nat) (hz : Eok zs) (hzl : zs.length = n) (hx : xs.length = n) (hm : ys.length ≤ n) (hU : ev xs = U) (hV : ev ys = V) (hle : V ≤ U)
  (h : ev zs + ev (ys.take n) = ev (xs.take n) + E24 ^ n * b) : ev zs = U - V := by
 rw [List.take_of_length_le hm, ← hx, List.take_length, hU, hV] at h
 have h1 := ev_lt hz
 rw [hzl, ← hx] at h1
 have hb : b = 0 := by
  rcases Nat.eq_zero_or_pos b with q | q
  ·exact q
  ·have := Nat.mul_le_mul_left (E24 ^ xs.length) q
   omega
 subst hb
 omega
set_option maxRecDepth 100000 in
set_option maxHeartbeats 1600000 in
theorem rminus_any (v1 v2 : Value) (U V : Nat) (w : World) (h1 : RdE w v1 U) (h2 : RdE w v2 V) (hle : V ≤ U) (hn1 : (es U).length ≤ 10000) :
  Calls Tryz.prog 125 #[v1, v2] w fun e w' => ∃ v', e = .returned v' ∧ RdE w' v' (U - V) ∧ Ch w.heap.size none1 w w' := by
 obtain ⟨i0, hi, hz0, hz1, hz2⟩ := info_parts Tryz.info3
 have hll := es_len_le hle
 obtain ⟨p, n, cap, rfl, _, _, _, h3⟩ := h1
 obtain ⟨q, m, capy, rfl, _, _, _, h4⟩ := h2
 have hxl := h3.len
 have hyl := h4.len
 have hxe := ev_es U
 have hye := ev_es V
 obtain ⟨xs, hxs⟩ : ∃ xs, es U = xs := ⟨_, rfl⟩
 obtain ⟨ys, hys⟩ : ∃ ys, es V = ys := ⟨_, rfl⟩
 rw [hxs] at hxl h3 hn1 hxe hll
 rw [hys] at hyl h4 hye hll
 have HX := Lib.hid hxl
 have HY := Lib.hid hyl
 have HD := Lib.hid h3
 have HE := Lib.hid h4
 have HEV := Lib.hid hxe
 have HEY := Lib.hid hye
 have HLE := Lib.hid hle
 have hn2 : n ≤ 10000 := by omega
 have hmn : m ≤ n := by omega
 clear hxl hyl h3 h4 hxs hys hn1 hxe hye hll hle
 go_enter Tryz.func125, Tryz.ntmps125
 go_wp2_with fail
 obtain ⟨wo, rfl⟩ : ∃ wo : World, wo = w := ⟨_, rfl⟩
 go_loopw [5, 6, 7] (fun o b i wr => ∃ (k bN : Nat) (zs : List Nat), k ≤ n ∧ i = .int .i64 (k : Int) ∧ b = I bN ∧ bN ≤ 1 ∧ zs.length = k ∧ Eok zs ∧ Own wr wo.heap.size 3 o (zs.map I) ∧
   ev zs + ev (ys.take k) = ev (xs.take k) + E24 ^ k * bN ∧ Ch wo.heap.size none1 wo wr) (fun _ _ i _ => n - (intOf i).toNat)
 case atStart => exact ⟨0, 0, [], Nat.zero_le _, rfl, rfl, by omega, rfl, Eok.nil, Own.nil _ _ _, by simp [ev], Ch.refl _ _ _⟩
 case round =>
  obtain ⟨k, b, zs, hk, rfl, rfl, hb, hzl, hz, hown, hzv, hC⟩ := hrel
  have HZ := Lib.hid hzl; clear hzl
  have HZK := Lib.hid hz; clear hz
  have HO := Lib.hid hown; clear hown
  have HZV := Lib.hid hzv; clear hzv
  have HCH := Lib.hid hC; clear hC
  have HSZ := Lib.hid HCH.out.size
  by_cases hlt : k < n
  ·obtain ⟨g, rfl⟩ := HD.out.addr (by omega)
   have hg := (HD.out.on HCH.out).get0 k (by omega)
   have hkx : k < xs.length := by rw [HX.out]; omega
   have hts := ev_take_succ xs k hkx
   have hty := ev_getD ys k
   have hyb := getD_lt ys HE.out.lt k
   have hxb := HD.out.lt.get k hkx
   obtain ⟨x, hx⟩ : ∃ x, xs[k] = x := ⟨_, rfl⟩
   rw [hx] at hg hxb hts
   have hy0 : ∀ h : k < m, ys.getD k 0 = ys[k]'(by rw [HY.out]; exact h) := fun h => by rw [List.getD_eq_getElem?_getD, List.getElem?_eq_getElem (by rw [HY.out]; exact h)]; rfl
   have hy1 : ¬ k < m → ys.getD k 0 = 0 := fun h => by rw [List.getD_eq_getElem?_getD, List.getElem?_eq_none (by rw [HY.out]; omega)]; rfl
   obtain ⟨y, hy⟩ : ∃ y, ys.getD k 0 = y := ⟨_, rfl⟩
   rw [hy] at hty hyb hy0 hy1
   have hstep : ∀ z b2, z + y + b = x + E24 * b2 → ev (zs ++ [z]) + ev (ys.take (k + 1)) = ev (xs.take (k + 1)) + E24 ^ (k + 1) * b2 := fun z b2 h => by
    rw [hty, hts]
    exact minus_put zs k b b2 x y z _ _ HZ.out HZV.out h
   have HST := Lib.hid hstep
   unfold E24 at hyb hxb
   clear hstep hty hts hx hy hkx
   by_cases hkm : k < m
   ·obtain ⟨gy, rfl⟩ := HE.out.addr (by omega)
    have hgy := (HE.out.on HCH.out).get0 k hkm
    rw [← hy0 hkm] at hgy
    clear hy0 hy1
    by_cases hneg : x < b + y
    ·obtain ⟨z, hzz⟩ : ∃ z, z + b + y = x + 16777216 := ⟨x + 16777216 - b - y, by omega⟩
     have hzi : (x : Int) - (b : Int) - (y : Int) + 16777216 = (z : Int) := by omega
     have hlz : (x : Int) - (b : Int) - (y : Int) < 0 := by omega
     have HZZ := Lib.hid hzz
     have hzE : z < 16777216 := by omega
     clear hzz
     go_wp2_with (at_builtin; refine wpList_append_up _ rfl _ _ 54 rfl wo.heap.size 3 i0 .i64 0 8 Tryz.underlying54 hi hz0 hz1 hz2 (by decide) _ _ rfl (HO.out.ch (Ch.alloc0 _)) ⟨wr.heap.size, 0, none⟩ 1 1 [_] rfl rfl (new_cell _ _ _) (one_one _ _) (by rw [List.length_map, HZ.out]; omega) (size_alloc_le _ HSZ.out) ?_; intro v' w1 hown' hC1)
     go_roundw
     case rel =>
      refine ⟨k + 1, 1, zs ++ [z], by omega, by go_num, rfl, by omega, by rw [List.length_append, HZ.out]; rfl, HZK.out.append (Eok.cons (by unfold E24; omega) Eok.nil), ?_, HST.out z 1 (by have := HZZ.out; unfold E24; omega), (HCH.out.alloc HSZ.out _).trans hC1⟩
      rw [List.map_append]; exact hown'
     case measure => simp [intOf]; omega
    ·obtain ⟨z, hzz⟩ : ∃ z, z + b + y = x := ⟨x - b - y, by omega⟩
     have hzi : (x : Int) - (b : Int) - (y : Int) = (z : Int) := by omega
     have HZZ := Lib.hid hzz
     have hzE : z < 16777216 := by omega
     clear hzz
     go_wp2_with (at_builtin; refine wpList_append_up _ rfl _ _ 54 rfl wo.heap.size 3 i0 .i64 0 8 Tryz.underlying54 hi hz0 hz1 hz2 (by decide) _ _ rfl (HO.out.ch (Ch.alloc0 _)) ⟨wr.heap.size, 0, none⟩ 1 1 [_] rfl rfl (new_cell _ _ _) (one_one _ _) (by rw [List.length_map, HZ.out]; omega) (size_alloc_le _ HSZ.out) ?_; intro v' w1 hown' hC1)
     go_roundw
     case rel =>
      refine ⟨k + 1, 0, zs ++ [z], by omega, by go_num, rfl, by omega, by rw [List.length_append, HZ.out]; rfl, HZK.out.append (Eok.cons (by unfold E24; omega) Eok.nil), ?_, HST.out z 0 (by have := HZZ.out; unfold E24; omega), (HCH.out.alloc HSZ.out _).trans hC1⟩
      rw [List.map_append]; exact hown'
     case measure => simp [intOf]; omega
   ·obtain rfl := hy1 hkm
    clear hy0 hy1
    by_cases hneg : x < b
    ·obtain ⟨z, hzz⟩ : ∃ z, z + b = x + 16777216 := ⟨x + 16777216 - b, by omega⟩
     have hzi : (x : Int) - (b : Int) + 16777216 = (z : Int) := by omega
     have hlz : (x : Int) - (b : Int) < 0 := by omega
     have HZZ := Lib.hid hzz
     have hzE : z < 16777216 := by omega
     clear hzz
     go_wp2_with (at_builtin; refine wpList_append_up _ rfl _ _ 54 rfl wo.heap.size 3 i0 .i64 0 8 Tryz.underlying54 hi hz0 hz1 hz2 (by decide) _ _ rfl (HO.out.ch (Ch.alloc0 _)) ⟨wr.heap.size, 0, none⟩ 1 1 [_] rfl rfl (new_cell _ _ _) (one_one _ _) (by rw [List.length_map, HZ.out]; omega) (size_alloc_le _ HSZ.out) ?_; intro v' w1 hown' hC1)
     go_roundw
     case rel =>
      refine ⟨k + 1, 1, zs ++ [z], by omega, by go_num, rfl, by omega, by rw [List.length_append, HZ.out]; rfl, HZK.out.append (Eok.cons (by unfold E24; omega) Eok.nil), ?_, HST.out z 1 (by have := HZZ.out; unfold E24; omega), (HCH.out.alloc HSZ.out _).trans hC1⟩
      rw [List.map_append]; exact hown'
     case measure => simp [intOf]; omega
    ·obtain ⟨z, hzz⟩ : ∃ z, z + b = x := ⟨x - b, by omega⟩
     have hzi : (x : Int) - (b : Int) = (z : Int) := by omega
     have HZZ := Lib.hid hzz
     have hzE : z < 16777216 := by omega
     clear hzz
     go_wp2_with (at_builtin; refine wpList_append_up _ rfl _ _ 54 rfl wo.heap.size 3 i0 .i64 0 8 Tryz.underlying54 hi hz0 hz1 hz2 (by decide) _ _ rfl (HO.out.ch (Ch.alloc0 _)) ⟨wr.heap.size, 0, none⟩ 1 1 [_] rfl rfl (new_cell _ _ _) (one_one _ _) (by rw [List.length_map, HZ.out]; omega) (size_alloc_le _ HSZ.out) ?_; intro v' w1 hown' hC1)
     go_roundw
     case rel =>
      refine ⟨k + 1, 0, zs ++ [z], by omega, by go_num, rfl, by omega, by rw [List.length_append, HZ.out]; rfl, HZK.out.append (Eok.cons (by unfold E24; omega) Eok.nil), ?_, HST.out z 0 (by have := HZZ.out; unfold E24; omega), (HCH.out.alloc HSZ.out _).trans hC1⟩
      rw [List.map_append]; exact hown'
     case measure => simp [intOf]; omega
  ·obtain rfl : k = n := by omega
   have hev := minus_end zs xs ys k b U V HZK.out HZ.out HX.out (by rw [HY.out]; exact hmn) HEV.out HEY.out HLE.out HZV.out
   obtain ⟨p', cap', rfl, q1, q2, q0, qd, _⟩ := Own.di HO.out HZK.out
   have HEV2 := Lib.hid hev
   have HQD := Lib.hid qd
   clear hev qd
   go_wp2_with fail
   refine (rtrim_rd p' _ cap' zs _ HQD.out q1 q2 q0).mono ?_
   rw [HEV2.out]
   rintro e w2 ⟨v2, rfl, hr2, rfl⟩
   have HR2 := Lib.hid hr2
   clear hr2
   go_wp2_with fail
   go_ret
   exact ⟨_, rfl, HR2.out, HCH.out⟩
end Go.Proofs.YtkeomlpecjjhiaaGreatDoor
namespace Go.Proofs.YtkeomlpecjjhiaaGreatDoor
open Go.RowKit
theorem di_of_blk {w : World} {g : Nat} {t : TypeId} {zs : List Nat} (h : Blk w g t (zs.map I)) (hz : Eok zs) (n : Nat) (hn : zs.length = n) : Di w (some ⟨g, 0, none⟩) n zs :=
 ⟨hn, hz, fun h => (by cases h), fun a ha => by
  obtain rfl := Option.some.inj ha
  exact ⟨rfl, rfl, t, [], h.cast (by simp)⟩⟩
theorem set_map (zs : List Nat) (j v : Nat) : (zs.map I).set j (I v) = (zs.set j v).map I := by rw [List.map_set]
set_option maxRecDepth 100000 in
set_option maxHeartbeats 3200000 in
theorem rmul_gen (a b : List UInt8) (x y : Int) (p q : Bool) (w : World) (ha : a.length ≤ 1000) (hb : b.length ≤ 1000) (hpq : p = false ∨ (p = true ∧ q = false))
  (h1 : ∀ w, Calls Tryz.prog 80 #[S a, .int .i64 3] w fun e w' => e = .returned (.tuple #[.int .i64 x, .bool p]) ∧ w' = w)
  (h2 : ∀ w, Calls Tryz.prog 80 #[S b, .int .i64 4] w fun e w' => e = .returned (.tuple #[.int .i64 y, .bool q]) ∧ w' = w) :
  Calls Tryz.prog 42 #[S a, S b] w (Yld w (S (nb (bv a * bv b)))) := by
 obtain ⟨i0, hi, hz0, hz1, hz2⟩ := info_parts Tryz.info3
 have H1 := Lib.hid h1
 have H2 := Lib.hid h2
 have HOF1 := Lib.hid (fun w => rof_rd a w (by omega))
 have HOF2 := Lib.hid (fun w => rof_rd b w (by omega))
 have hla : (es (bv a)).length ≤ 1000 := by have h := es_len_bytes a; have h' := trimL_len a; omega
 have hlb : (es (bv b)).length ≤ 1000 := by have h := es_len_bytes b; have h' := trimL_len b; omega
 have hua := ev_es (bv a)
 have hub := ev_es (bv b)
 have hprod : bv a * bv b < E24 ^ ((es (bv a)).length + (es (bv b)).length) := mul_bound E24 _ _ _ _ ((es_len _ _).1 (Nat.le_refl _)) ((es_len _ _).1 (Nat.le_refl _))
 obtain ⟨A, hA⟩ : ∃ A, bv a = A := ⟨_, rfl⟩
 obtain ⟨B, hB⟩ : ∃ B, bv b = B := ⟨_, rfl⟩
 rw [hA] at hla hua hprod HOF1 ⊢
 rw [hB] at hlb hub hprod HOF2 ⊢
 obtain ⟨us, hus⟩ : ∃ us, es A = us := ⟨_, rfl⟩
 obtain ⟨vs, hvs⟩ : ∃ vs, es B = vs := ⟨_, rfl⟩
 have HUS := Lib.hid hus
 have HVS := Lib.hid hvs
 rw [hus] at hla hua hprod
 rw [hvs] at hlb hub hprod
 have HUA := Lib.hid hua
 have HUB := Lib.hid hub
 have HPR := Lib.hid hprod
 clear h1 h2 hua hub hA hB hus hvs hprod ha hb
 obtain ⟨n, hn⟩ : ∃ n, us.length = n := ⟨_, rfl⟩
 obtain ⟨m, hm⟩ : ∃ m, vs.length = m := ⟨_, rfl⟩
 rw [hn] at hla HPR
 rw [hm] at hlb HPR
 have HN := Lib.hid hn
 have HM := Lib.hid hm
 have hnm : ((n : Int) + (m : Int)) = ((n + m : Nat) : Int) := by omega
 have HNM := Lib.hid hnm
 clear hn hm hnm
 obtain ⟨wo, rfl⟩ : ∃ wo : World, wo = w := ⟨_, rfl⟩
 rcases hpq with rfl | ⟨rfl, rfl⟩
 all_goals
  go_enter Tryz.func42, Tryz.ntmps42
  go_wp2_with (first
   | (go_at_call 80; with_reducible refine (H1.out _).mono ?_; rintro e w' ⟨rfl, rfl⟩)
   | (go_at_call 80; with_reducible refine (H2.out _).mono ?_; rintro e w' ⟨rfl, rfl⟩))
  refine (HOF1.out _).mono ?_
  rintro e w1 ⟨v1, rfl, hr1, hC1⟩
  obtain ⟨p1, n1, c1, rfl, hnc1, hcm1, _, hd1⟩ := hr1
  rw [HUS.out] at hd1
  obtain rfl : n1 = n := hd1.len.symm.trans HN.out
  have HD1 := Lib.hid hd1
  have HC1 := Lib.hid hC1
  clear hd1 hC1
  go_wp2_with fail
  refine (HOF2.out _).mono ?_
  rintro e w2 ⟨v2, rfl, hr2, hC2⟩
  obtain ⟨p2, n2, c2, rfl, hnc2, hcm2, _, hd2⟩ := hr2
  rw [HVS.out] at hd2
  obtain rfl : n2 = m := hd2.len.symm.trans HM.out
  have HD2 := Lib.hid hd2
  have HC2 := Lib.hid (HC1.out.step0 hC2 (Nat.le_refl _))
  have HD1b := Lib.hid (HD1.out.on hC2)
  clear hd2 hC2 HD1 HC1
  obtain ⟨nn, hnn⟩ : ∃ nn, n1 + n2 = nn := ⟨_, rfl⟩
  rw [hnn] at HNM HPR
  have hnl : nn ≤ 2000 := by omega
  have HNN := Lib.hid hnn
  clear hnn
  go_wp2_with (at_make; refine wpList_make_blk _ rfl _ _ 54 rfl 3 i0 .i64 0 Tryz.underlying54 hi hz0 hz1 .i64 .i64 _ _ nn rfl rfl HNM.out HNM.out (by rw [hz2]; omega) (by unfold maxLen; omega) ?_; intro w3 hB3 hC3)
  have hlt1 := HD1b.out.lt_size
  have hlt2 := HD2.out.lt_size
  have hwo := HC2.out.size
  have hcw := HC2.out.step0 hC3 (Nat.le_refl _)
  have hd13 := HD1b.out.on hC3
  have hd23 := HD2.out.on hC3
  obtain ⟨Bq, hBq⟩ : ∃ B, w2.heap.size = B := ⟨_, rfl⟩
  rw [hBq] at hlt1 hlt2 hwo hB3 ⊢
  have HDA1 := Lib.hid (fun (wr : World) (h : Ch Bq none1 w3 wr) => Di.ch h hd13 hlt1)
  have HDA2 := Lib.hid (fun (wr : World) (h : Ch Bq none1 w3 wr) => Di.ch h hd23 hlt2)
  have HWO := Lib.hid hwo
  have HCW := Lib.hid hcw
  have hst0 : ev ((List.replicate nn 0).take (0 + n2)) = ev (us.take 0) * ev vs := by
   rw [List.take_replicate, ev_zeros]
   simp [ev]
  have HB3 := Lib.hid (hB3.cast (show List.replicate nn (Value.int .i64 0) = (List.replicate nn 0).map I by rw [List.map_replicate]; rfl))
  clear hlt1 hlt2 hwo hcw hd13 hd23 hB3 hC3 hBq HC2 HD1b HD2 HOF1 HOF2 H1 H2
  go_loopg [12] n1 (fun gh i wr => ∃ (k : Nat) (zs : List Nat), k ≤ n1 ∧ gh = n1 - k ∧ i = I k ∧ zs.length = nn ∧ Eok zs ∧ ev (zs.take (k + n2)) = ev (us.take k) * ev vs ∧ Blk wr Bq 3 (zs.map I) ∧ Ch Bq none1 w3 wr)
  case atStart => exact ⟨0, List.replicate nn 0, Nat.zero_le _, rfl, rfl, by simp, Eok.zeros _, hst0, HB3.out, Ch.refl _ _ _⟩
  case round =>
   clear hst0 HB3
   obtain ⟨k, zs, hk, rfl, rfl, hzl, hz, hzv, hB', hC'⟩ := hrel
   have HZ := Lib.hid hzl; clear hzl
   have HZK := Lib.hid hz; clear hz
   have HZV := Lib.hid hzv; clear hzv
   have HB := Lib.hid hB'; clear hB'
   have HC := Lib.hid hC'; clear hC'
   by_cases hlt : k < n1
   ·have hd1 := HDA1.out _ HC.out
    obtain ⟨gx, rfl⟩ := hd1.addr (by omega)
    have hkx : k < us.length := by rw [HN.out]; exact hlt
    have hts := ev_take_succ us k hkx
    have hub := hd1.lt.get k hkx
    obtain ⟨u, hu⟩ : ∃ u, us[k] = u := ⟨_, rfl⟩
    have HU := Lib.hid hu
    rw [hu] at hts hub
    have HTS := Lib.hid hts
    unfold E24 at hub
    have hknn : (k : Int) + (n2 : Int) < (nn : Int) := by have := HNN.out; omega
    obtain ⟨W, hW⟩ : ∃ W, ev (us.take k) * ev vs = W := ⟨_, rfl⟩
    have hzv0 := HZV.out
    rw [hW] at hzv0
    have HW := Lib.hid hW
    have HZV0 := Lib.hid hzv0
    clear hts hu hd1 hW hzv0
    go_wp2_with fail
    go_loopg [13, 14] n2 (fun gh c j wi => ∃ (jn cN : Nat) (zs : List Nat), jn ≤ n2 ∧ gh = n2 - jn ∧ c = I cN ∧ cN < 16777216 ∧ j = I jn ∧ zs.length = nn ∧ Eok zs ∧
     ev (zs.take (k + n2)) + E24 ^ (k + jn) * cN = W + E24 ^ k * (u * ev (vs.take jn)) ∧ Blk wi Bq 3 (zs.map I) ∧ Ch Bq none1 w3 wi)
    case atStart => exact ⟨0, 0, zs, Nat.zero_le _, rfl, rfl, by omega, rfl, HZ.out, HZK.out, by rw [HZV0.out]; simp [ev], HB.out, HC.out⟩
    case round =>
     clear HZ HZK HZV HZV0 HB HC zs
     obtain ⟨j, c, zs, hj, rfl, rfl, hc, rfl, hzl, hz, hzv, hB', hC'⟩ := hrel
     have HZ := Lib.hid hzl; clear hzl
     have HZK := Lib.hid hz; clear hz
     have HZV := Lib.hid hzv; clear hzv
     have HB := Lib.hid hB'; clear hB'
     have HC := Lib.hid hC'; clear hC'
     by_cases hjl : j < n2
     ·have hd1 := HDA1.out _ HC.out
      have hd2 := HDA2.out _ HC.out
      have hgu := hd1.get0 k hlt
      rw [HU.out] at hgu
      obtain ⟨gy, rfl⟩ := hd2.addr (by omega)
      have hgv := hd2.get0 j hjl
      have hjv : j < vs.length := by rw [HM.out]; exact hjl
      have hty := ev_take_succ vs j hjv
      have hvb := hd2.lt.get j hjv
      obtain ⟨v, hv⟩ : ∃ v, vs[j] = v := ⟨_, rfl⟩
      rw [hv] at hgv hty hvb
      unfold E24 at hvb
      have hpos : k + j < zs.length := by rw [HZ.out, ← HNN.out]; omega
      have hzc : _ = some (I (zs[k + j])) := (HB.out.cell (k + j)).trans (by rw [List.getElem?_map, List.getElem?_eq_getElem hpos]; rfl)
      have hfz := HB.out.frozen (k + j)
      have hzb := HZK.out.get (k + j) hpos
      have hput := mul_put zs k n2 j u v c (zs[k + j] + u * v + c) _ hjl hpos HZV.out rfl
      have hset := fun r => HB.out.drewN (n := 0) |>.set (k + j) (I r)
      obtain ⟨z, hzz⟩ : ∃ z, zs[k + j] = z := ⟨_, rfl⟩
      rw [hzz] at hzc hzb hput
      unfold E24 at hzb
      have hmul : u * v ≤ 16777215 * 16777215 := Nat.mul_le_mul (by omega) (by omega)
      obtain ⟨m, hm⟩ : ∃ m, u * v = m := ⟨_, rfl⟩
      have hmi : (u : Int) * (v : Int) = (m : Int) := by rw [← hm, Int.natCast_mul]
      rw [hm] at hmul
      have hnew : W + E24 ^ k * (u * ev (vs.take j)) + E24 ^ k * (u * (E24 ^ j * v)) = W + E24 ^ k * (u * ev (vs.take (j + 1))) := by
       rw [hty, Nat.mul_add, Nat.mul_add, Nat.add_assoc]
      rw [hnew, hm] at hput
      have hmb : m ≤ 281474943156225 := by omega
      have hr := rem24 (z + m + c)
      have hq := quo24 (z + m + c)
      have hdiv : (z + m + c) / E24 < 16777216 := by rw [E24_eq, Nat.div_lt_iff_lt_mul (by omega)]; omega
      have hmod : (z + m + c) % E24 < E24 := Nat.mod_lt _ E24_pos
      obtain ⟨rr, hrr⟩ : ∃ rr, (z + m + c) % E24 = rr := ⟨_, rfl⟩
      obtain ⟨qq, hqq⟩ : ∃ qq, (z + m + c) / E24 = qq := ⟨_, rfl⟩
      rw [hrr] at hput hr hmod
      rw [hqq] at hput hq hdiv
      rw [Int.natCast_add, Int.natCast_add] at hr hq
      have e1 : ((k : Int) + (j : Int)).toNat = k + j := by omega
      have hkj : (k : Int) + (j : Int) < (nn : Int) := by have := HNN.out; omega
      have HP := Lib.hid hput
      have HMD := Lib.hid hmod
      have HDV := Lib.hid hdiv
      clear hput hty hv hmod hm hmul hrr hqq hzz hnew hd1 hd2 hpos hset
      go_wp2_with fail
      go_quiet (fail)
      go_wp2_with fail
      go_roundg (n2 - (j + 1))
      case measure => omega
      case rel =>
       exact ⟨j + 1, qq, zs.set (k + j) rr, by omega, rfl, rfl, HDV.out, by go_num, by rw [List.length_set]; exact HZ.out, HZK.out.set _ _ HMD.out, HP.out, ((HB.out.drewN _).set (k + j) (I rr)).cast (set_map _ _ _), (HC.out.drewN _).setCell (.inl (Nat.le_refl _)) _⟩
     ·obtain rfl : j = n2 := by omega
      have hpos : k + j < zs.length := by rw [HZ.out, ← HNN.out]; omega
      have hzc : _ = some (I (zs[k + j])) := (HB.out.cell (k + j)).trans (by rw [List.getElem?_map, List.getElem?_eq_getElem hpos]; rfl)
      have hfz := HB.out.frozen (k + j)
      obtain ⟨z, hzz⟩ : ∃ z, zs[k + j] = z := ⟨_, rfl⟩
      rw [hzz] at hzc
      have hfull : vs.take j = vs := List.take_of_length_le (by rw [HM.out]; exact Nat.le_refl _)
      have hend := mul_end zs (k + j) c hpos
      have hv := HZV.out
      rw [hfull] at hv
      rw [hv, ← HW.out, show k + j + 1 = k + 1 + j from by omega, ← Nat.mul_assoc, ← Nat.add_mul, ← HTS.out] at hend
      have HE := Lib.hid hend
      have e1 : ((k : Int) + (j : Int)).toNat = k + j := by omega
      clear hend hv hfull hzz hpos
      go_wp2_with fail
      go_roundg (n1 - (k + 1))
      case measure => omega
      case rel =>
       exact ⟨k + 1, zs.set (k + j) c, by omega, rfl, by go_num, by rw [List.length_set]; exact HZ.out, HZK.out.set _ _ (by unfold E24; exact hc), HE.out, (HB.out.set (k + j) (I c)).cast (set_map _ _ _), HC.out.setCell (.inl (Nat.le_refl _)) _⟩
   ·obtain rfl : k = n1 := by omega
    have hev : ev zs = A * B := by
     have h := HZV.out
     rw [List.take_of_length_le (by rw [HZ.out, ← HNN.out]; exact Nat.le_refl _), List.take_of_length_le (by rw [HN.out]; exact Nat.le_refl _), HUA.out, HUB.out] at h
     exact h
    have hnum := rnumber_any (some ⟨Bq, 0, none⟩) nn nn zs wr (di_of_blk HB.out HZK.out nn HZ.out) (by omega)
    rw [hev] at hnum
    have HNUM := Lib.hid hnum
    clear hev hnum
    go_wp2_with fail
    refine HNUM.out.mono ?_
    rintro e w9 ⟨rfl, hC9⟩
    go_wp2_with fail
    go_ret
    exact ⟨rfl, (HCW.out.trans (HC.out.mono HWO.out (fun _ _ q => q))).step0 hC9 (Nat.le_refl _)⟩
theorem rmul_any (a b : List UInt8) (w : World) (ha : a.length ≤ 1000) (hb : b.length ≤ 1000) :
  Calls Tryz.prog 42 #[S a, S b] w (Yld w (S (nb (bv a * bv b)))) := by
 by_cases h1 : bv a < 256 ^ 3
 ·by_cases h2 : bv b < 256 ^ 4
  ·have s1 : ∀ w, Calls Tryz.prog 80 #[S a, .int .i64 3] w fun e w' => e = .returned (.tuple #[.int .i64 (bv a : Nat), .bool true]) ∧ w' = w := fun w => small_yes a 3 w (by omega) (by omega) h1
   have s2 : ∀ w, Calls Tryz.prog 80 #[S b, .int .i64 4] w fun e w' => e = .returned (.tuple #[.int .i64 (bv b : Nat), .bool true]) ∧ w' = w := fun w => small_yes b 4 w (by omega) (by omega) h2
   have H1 := Lib.hid s1
   have H2 := Lib.hid s2
   clear s1 s2
   have hm : bv a * bv b ≤ 16777215 * 4294967295 := Nat.mul_le_mul (by omega) (by omega)
   obtain ⟨m, hmm⟩ : ∃ m, bv a * bv b = m := ⟨_, rfl⟩
   obtain ⟨A, hA⟩ : ∃ A, bv a = A := ⟨_, rfl⟩
   obtain ⟨B, hB⟩ : ∃ B, bv b = B := ⟨_, rfl⟩
   rw [hmm] at hm ⊢
   rw [hA] at h1 hmm H1
   rw [hB] at h2 hmm H2
   have hmi : (A : Int) * (B : Int) = (m : Int) := by rw [← hmm, Int.natCast_mul]
   have HOF := Lib.hid (fun w => refOf_any (m : Int) w (by omega) (by omega))
   have hA2 : A ≤ 16777215 := by omega
   have hB2 : B ≤ 4294967295 := by omega
   clear h1 h2 hmm hA hB ha hb
   go_enter Tryz.func42, Tryz.ntmps42
   go_wp2_with (first
    | (go_at_call 80; with_reducible refine (H1.out _).mono ?_; rintro e w' ⟨rfl, rfl⟩)
    | (go_at_call 80; with_reducible refine (H2.out _).mono ?_; rintro e w' ⟨rfl, rfl⟩)
    | (go_at_call 40; with_reducible refine (HOF.out _).mono ?_; rintro e w' ⟨rfl, hC⟩))
   go_ret
   exact ⟨rfl, hC⟩
  ·exact rmul_gen a b _ _ true false w ha hb (.inr ⟨rfl, rfl⟩) (fun w => small_yes a 3 w (by omega) (by omega) h1) (fun w => small_no b 4 w (by omega) (by omega) h2)
 ·by_cases h2 : bv b < 256 ^ 4
  ·exact rmul_gen a b _ _ false true w ha hb (.inl rfl) (fun w => small_no a 3 w (by omega) (by omega) h1) (fun w => small_yes b 4 w (by omega) (by omega) h2)
  ·exact rmul_gen a b _ _ false false w ha hb (.inl rfl) (fun w => small_no a 3 w (by omega) (by omega) h1) (fun w => small_no b 4 w (by omega) (by omega) h2)
theorem C_rmul {a b l : List UInt8} {n : Nat} (hl : nb n = l) (ha : a.length ≤ 1000) (hb : b.length ≤ 1000) (hn : bv a * bv b = n) : Ans 42 #[S a, S b] (S l) := fun w =>
 (rmul_any a b w ha hb).mono fun _ _ ⟨he, hC⟩ => ⟨by rw [he, hn, hl], hC⟩
end Go.Proofs.YtkeomlpecjjhiaaGreatDoor
namespace Go.Proofs.YtkeomlpecjjhiaaGreatDoor
open Go.RowKit
section
variable {P : Program}
/-- append to a slice of one's own, of a slice, nil or not. -/
theorem wpList_append_upsrc (w : World) {ops : Array Oper} {rest : List Oper} {o : Oper} {a : Act} {Q : Exit → Act → World → Prop} (hgd : o.guard = none) (s x : Operand) (t : TypeId)
  (ho : o.op = .call { callee := .builtin .append, args := #[s, x], argTypes := #[t, t] })
  (B : Nat) (e : TypeId) (i : TypeInfo) (k : IntKind) (z : Int) (bytes : Nat) (ht : P.underlying t = some (.slice e)) (hi : P.info? e = some i) (hz : i.zero = some (.int k z))
  (hsize : i.size = 1) (hby : i.bytes = bytes) (hb8 : bytes ≤ 8)
  (v : Value) (xs : List Value) (hs : a.eval s = v) (hown : Own w B e v xs)
  (ao : Option Addr) (m c : Nat) (news : List Value) (hx : a.eval x = .slice ao m c) (hl : news.length = m) (hnone : ao = none → m = 0 ∧ c = 0) (hnews : ∀ ad, ao = some ad → ∀ j u, news[j]? = some u → w.cell? (ad.add j) = some u) (h1 : ∀ u ∈ news, u.oneCell' = true)
  (h40 : xs.length + m ≤ 1000000000000) (hbase : B ≤ w.heap.size)
  (h : ∀ v' w', Own w' B e v' (xs ++ news) → Ch B none1 w w' → wpList P ops Q rest (a.put o.dst v') w') : wpList P ops Q (o :: rest) a w := by
 cases ao with
 | some ad => exact wpList_append_up w hgd s x t ho B e i k z bytes ht hi hz hsize hby hb8 v xs hs hown ad m c news hx hl (hnews ad rfl) h1 h40 hbase h
 | none =>
  obtain ⟨rfl, rfl⟩ := hnone rfl
  have hn0 : news = [] := List.eq_nil_of_length_eq_zero hl
  subst hn0
  have hrun := run_append_owned_none (P := P) (w := w) B t o.type e i 1 ht hi v xs.length xs hown
  refine wpList_plain hgd fun K hK' => ?_
  unfold Oper.wp
  simp [execOp, ho, resolve, invoke, builtin, hs, hx, hrun, Result.andThen]
  exact hK' _ _ (h v w (by simpa using hown) (Ch.refl _ _ _))
end
theorem di_news {w : World} {p : Option Addr} {n : Nat} {xs : List Nat} (h : Di w p n xs) : ∀ ad, p = some ad → ∀ j u, (xs.map I)[j]? = some u → w.cell? (ad.add j) = some u := fun ad ha j u hu => by
 obtain ⟨g, rfl⟩ : ∃ g, ad = ⟨g, 0, none⟩ := by
  obtain ⟨h1, h2, _⟩ := h.at' ad ha
  obtain ⟨g, o, s⟩ := ad
  simp only at h1 h2
  subst h1 h2
  exact ⟨g, rfl⟩
 subst ha
 have hj : j < xs.length := by simpa using (List.getElem?_eq_some_iff.1 hu).1
 rw [plain_add, h.get j (by rw [← h.len]; exact hj), ← hu]
 simp [hj]
theorem ints_oneI (xs : List Nat) : ∀ u ∈ xs.map I, u.oneCell' = true := fun u hu => by
 obtain ⟨_, _, rfl⟩ := List.mem_map.1 hu
 rfl
/-- A slice of one cell that a literal made. -/
theorem own_lit1 (w : World) (B : Nat) (e : TypeId) (u : Value) (hb : B ≤ w.heap.size) : Own (w.alloc (.cells #[u] e (0, 0))) B e (.slice (some ⟨w.heap.size, 0, none⟩) 1 1) [u] :=
 ⟨rfl, .inr ⟨w.heap.size, 1, #[u], rfl, hb, heap_alloc_new w _, Nat.le_refl _, by unfold maxLen; omega, rfl, rfl⟩⟩
/-- One step of the division by the schoolbook. -/
theorem quo_top (A _V k x : Nat) (xs : List Nat) (hx : ev xs = A) (hxo : Eok xs) (hk : k < xs.length) (hxk : xs[k] = x) : A / E24 ^ k = x + E24 * (A / E24 ^ (k + 1)) := by
 have h1 := ev_take_drop xs k (by omega)
 have h2 := List.drop_eq_getElem_cons hk
 have h3 := ev_lt (hxo.take k)
 rw [List.length_take, Nat.min_eq_left (by omega)] at h3
 have h4 := ev_take_drop xs (k + 1) (by omega)
 have h5 := ev_lt (hxo.take (k + 1))
 rw [List.length_take, Nat.min_eq_left (by omega)] at h5
 rw [hx] at h1 h4
 have e1 : A / E24 ^ k = ev (xs.drop k) := by rw [h1, Nat.add_mul_div_left _ _ (Nat.pow_pos E24_pos), Nat.div_eq_of_lt h3, Nat.zero_add]
 have e2 : A / E24 ^ (k + 1) = ev (xs.drop (k + 1)) := by rw [h4, Nat.add_mul_div_left _ _ (Nat.pow_pos E24_pos), Nat.div_eq_of_lt h5, Nat.zero_add]
 rw [e1, e2, h2, ev_cons, hxk]
/-- The row of the quotient's digits, the lowest k of them still zero. -/
theorem quo_row (A _V k q : Nat) (zs : List Nat) (_hz : ∀ i, i < k + 1 → zs.getD i 0 = 0) (hk : k < zs.length) (hv : ev (zs.drop (k + 1)) = A) : ev ((zs.set k q).drop k) = q + E24 * A := by
 rw [List.drop_set, if_neg (by omega), Nat.sub_self, List.drop_eq_getElem_cons hk, List.set_cons_zero, ev_cons, hv]
theorem quo_zero (A k : Nat) (zs : List Nat) (hz : ∀ i, i < k + 1 → zs.getD i 0 = 0) (hk : k < zs.length) (hv : ev (zs.drop (k + 1)) = A) : ev (zs.drop k) = E24 * A := by
 have h := hz k (Nat.lt_succ_self k)
 rw [List.getD_eq_getElem?_getD, List.getElem?_eq_getElem hk] at h
 rw [List.drop_eq_getElem_cons hk, ev_cons, hv]
 simp only [Option.getD_some] at h
 rw [h, Nat.zero_add]
theorem getD_set_lt (zs : List Nat) (k q i : Nat) (h : i < k) : (zs.set k q).getD i 0 = zs.getD i 0 := by
 rw [List.getD_eq_getElem?_getD, List.getD_eq_getElem?_getD, List.getElem?_set_ne (by omega)]
theorem es_len_cons {x R n : Nat} (hx : x < E24) (h : (es R).length ≤ n) : (es (x + E24 * R)).length ≤ n + 1 := by
 have h1 := (es_len R n).1 h
 refine (es_len _ _).2 ?_
 rw [Nat.pow_succ, Nat.mul_comm (E24 ^ n)]
 have h4 : E24 * (R + 1) ≤ E24 * E24 ^ n := Nat.mul_le_mul_left _ h1
 rw [Nat.mul_add, Nat.mul_one] at h4
 omega
theorem di_set {w : World} {p : Option Addr} {n : Nat} {xs : List Nat} (hd : Di w p n xs) (g j : Nat) (v : Value) (hne : ∀ a, p = some a → a.block ≠ g) : Di (w.setCell ⟨g, j, none⟩ v) p n xs :=
 ⟨hd.len, hd.lt, hd.nil, fun a ha => by
  obtain ⟨h1, h2, t, post, hb⟩ := hd.at' a ha
  exact ⟨h1, h2, t, post, hb.set_other (hne a ha) j v⟩⟩
set_option maxRecDepth 100000 in
set_option maxHeartbeats 3200000 in
theorem rquo_gen (a b y : List UInt8) (sx sy : Int) (p q : Bool) (w : World) (ha : a.length ≤ 1000) (hy : y.length ≤ 1000) (hcan : ∀ w, Calls Tryz.prog 79 #[S b] w fun e w' => e = .returned (S y) ∧ w' = w)
  (hyv : bv y = bv b) (hpos : 0 < bv b) (hpq : p = false ∨ (p = true ∧ q = false))
  (h1 : ∀ w, Calls Tryz.prog 80 #[S a, .int .i64 7] w fun e w' => e = .returned (.tuple #[.int .i64 sx, .bool p]) ∧ w' = w)
  (h2 : ∀ w, Calls Tryz.prog 80 #[S y, .int .i64 7] w fun e w' => e = .returned (.tuple #[.int .i64 sy, .bool q]) ∧ w' = w) :
  Calls Tryz.prog 84 #[S a, S b] w (Yld w (.tuple #[S (nb (bv a / bv b)), S (nb (bv a % bv b)), .bool true])) := by
 obtain ⟨i0, hi, hz0, hz1, hz2⟩ := info_parts Tryz.info3
 have HCAN := Lib.hid hcan
 have H1 := Lib.hid h1
 have H2 := Lib.hid h2
 have HOF1 := Lib.hid (fun w => rof_rd a w (by omega))
 have HOF2 := Lib.hid (fun w => rof_rd y w (by omega))
 have hyl : 0 < y.length := by
  rcases Nat.eq_zero_or_pos y.length with h | h
  ·have := List.eq_nil_of_length_eq_zero h
   subst this
   rw [bv_nil] at hyv
   omega
  ·exact h
 have hyl2 : ((y.length : Int) == 0) = false := by rw [beq_eq_false_iff_ne]; omega
 have hla : (es (bv a)).length ≤ 1000 := by have h := es_len_bytes a; have h' := trimL_len a; omega
 have hlb : (es (bv y)).length ≤ 1000 := by have h := es_len_bytes y; have h' := trimL_len y; omega
 have hua := ev_es (bv a)
 obtain ⟨A, hA⟩ : ∃ A, bv a = A := ⟨_, rfl⟩
 obtain ⟨V, hV⟩ : ∃ V, bv b = V := ⟨_, rfl⟩
 rw [hA] at hla hua HOF1 ⊢
 rw [hyv] at hlb HOF2
 rw [hV] at hlb hpos HOF2 ⊢
 obtain ⟨us, hus⟩ : ∃ us, es A = us := ⟨_, rfl⟩
 have HUS := Lib.hid hus
 rw [hus] at hla hua
 have HUA := Lib.hid hua
 have HLB := Lib.hid hlb
 have HPOS := Lib.hid hpos
 clear h1 h2 hua hA hV hus ha hy hyv hcan hyl hpos hlb
 obtain ⟨n, hn⟩ : ∃ n, us.length = n := ⟨_, rfl⟩
 rw [hn] at hla
 have HN := Lib.hid hn
 clear hn
 obtain ⟨wo, rfl⟩ : ∃ wo : World, wo = w := ⟨_, rfl⟩
 rcases hpq with rfl | ⟨rfl, rfl⟩
 all_goals
  go_enter Tryz.func84, Tryz.ntmps84
  go_wp2_with (first
   | (go_at_call 79; with_reducible refine (HCAN.out _).mono ?_; rintro e w' ⟨rfl, rfl⟩)
   | (go_at_call 80; with_reducible refine (H1.out _).mono ?_; rintro e w' ⟨rfl, rfl⟩)
   | (go_at_call 80; with_reducible refine (H2.out _).mono ?_; rintro e w' ⟨rfl, rfl⟩))
  refine (HOF1.out _).mono ?_
  rintro e w1 ⟨v1, rfl, hr1, hC1⟩
  obtain ⟨p1, n1, c1, rfl, hnc1, hcm1, _, hd1⟩ := hr1
  rw [HUS.out] at hd1
  obtain rfl : n1 = n := hd1.len.symm.trans HN.out
  have HD1 := Lib.hid hd1
  have HC1 := Lib.hid hC1
  clear hd1 hC1
  go_wp2_with fail
  refine (HOF2.out _).mono ?_
  rintro e w2 ⟨v2, rfl, hr2, hC2⟩
  have HR2 := Lib.hid hr2
  have HC2 := Lib.hid (HC1.out.step0 hC2 (Nat.le_refl _))
  have HD1b := Lib.hid (HD1.out.on hC2)
  clear hr2 hC2 HD1 HC1
  go_wp2_with (at_make; refine wpList_make_blk _ rfl _ _ 54 rfl 3 i0 .i64 0 Tryz.underlying54 hi hz0 hz1 .i64 .i64 _ _ n1 rfl rfl rfl rfl (by rw [hz2]; omega) (by unfold maxLen; omega) ?_; intro w3 hB3 hC3)
  have hlt1 := HD1b.out.lt_size
  have hwo := HC2.out.size
  have hcw := HC2.out.step0 hC3 (Nat.le_refl _)
  have hd13 := HD1b.out.on hC3
  obtain ⟨p2, n2, c2, rfl, hnc2, hcm2, hnil2, hd2⟩ := HR2.out
  have hlt2 := hd2.lt_size
  have hd23 := hd2.on hC3
  obtain ⟨Bq, hBq⟩ : ∃ B, w2.heap.size = B := ⟨_, rfl⟩
  rw [hBq] at hlt1 hlt2 hwo hB3 ⊢
  have HDA1 := Lib.hid (fun (wr : World) (h : Ch Bq none1 w3 wr) => Di.ch h hd13 hlt1)
  have HRA2 := Lib.hid (fun (wr : World) (h : Ch Bq none1 w3 wr) => show RdE wr (.slice p2 n2 c2) V from ⟨p2, n2, c2, rfl, hnc2, hcm2, hnil2, Di.ch h hd23 hlt2⟩)
  have HWO := Lib.hid hwo
  have HCW := Lib.hid hcw
  have HB3 := Lib.hid (hB3.cast (show List.replicate n1 (Value.int .i64 0) = (List.replicate n1 0).map I by rw [List.map_replicate]; rfl))
  have hAn : A < E24 ^ n1 := by
   have h := (es_len A us.length).1 (by rw [HUS.out]; exact Nat.le_refl _)
   rwa [HN.out] at h
  have hst1 : A / E24 ^ n1 % V = 0 := by rw [Nat.div_eq_of_lt hAn, Nat.zero_mod]
  have hst2 : ev ((List.replicate n1 0).drop n1) = A / E24 ^ n1 / V := by
   rw [Nat.div_eq_of_lt hAn, Nat.zero_div, List.drop_of_length_le (by simp)]; rfl
  have hst3 : RdE w3 (.slice none 0 0) (A / E24 ^ n1 % V) := by
   rw [hst1]
   have : es 0 = [] := es_zero
   exact ⟨none, 0, 0, rfl, Nat.le_refl _, by unfold maxLen; omega, fun _ => rfl, by rw [this]; exact Di.nil' _⟩
  have hst4 : ∀ i, i < n1 → (List.replicate n1 0).getD i 0 = 0 := fun i _ => by
   rw [List.getD_eq_getElem?_getD, List.getElem?_replicate]
   split <;> rfl
  clear hlt1 hlt2 hwo hcw hd13 hd23 hd2 hB3 hC3 hBq HC2 HD1b HR2 HOF1 HOF2 H1 H2 HCAN hst1 hAn
  go_loopw [14, 15] (fun r i wr => ∃ (k : Nat) (zs : List Nat), k ≤ n1 ∧ i = .int .i64 ((k : Int) - 1) ∧ RdE wr r (A / E24 ^ k % V) ∧ zs.length = n1 ∧ Eok zs ∧ (∀ i, i < k → zs.getD i 0 = 0) ∧ ev (zs.drop k) = A / E24 ^ k / V ∧
   Blk wr Bq 3 (zs.map I) ∧ Ch Bq none1 w3 wr) (fun _ i _ => (intOf i + 1).toNat)
  case atStart => exact ⟨n1, List.replicate n1 0, Nat.le_refl _, rfl, hst3, by simp, Eok.zeros _, hst4, hst2, HB3.out, Ch.refl _ _ _⟩
  case round =>
   clear hst2 hst3 hst4 HB3
   obtain ⟨k, zs, hk, rfl, hrest, hzl, hz, hzero, hzv, hB', hC'⟩ := hrel
   have HR := Lib.hid hrest; clear hrest
   have HZ := Lib.hid hzl; clear hzl
   have HZK := Lib.hid hz; clear hz
   have HZ0 := Lib.hid hzero; clear hzero
   have HZV := Lib.hid hzv; clear hzv
   have HB := Lib.hid hB'; clear hB'
   have HC := Lib.hid hC'; clear hC'
   rcases k with _ | k
   ·have hev : ev zs = A / V := by
     have h := HZV.out
     rwa [List.drop_zero, Nat.pow_zero, Nat.div_one] at h
    have hrest := HR.out
    rw [Nat.pow_zero, Nat.div_one] at hrest
    have hnum := rnumber_any (some ⟨Bq, 0, none⟩) n1 n1 zs wr (di_of_blk HB.out HZK.out n1 HZ.out) (by omega)
    rw [hev] at hnum
    have hlr : (es (A % V)).length ≤ 33333333333 := Nat.le_trans (es_len_le (Nat.le_of_lt (Nat.mod_lt A HPOS.out))) (Nat.le_trans HLB.out (by omega))
    have HNUM := Lib.hid hnum
    have HREST := Lib.hid hrest
    have HLR := Lib.hid hlr
    clear hev hnum hrest hlr
    go_wp2_with fail
    refine HNUM.out.mono ?_
    rintro e w8 ⟨rfl, hC8⟩
    have HREST2 := Lib.hid (HREST.out.on hC8)
    have HC8 := Lib.hid ((HCW.out.trans (HC.out.mono HWO.out (fun _ _ q => q))).step0 hC8 (Nat.le_refl _))
    clear hC8
    go_wp2_with fail
    refine (rnumber_rd _ (A % V) _ HREST2.out HLR.out).mono ?_
    rintro e w9 ⟨rfl, hC9⟩
    have HC9 := Lib.hid (HC8.out.step0 hC9 (Nat.le_refl _))
    clear hC9
    go_wp2_with fail
    go_ret3
    exact ⟨rfl, HC9.out⟩
   ·have hd1 := HDA1.out _ HC.out
    obtain ⟨gx, rfl⟩ := hd1.addr (by omega)
    have hgx := hd1.get0 k (by omega)
    have hkx : k < us.length := by rw [HN.out]; omega
    obtain ⟨x, hx⟩ : ∃ x, us[k] = x := ⟨_, rfl⟩
    rw [hx] at hgx
    have hxb := hd1.lt.get k hkx
    rw [hx] at hxb
    have htop := quo_top A V k x us HUA.out hd1.lt hkx hx
    obtain ⟨R, hR⟩ : ∃ R, A / E24 ^ (k + 1) % V = R := ⟨_, rfl⟩
    obtain ⟨T, hT⟩ : ∃ T, A / E24 ^ (k + 1) = T := ⟨_, rfl⟩
    rw [hT] at hR htop
    have hput := quo_put T V x HPOS.out
    have hqd := quo_digit T V x HPOS.out hxb
    rw [hR, ← htop] at hput
    rw [hR] at hqd
    have hRV : R < V := by rw [← hR]; exact Nat.mod_lt _ HPOS.out
    have hrd := HR.out
    have hzv := HZV.out
    rw [hT, hR] at hrd
    rw [hT] at hzv
    obtain ⟨p3, n3, c3, rfl, hnc3, hcm3, hnil3, hd3⟩ := hrd
    have hRl : (es R).length ≤ 1000 := Nat.le_trans (es_len_le (Nat.le_of_lt hRV)) HLB.out
    have hn3 : n3 ≤ 1000 := by rw [← hd3.len]; exact hRl
    have hnilb : p3 = none → n3 = 0 ∧ c3 = 0 := fun h => ⟨hd3.nil h, hnil3 h⟩
    have HD3 := Lib.hid hd3
    have HN3 := Lib.hid (show ((es R).map I).length = n3 by rw [List.length_map]; exact hd3.len)
    have HNIL := Lib.hid hnilb
    have HZV2 := Lib.hid hzv
    have HPUT := Lib.hid hput
    have HQD := Lib.hid hqd
    have HRV := Lib.hid hRV
    have HRL := Lib.hid hRl
    have HXB := Lib.hid hxb
    clear hd1 hx hxb htop hT hR hput hqd hRV hzv hnil3 hd3 hRl hnilb HR HZV hkx
    go_wp2_with (at_builtin; refine wpList_append_upsrc _ rfl _ _ 54 rfl wr.heap.size 3 i0 .i64 0 8 Tryz.underlying54 hi hz0 hz1 hz2 (by decide) _ _ rfl (own_lit1 wr wr.heap.size 3 _ (Nat.le_refl _)) p3 n3 c3 ((es R).map I) rfl HN3.out HNIL.out (di_news (HD3.out.on (Ch.alloc0 _))) (ints_oneI _) (by simp; omega) (size_alloc_le _ (Nat.le_refl _)) ?_; intro v4 w4 hown4 hC4)
    have hbl := HB.out.lt
    have hC4' := (HC.out.alloc (Nat.le_of_lt hbl) _).trans (hC4.mono (Nat.le_of_lt hbl) (fun _ _ q => q))
    have hB4 := hC4.blk (HB.out.alloc _) hbl (fun q => q)
    have hown5 : Own w4 wr.heap.size 3 v4 ((x :: es R).map I) := hown4
    obtain ⟨p5, c5, rfl, q1, q2, q0, qd, ql⟩ := Own.di hown5 (Eok.cons HXB.out (eok_es R))
    have hle5 : ulen (x :: es R) ≤ (x :: es R).length := ulen_le _
    have hd5 := qd.take (ulen (x :: es R)) hle5
    rw [trimE _ (Eok.cons HXB.out (eok_es R)), ev_cons, ev_es] at hd5
    have htr := rtrim_any p5 _ c5 (x :: es R) w4 qd q1 q2
    obtain ⟨n5, hn5⟩ : ∃ n5, ulen (x :: es R) = n5 := ⟨_, rfl⟩
    rw [hn5] at hd5 htr hle5
    have hne5 : ∀ a, p5 = some a → a.block ≠ Bq := fun a ha => by have := ql a ha; omega
    obtain ⟨U, hU⟩ : ∃ U, x + E24 * R = U := ⟨_, rfl⟩
    rw [hU] at hd5
    have hput := HPUT.out
    have hqd := HQD.out
    rw [hU] at hput hqd
    have hUl : (es U).length ≤ 1001 := by rw [← hU]; exact es_len_cons HXB.out HRL.out
    have HTR := Lib.hid htr
    have HRD5 := Lib.hid (show RdE w4 (.slice p5 n5 c5) U from ⟨p5, n5, c5, rfl, by omega, q2, q0, hd5⟩)
    have HNE5 := Lib.hid hne5
    have HC4 := Lib.hid hC4'
    have HB4 := Lib.hid hB4
    have HPUT2 := Lib.hid hput
    have HQD2 := Lib.hid hqd
    have HUL := Lib.hid hUl
    clear hbl hC4' hB4 hown5 qd hd5 htr hle5 hne5 hput hqd hUl hown4 hC4 ql HPUT HQD hn5 hU HC HB HD3 HN3 HNIL
    refine HTR.out.mono ?_
    rintro e w5 ⟨rfl, rfl⟩
    go_wp2_with fail
    refine (rcmp_any (.slice p5 n5 c5) (.slice p2 n2 c2) U V _ HRD5.out (HRA2.out _ HC4.out) (Nat.le_trans HUL.out (by omega)) (Nat.le_trans HLB.out (by omega))).mono ?_
    rintro e w6 ⟨r, rfl, hs, hC6⟩
    have HC6 := Lib.hid (HC4.out.trans (hC6.mono (Nat.le_of_lt HB4.out.lt) (fun _ _ q => q)))
    have HB6 := Lib.hid (hC6.blk HB4.out HB4.out.lt (fun q => q))
    have HRD6 := Lib.hid (HRD5.out.on hC6)
    clear hC6 HC4 HB4 HRD5 HTR
    by_cases hr : 0 ≤ r
    ·have hle := hs.2.1 hr
     have HLE := Lib.hid hle
     clear hs hle
     go_wp2_with fail
     refine (rdigit_any (.slice p5 n5 c5) (.slice p2 n2 c2) U V _ HRD6.out (HRA2.out _ HC6.out) HPOS.out HQD2.out (Nat.le_trans HUL.out (by omega)) (Nat.le_trans HLB.out (by omega))).mono ?_
     rintro e w7 ⟨rfl, hC7⟩
     obtain ⟨q, hq⟩ : ∃ q, U / V = q := ⟨_, rfl⟩
     have HC7 := Lib.hid (HC6.out.trans (hC7.mono (Nat.le_of_lt HB6.out.lt) (fun _ _ q => q)))
     have HB7 := Lib.hid (hC7.blk HB6.out HB6.out.lt (fun q => q))
     have HRD7 := Lib.hid (HRD6.out.on hC7)
     have hkz : k < zs.length := by rw [HZ.out]; omega
     have hzc : w7.cell? ⟨Bq, k, none⟩ = some (I zs[k]) := by
      rw [HB7.out.cell k, List.getElem?_map, List.getElem?_eq_getElem hkz]; rfl
     have hfz := HB7.out.frozen k
     have hput := HPUT2.out
     have hqE := HQD2.out
     rw [hq] at hput hqE ⊢
     have hvq : V * q ≤ U := by rw [← hq]; exact Nat.mul_div_le U V
     have hmodq : U - V * q = U % V := by rw [← hq]; have := Nat.mod_add_div U V; omega
     have hd7 : RdE (w7.setCell ⟨Bq, k, none⟩ (I q)) (.slice p5 n5 c5) U := by
      obtain ⟨p', n', c', hv, a1, a2, a3, a4⟩ := HRD7.out
      simp only [Value.slice.injEq] at hv
      obtain ⟨rfl, rfl, rfl⟩ := hv
      exact ⟨_, _, _, rfl, a1, a2, a3, di_set a4 Bq k _ HNE5.out⟩
     have hb8 := (HB7.out.set k (I q)).cast (set_map zs k q)
     have hc8 := HC7.out.setCell (p := ⟨Bq, k, none⟩) (.inl (Nat.le_refl _)) (I q)
     have hload : (w7.setCell ⟨Bq, k, none⟩ (I q)).cell? ⟨Bq, k, none⟩ = some (I q) := by
      rw [hb8.cell k, List.getElem?_map, List.getElem?_set_self hkz]; rfl
     obtain ⟨z, hzz⟩ : ∃ z, zs[k] = z := ⟨_, rfl⟩
     rw [hzz] at hzc
     have HRD8 := Lib.hid hd7
     have HB8 := Lib.hid hb8
     have HC8 := Lib.hid hc8
     have HPUT3 := Lib.hid hput
     have HQE := Lib.hid hqE
     have HVQ := Lib.hid hvq
     have HMQ := Lib.hid hmodq
     have HKZ := Lib.hid hkz
     have hk1 : (k : Int) < (n1 : Int) := by omega
     clear hq hput hqE hvq hmodq hd7 hb8 hc8 hC7 hzz hkz
     go_wp2_with fail
     refine (rtimes_any (.slice p2 n2 c2) V q _ (HRA2.out _ HC8.out) HQE.out (Nat.le_trans HLB.out (by omega))).mono ?_
     rintro e w9 ⟨v9, rfl, hr9, hC9⟩
     have HR9 := Lib.hid hr9
     have HB9 := Lib.hid (hC9.blk HB8.out HB8.out.lt (fun q => q))
     have HRD9 := Lib.hid (HRD8.out.on hC9)
     have HC9 := Lib.hid (HC8.out.trans (hC9.mono (Nat.le_of_lt HB8.out.lt) (fun _ _ q => q)))
     clear hr9 hC9 hload hzc hfz
     go_wp2_with fail
     refine (rminus_any (.slice p5 n5 c5) v9 U (V * q) _ HRD9.out HR9.out HVQ.out (Nat.le_trans HUL.out (by omega))).mono ?_
     rintro e w10 ⟨v10, rfl, hr10, hC10⟩
     rw [HMQ.out, ← HPUT3.out.2] at hr10
     have HR10 := Lib.hid hr10
     have HB10 := Lib.hid (hC10.blk HB9.out HB9.out.lt (fun q => q))
     have HC10 := Lib.hid (HC9.out.trans (hC10.mono (Nat.le_of_lt HB9.out.lt) (fun _ _ q => q)))
     clear hr10 hC10
     go_wp2_with fail
     go_roundw
     case rel =>
      refine ⟨k, zs.set k q, by omega, rfl, HR10.out, by rw [List.length_set]; exact HZ.out, HZK.out.set _ _ HQE.out, fun i hi => ?_, ?_, HB10.out, HC10.out⟩
      ·rw [getD_set_lt zs k q i hi]; exact HZ0.out i (by omega)
      ·rw [quo_row _ V k q zs HZ0.out HKZ.out HZV2.out, HPUT3.out.1]
     case measure => simp [intOf]
    ·have hlt : U < V := by
      rcases Nat.lt_or_ge U V with h | h
      ·exact h
      ·exact absurd (hs.2.2 h) hr
     have hput := HPUT2.out
     rw [Nat.div_eq_of_lt hlt, Nat.zero_add, Nat.mod_eq_of_lt hlt] at hput
     have hkz : k < zs.length := by rw [HZ.out]; omega
     have hrd := HRD6.out
     rw [← hput.2] at hrd
     have hq0 := quo_zero _ k zs HZ0.out hkz HZV2.out
     rw [← hput.1] at hq0
     have HRD := Lib.hid hrd
     have HQ0 := Lib.hid hq0
     clear hs hlt hput hkz hrd hq0
     go_wp2_with fail
     go_roundw
     case rel => exact ⟨k, zs, by omega, rfl, HRD.out, HZ.out, HZK.out, fun i hi => HZ0.out i (by omega), HQ0.out, HB6.out, HC6.out⟩
     case measure => simp [intOf]
theorem rquo_any (a b : List UInt8) (w : World) (ha : a.length ≤ 1000) (hb : b.length ≤ 1000) (h0 : 0 < bv b) :
  Calls Tryz.prog 84 #[S a, S b] w (Yld w (.tuple #[S (nb (bv a / bv b)), S (nb (bv a % bv b)), .bool true])) := by
 have hcan : ∀ w, Calls Tryz.prog 79 #[S b] w fun e w' => e = .returned (S (trimL b)) ∧ w' = w := fun w => canon_any b w (by omega)
 have hyv := bv_trim b
 have hyl : (trimL b).length ≤ 1000 := Nat.le_trans (trimL_len b) hb
 obtain ⟨y, hy⟩ : ∃ y, trimL b = y := ⟨_, rfl⟩
 rw [hy] at hcan hyv hyl
 clear hy
 by_cases h1 : bv a < 256 ^ 7
 ·by_cases h2 : bv y < 256 ^ 7
  ·have s1 : ∀ w, Calls Tryz.prog 80 #[S a, .int .i64 7] w fun e w' => e = .returned (.tuple #[.int .i64 (bv a : Nat), .bool true]) ∧ w' = w := fun w => small_yes a 7 w (by omega) (by omega) h1
   have s2 : ∀ w, Calls Tryz.prog 80 #[S y, .int .i64 7] w fun e w' => e = .returned (.tuple #[.int .i64 (bv y : Nat), .bool true]) ∧ w' = w := fun w => small_yes y 7 w (by omega) (by omega) h2
   have hyl0 : 0 < y.length := by
    rcases Nat.eq_zero_or_pos y.length with h | h
    ·have := List.eq_nil_of_length_eq_zero h
     subst this
     rw [bv_nil] at hyv
     omega
    ·exact h
   have hyl2 : ((y.length : Int) == 0) = false := by rw [beq_eq_false_iff_ne]; omega
   rw [hyv] at s2 h2
   have H1 := Lib.hid s1
   have H2 := Lib.hid s2
   have HCAN := Lib.hid hcan
   clear s1 s2 hcan hyv hyl0
   obtain ⟨A, hA⟩ : ∃ A, bv a = A := ⟨_, rfl⟩
   obtain ⟨B, hB⟩ : ∃ B, bv b = B := ⟨_, rfl⟩
   rw [hA] at h1 H1 ⊢
   rw [hB] at h2 h0 H2 ⊢
   have h1' : A < 72057594037927936 := h1
   have h2' : B < 72057594037927936 := h2
   have hqi : (A : Int).tdiv (B : Int) = ((A / B : Nat) : Int) := by rw [Int.tdiv_eq_ediv_of_nonneg (by omega)]; exact (Int.natCast_ediv _ _).symm
   have hri : (A : Int).tmod (B : Int) = ((A % B : Nat) : Int) := by rw [Int.tmod_eq_emod_of_nonneg (by omega)]; exact (Int.natCast_emod _ _).symm
   have hb0 : ((B : Int) == 0) = false := by rw [beq_eq_false_iff_ne]; omega
   have hqb : A / B ≤ A := Nat.div_le_self _ _
   have hrb : A % B ≤ A := Nat.mod_le _ _
   obtain ⟨qq, hqq⟩ : ∃ q, A / B = q := ⟨_, rfl⟩
   obtain ⟨rr, hrr⟩ : ∃ r, A % B = r := ⟨_, rfl⟩
   rw [hqq] at hqi hqb ⊢
   rw [hrr] at hri hrb ⊢
   have HO1 := Lib.hid (show ∀ w, Calls Tryz.prog 40 #[.int .i64 (IntKind.i64.wrap (qq : Int))] w (Yld w (S (nb qq))) from fun w => by rw [IntWalk.i64_in _ (by omega)]; exact refOf_any (qq : Int) w (by omega) (by omega))
   have HO3 := Lib.hid (show ∀ w, Calls Tryz.prog 40 #[.int .i64 (qq : Int)] w (Yld w (S (nb qq))) from fun w => refOf_any (qq : Int) w (by omega) (by omega))
   have HO2 := Lib.hid (show ∀ w, Calls Tryz.prog 40 #[.int .i64 (rr : Int)] w (Yld w (S (nb rr))) from fun w => refOf_any (rr : Int) w (by omega) (by omega))
   clear h1 h2 hA hB hqq hrr ha hb hyl
   go_enter Tryz.func84, Tryz.ntmps84
   go_wp2_with (first
    | (go_at_call 79; with_reducible refine (HCAN.out _).mono ?_; rintro e w' ⟨rfl, rfl⟩)
    | (go_at_call 80; with_reducible refine (H1.out _).mono ?_; rintro e w' ⟨rfl, rfl⟩)
    | (go_at_call 80; with_reducible refine (H2.out _).mono ?_; rintro e w' ⟨rfl, rfl⟩))
   obtain ⟨wo, rfl⟩ : ∃ wo : World, wo = w' := ⟨_, rfl⟩
   have HX := Lib.hid (Ch.refl wo.drew.heap.size none1 wo.drew)
   go_region_with (first
    | (go_at_call 40; with_reducible refine (HO1.out _).mono ?_; rintro e wq ⟨rfl, hCq⟩; have HX2 := Lib.hid (HX.out.step0 hCq (Nat.le_refl _)); clear hCq HX; have HX := HX2; clear HX2)
    | (go_at_call 40; with_reducible refine (HO3.out _).mono ?_; rintro e wq ⟨rfl, hCq⟩; have HX2 := Lib.hid (HX.out.step0 hCq (Nat.le_refl _)); clear hCq HX; have HX := HX2; clear HX2)
    | (go_at_call 40; with_reducible refine (HO2.out _).mono ?_; rintro e wq ⟨rfl, hCq⟩; have HX2 := Lib.hid (HX.out.step0 hCq (Nat.le_refl _)); clear hCq HX; have HX := HX2; clear HX2))
   all_goals go_wp2_with fail
   all_goals go_ret3
   all_goals exact ⟨rfl, ((Ch.refl wo.heap.size none1 wo).drew).step0 HX.out (Nat.le_refl _)⟩
  ·exact rquo_gen a b y _ _ true false w ha hyl hcan hyv h0 (.inr ⟨rfl, rfl⟩) (fun w => small_yes a 7 w (by omega) (by omega) h1) (fun w => small_no y 7 w (by omega) (by omega) h2)
 ·by_cases h2 : bv y < 256 ^ 7
  ·exact rquo_gen a b y _ _ false true w ha hyl hcan hyv h0 (.inl rfl) (fun w => small_no a 7 w (by omega) (by omega) h1) (fun w => small_yes y 7 w (by omega) (by omega) h2)
  ·exact rquo_gen a b y _ _ false false w ha hyl hcan hyv h0 (.inl rfl) (fun w => small_no a 7 w (by omega) (by omega) h1) (fun w => small_no y 7 w (by omega) (by omega) h2)
end Go.Proofs.YtkeomlpecjjhiaaGreatDoor
namespace Go.Proofs.YtkeomlpecjjhiaaGreatDoor
open Go.RowKit
theorem C_rquo {a b l m : List UInt8} {n k : Nat} (hl : nb n = l) (hm : nb k = m) (ha : a.length ≤ 1000) (hb : b.length ≤ 1000) (h0 : 0 < bv b) (hn : bv a / bv b = n) (hk : bv a % bv b = k) : Ans 84 #[S a, S b] (.tuple #[S l, S m, .bool true]) := fun w =>
 (rquo_any a b w ha hb h0).mono fun _ _ ⟨he, hC⟩ => ⟨by rw [he, hn, hk, hl, hm], hC⟩
end Go.Proofs.YtkeomlpecjjhiaaGreatDoor
namespace Go.Proofs.YtkeomlpecjjhiaaGreatDoor
open Go.RowKit
theorem len_room (K : Nat) : ∃ M, ∀ n, n < M ↔ (nb n).length ≤ K := ⟨256 ^ K, fun n => (nb_len n K).symm⟩
theorem gcd_lt {A B M : Nat} (hA : A < M) (hB : B < M) : Nat.gcd A B < M := by
 rcases Nat.eq_zero_or_pos A with h | h
 ·rw [h, Nat.gcd_zero_left]; exact hB
 ·exact Nat.lt_of_le_of_lt (Nat.gcd_le_left _ h) hA
set_option maxRecDepth 100000 in
set_option maxHeartbeats 1600000 in
theorem rgcd_any (a b : List UInt8) (w : World) (ha : a.length ≤ 1000) (hb : b.length ≤ 1000) :
  Calls Tryz.prog 83 #[S a, S b] w (Yld w (S (nb (Nat.gcd (bv a) (bv b))))) := by
 have h1 : Ans 79 #[S a] (S (nb (bv a))) := C_canon rfl (by omega) rfl
 have h2 : Ans 79 #[S b] (S (nb (bv b))) := C_canon rfl (by omega) rfl
 obtain ⟨M, hM⟩ := len_room 1000
 have hA : bv a < M := (hM _).2 (by rw [nb_bv]; exact Nat.le_trans (trimL_len a) ha)
 have hB : bv b < M := (hM _).2 (by rw [nb_bv]; exact Nat.le_trans (trimL_len b) hb)
 have hlen : ∀ n, n < M → (nb n).length ≤ 1000 := fun n h => (hM n).1 h
 have HLEN := Lib.hid hlen
 have H1 := Lib.hid h1
 have H2 := Lib.hid h2
 have HA := Lib.hid hA
 have HB := Lib.hid hB
 clear h1 h2 hA hB hM hlen
 obtain ⟨A, hA⟩ : ∃ A, bv a = A := ⟨_, rfl⟩
 obtain ⟨B, hB⟩ : ∃ B, bv b = B := ⟨_, rfl⟩
 rw [hA] at H1 HA ⊢
 rw [hB] at H2 HB ⊢
 clear hA hB ha hb
 have HC := Lib.hid (Ch.refl w.heap.size none1 w)
 go_enter Tryz.func83, Tryz.ntmps83
 go_wp2_with (first
  | (go_at_call 79; with_reducible refine (H1.out _).mono ?_; rintro e w' ⟨rfl, hC⟩; have HC2 := Lib.hid (HC.out.trans (hC.mono HC.out.size (fun _ _ q => q))); clear hC HC; have HC := HC2; clear HC2)
  | (go_at_call 79; with_reducible refine (H2.out _).mono ?_; rintro e w' ⟨rfl, hC⟩; have HC2 := Lib.hid (HC.out.trans (hC.mono HC.out.size (fun _ _ q => q))); clear hC HC; have HC := HC2; clear HC2))
 go_loopg [0, 1] (B + 0) (fun gh x y wr => ∃ X Y : Nat, gh = Y + 0 ∧ x = S (nb X) ∧ y = S (nb Y) ∧ X < M ∧ Y < M ∧ Nat.gcd X Y = Nat.gcd A B ∧ Ch w.heap.size none1 w wr)
 case atStart => exact ⟨A, B, rfl, rfl, rfl, HA.out, HB.out, rfl, HC.out⟩
 case round =>
  clear HC HA HB H1 H2
  obtain ⟨X, Y, hgh, rfl, rfl, hX, hY, hg, hC⟩ := hrel
  have HG := Lib.hid hg
  have HC := Lib.hid hC
  have HGH := Lib.hid hgh
  clear hg hC hgh
  rcases Nat.eq_zero_or_pos Y with h0 | h0
  ·subst h0
   have HGG := Lib.hid (show nb X = nb (Nat.gcd A B) by rw [← HG.out, Nat.gcd_zero_right])
   obtain ⟨x, hx⟩ : ∃ x, nb X = x := ⟨_, rfl⟩
   rw [hx] at HGG ⊢
   rw [nb_zero]
   clear hx HG
   go_wp2_with fail
   go_ret
   exact ⟨ret_S HGG.out, HC.out⟩
  ·obtain ⟨x, ex, vx⟩ := has_nb X
   obtain ⟨y, ey, vy⟩ := has_nb Y
   have hlx : x.length ≤ 1000 := by rw [← ex]; exact HLEN.out X hX
   have hly : y.length ≤ 1000 := by rw [← ey]; exact HLEN.out Y hY
   have hy0 : 0 < y.length := by
    rcases Nat.eq_zero_or_pos y.length with h | h
    ·rw [List.eq_nil_of_length_eq_zero h, bv_nil] at vy; omega
    ·exact h
   have hq : Ans 84 #[S x, S y] (.tuple #[S (nb (X / Y)), S (nb (X % Y)), .bool true]) := C_rquo rfl rfl hlx hly (by omega) (by rw [vx, vy]) (by rw [vx, vy])
   have HQ := Lib.hid hq
   have hm := Nat.mod_lt X h0
   have HR := Lib.hid (show X % Y < M by omega)
   have HGN := Lib.hid (show Nat.gcd Y (X % Y) = Nat.gcd A B by rw [Nat.gcd_comm, ← Nat.gcd_rec, Nat.gcd_comm]; exact HG.out)
   have HM := Lib.hid hm
   have HEY := Lib.hid ey
   rw [ex, ey]
   clear ex ey vx vy hq hm hlx hly HG
   obtain ⟨q, hq⟩ : ∃ q, nb (X / Y) = q := ⟨_, rfl⟩
   obtain ⟨R, hR⟩ : ∃ R, X % Y = R := ⟨_, rfl⟩
   rw [hR] at HQ HR HGN HM
   rw [hq] at HQ
   clear hq hR
   go_wp2_with (first
    | (go_at_call 84; with_reducible refine (HQ.out _).mono ?_; rintro e w' ⟨rfl, hC⟩; have HC2 := Lib.hid (HC.out.trans (hC.mono HC.out.size (fun _ _ q => q))); clear hC HC; have HC := HC2; clear HC2))
   go_roundg (R + 0)
   case measure => have := HGH.out; have := HM.out; omega
   case rel => exact ⟨Y, R, rfl, by rw [HEY.out], rfl, hY, HR.out, HGN.out, HC.out⟩
theorem C_gcd {a b l : List UInt8} {n : Nat} (hl : nb n = l) (ha : a.length ≤ 10000) (hb : b.length ≤ 10000) (hn : Nat.gcd (bv a) (bv b) = n) : Ans 152 #[S a, S b] (S l) := fun w =>
 (Gcd_any a b w (lim_k ha) (lim_k hb)).mono fun _ _ ⟨he, hC⟩ => ⟨by rw [he, hn, hl], hC⟩
theorem C_rgcd {a b l : List UInt8} {n : Nat} (hl : nb n = l) (ha : a.length ≤ 1000) (hb : b.length ≤ 1000) (hn : Nat.gcd (bv a) (bv b) = n) : Ans 83 #[S a, S b] (S l) := fun w =>
 (rgcd_any a b w ha hb).mono fun _ _ ⟨he, hC⟩ => ⟨by rw [he, hn, hl], hC⟩
end Go.Proofs.YtkeomlpecjjhiaaGreatDoor
namespace Go.Proofs.YtkeomlpecjjhiaaGreatDoor
open Go.RowKit
theorem dec_lt {n : Nat} (h : n < 10) : Lib.decDigits n = [UInt8.ofNat (48 + n)] := Lib.decDigits_one h
theorem dec_ge {n : Nat} (h : ¬ n < 10) : Lib.decDigits n = Lib.decDigits (n / 10) ++ [UInt8.ofNat (48 + n % 10)] := by
 rw [Lib.decDigits, dif_neg h]
theorem dig_toNat {n : Nat} (h : n < 10) : (UInt8.ofNat (48 + n)).toNat = 48 + n := by
 rw [UInt8.toNat_ofNat']; omega
end Go.Proofs.YtkeomlpecjjhiaaGreatDoor
namespace Go.Proofs.YtkeomlpecjjhiaaGreatDoor
open Go.RowKit
theorem cat1 (b : UInt8) (t : List UInt8) : (ByteArray.mk [b].toArray) ++ (ByteArray.mk t.toArray) = ⟨(b :: t).toArray⟩ := by
 apply ByteArray.ext
 simp [ByteArray.data_append]
theorem conv1 (W : World) (b : UInt8) : (convert 87 9 (.slice (some ⟨W.heap.size, 0, none⟩) 1 1)).run Tryz.prog (W.alloc (.cells #[Y b] 5 (0, 0))) = .ok (S [b]) (W.alloc (.cells #[Y b] 5 (0, 0))) :=
 run_convert_blk _ _ _ 5 Tryz.underlying87 Tryz.underlying5 Tryz.underlying9 _ 0 1 1 [b] 5 [Y b] (Blk.new W #[Y b] _) rfl (fun i hi => by
  obtain rfl : i = 0 := by simp at hi; omega
  rfl)
theorem dec_round (M : Nat) (t : List UInt8) (h : 0 < M) : (if M / 10 = 0 then UInt8.ofNat (48 + M % 10) :: t else Lib.decDigits (M / 10) ++ UInt8.ofNat (48 + M % 10) :: t) = Lib.decDigits M ++ t := by
 by_cases h1 : M < 10
 ·rw [if_pos (by omega), dec_lt h1, Nat.mod_eq_of_lt h1]; rfl
 ·rw [if_neg (by omega), dec_ge h1, List.append_assoc]; rfl
theorem dec_len (k : Nat) : ∀ n, n < 10 ^ (k + 1) → (Lib.decDigits n).length ≤ k + 1 := by
 induction k with
 | zero => intro n h; rw [dec_lt (by simpa using h)]; simp
 | succ k ih =>
  intro n h
  by_cases h1 : n < 10
  ·rw [dec_lt h1]; simp
  ·rw [dec_ge h1, List.length_append]
   have := ih (n / 10) (by rw [Nat.div_lt_iff_lt_mul (by omega)]; rw [Nat.pow_succ] at h; exact h)
   simp only [List.length_cons, List.length_nil]
   omega
theorem dec_bytes (x : List UInt8) : (Lib.decDigits (bv x)).length ≤ 3 * x.length + 1 := by
 apply dec_len
 have h1 := bv_lt x
 have h2 : 256 ^ x.length ≤ 1000 ^ x.length := Nat.pow_le_pow_left (by omega) _
 have h3 : 10 ^ (3 * x.length) = 1000 ^ x.length := by rw [Nat.pow_mul]
 rw [Nat.pow_succ]
 omega
set_option maxRecDepth 100000 in
set_option maxHeartbeats 1600000 in
theorem refText_any (x : List UInt8) (w : World) (hx : x.length ≤ 1000) :
  Calls Tryz.prog 87 #[S x] w (Yld w (S (Lib.decDigits (bv x)))) := by
 have h1 : Ans 79 #[S x] (S (nb (bv x))) := C_canon rfl (by omega) rfl
 have h2 : Ans 40 #[.int .i64 10] (S [10]) := fun w => (refOf_any 10 w (by decide) (by decide)).mono fun _ _ ⟨he, hC⟩ => ⟨by rw [he, nb_is [10] _ (by decide) (by decide)], hC⟩
 have hlen : ∀ M, M ≤ bv x → (nb M).length ≤ 1000 := fun M hM => Nat.le_trans ((nb_len M x.length).2 (Nat.lt_of_le_of_lt hM (bv_lt x))) hx
 have h3 : ∀ M, M ≤ bv x → Ans 84 #[S (nb M), S [10]] (.tuple #[S (nb (M / 10)), S (nb (M % 10)), .bool true]) := fun M hM w =>
  (rquo_any (nb M) [10] w (hlen M hM) (by decide) (by decide)).mono fun _ _ ⟨he, hC⟩ => ⟨by rw [he, bv_nb]; rfl, hC⟩
 have h4 : ∀ M, Ans 86 #[S (nb (M % 10))] (.tuple #[.int .i64 ((M % 10 : Nat) : Int), .bool true]) := fun M w =>
  (refInt_yes (nb (M % 10)) w (Nat.le_trans ((nb_len (M % 10) 1).2 (by omega)) (by decide)) (by rw [bv_nb]; omega)).mono fun _ _ ⟨he, hC⟩ => ⟨by rw [he, bv_nb], ch_same hC⟩
 have H1 := Lib.hid h1
 have H2 := Lib.hid h2
 have H3 := Lib.hid h3
 have H4 := Lib.hid h4
 have hdl : (Lib.decDigits (bv x)).length ≤ 3001 := Nat.le_trans (dec_bytes x) (by omega)
 clear h1 h2 h3 h4 hlen hx
 obtain ⟨A, hA⟩ : ∃ A, bv x = A := ⟨_, rfl⟩
 rw [hA] at H1 H3 hdl ⊢
 clear hA
 have HC := Lib.hid (Ch.refl w.heap.size none1 w)
 go_enter Tryz.func87, Tryz.ntmps87
 go_wp2_with fail
 refine (H1.out _).mono ?_
 rintro e w1 ⟨rfl, hC1⟩
 rcases Nat.eq_zero_or_pos A with h0 | hpos
 ·subst h0
  rw [nb_zero]
  go_wp2_with fail
  go_ret
  exact ⟨by rw [dec_lt (by omega)]; rfl, hC1⟩
 ·have hl0 : 0 < (nb A).length := by
   rcases Nat.eq_zero_or_pos (nb A).length with h | h
   ·have := (nb_len A 0).1 (by omega); simp at this; omega
   ·exact h
  have HC1 := Lib.hid hC1
  clear hC1 HC
  obtain ⟨a, ha⟩ : ∃ a, nb A = a := ⟨_, rfl⟩
  rw [ha] at hl0 ⊢
  have HA := Lib.hid ha
  clear ha
  have hz : ((a.length : Int) == 0) = false := by rw [beq_eq_false_iff_ne]; omega
  go_wp2_with fail
  go_loopg [0, 3] A (fun gh s t wr => ∃ (M : Nat) (u : List UInt8), M ≤ A ∧ gh = M + 0 ∧ s = S (nb M) ∧ t = S u ∧ (if M = 0 then u else Lib.decDigits M ++ u) = Lib.decDigits A ∧ Ch w.heap.size none1 w wr)
  case atStart => exact ⟨A, [], Nat.le_refl _, rfl, by rw [HA.out], rfl, by rw [if_neg (by omega), List.append_nil], HC1.out⟩
  case round =>
   obtain ⟨M, u, hM, hgh, rfl, rfl, hu, hC⟩ := hrel
   have HU := Lib.hid hu
   have HC := Lib.hid hC
   clear hu hC HC1
   rcases Nat.eq_zero_or_pos M with h0 | hMp
   ·subst h0
    rw [nb_zero]
    have hf := HU.out
    rw [if_pos rfl] at hf
    have HF := Lib.hid hf
    clear hf
    go_wp2_with fail
    go_ret
    exact ⟨by rw [← HF.out]; rfl, HC.out⟩
   ·have hl1 : 0 < (nb M).length := by
     rcases Nat.eq_zero_or_pos (nb M).length with h | h
     ·have := (nb_len M 0).1 (by omega); simp at this; omega
     ·exact h
    have g3 := H3.out M hM
    have g4 := H4.out M
    have hr := dec_round M u hMp
    have hmod : M % 10 < 10 := Nat.mod_lt _ (by omega)
    have hbt := dig_toNat hmod
    obtain ⟨b, hb⟩ : ∃ b, UInt8.ofNat (48 + M % 10) = b := ⟨_, rfl⟩
    rw [hb] at hr hbt
    have hu2 := HU.out
    rw [if_neg (by omega)] at hu2
    have hul : u.length ≤ 3001 := by have h := congrArg List.length hu2; rw [List.length_append] at h; omega
    rw [hu2] at hr
    have HR := Lib.hid hr
    obtain ⟨q, hq⟩ : ∃ q, M / 10 = q := ⟨_, rfl⟩
    have hql : q < M := by omega
    rw [hq] at g3 HR
    obtain ⟨d, hdd⟩ : ∃ d, M % 10 = d := ⟨_, rfl⟩
    rw [hdd] at g3 g4 hmod hbt
    have hbv : (48 + (d : Int)) = (b.toNat : Int) := by omega
    obtain ⟨m, hm⟩ : ∃ m, nb M = m := ⟨_, rfl⟩
    rw [hm] at hl1 g3 ⊢
    obtain ⟨c, hc⟩ : ∃ c, nb d = c := ⟨_, rfl⟩
    rw [hc] at g3 g4
    obtain ⟨qs, hqs⟩ : ∃ qs, nb q = qs := ⟨_, rfl⟩
    rw [hqs] at g3
    have hcv := fun W => conv1 W b
    have G3 := Lib.hid g3
    have G4 := Lib.hid g4
    have HQS := Lib.hid hqs
    have hbl : b.toNat ≤ 57 := by omega
    clear g3 g4 hqs hc hm hdd hq hu2 hr hb hbt hmod
    go_wp2_with (first
     | (go_at_call 40; with_reducible refine (H2.out _).mono ?_; rintro e w' ⟨rfl, hC⟩; have HC2 := Lib.hid (HC.out.trans (hC.mono HC.out.size (fun _ _ q => q))); clear hC HC; have HC := HC2; clear HC2)
     | (go_at_call 84; with_reducible refine (G3.out _).mono ?_; rintro e w' ⟨rfl, hC⟩; have HC2 := Lib.hid (HC.out.trans (hC.mono HC.out.size (fun _ _ q => q))); clear hC HC; have HC := HC2; clear HC2)
     | (go_at_call 86; with_reducible refine (G4.out _).mono ?_; rintro e w' ⟨rfl, hC⟩; have HC2 := Lib.hid (HC.out.trans (hC.mono HC.out.size (fun _ _ q => q))); clear hC HC; have HC := HC2; clear HC2))
    go_roundg (q + 0)
    case measure => omega
    case rel => exact ⟨q, b :: u, by omega, rfl, by rw [HQS.out], by rw [cat1], HR.out, (HC.out.alloc HC.out.size _)⟩
end Go.Proofs.YtkeomlpecjjhiaaGreatDoor
namespace Go.Proofs.YtkeomlpecjjhiaaGreatDoor
open Go.RowKit
set_option maxRecDepth 100000 in
set_option maxHeartbeats 800000 in
theorem refCmp_any (a b : List UInt8) (w : World) (ha : a.length ≤ 10000) (hb : b.length ≤ 10000) :
  Calls Tryz.prog 74 #[S a, S b] w fun e w' => e = .returned (.int .i64 (cmpN (bv a) (bv b))) ∧ w' = w := by
 have HC1 := Lib.hid (fun w => canon_any a w (by omega))
 have HC2 := Lib.hid (fun w => canon_any b w (by omega))
 have ha1 := Nat.le_trans (trimL_len a) ha
 have hb1 := Nat.le_trans (trimL_len b) hb
 have hlt := trim_lt_of_len a b
 have hgt := trim_lt_of_len b a
 have hva := bv_trim a
 have hvb := bv_trim b
 obtain ⟨x, hx⟩ : ∃ x, trimL a = x := ⟨_, rfl⟩
 obtain ⟨y, hy⟩ : ∃ y, trimL b = y := ⟨_, rfl⟩
 rw [hx] at HC1 ha1 hlt hgt hva
 rw [hy] at HC2 hb1 hlt hgt hvb
 clear hx hy ha hb
 by_cases he : x.length = y.length
 ·have key := bytesLess_bv x y he
  have key2 := bytesLess_bv y x he.symm
  have inj := bv_inj x y he
  rw [hva, hvb] at key key2 inj
  have he' : (((x.length : Nat) : Int) != (y.length : Nat)) = false := by simp [he]
  have K := Lib.hid key
  have K2 := Lib.hid key2
  have J := Lib.hid inj
  clear key key2 inj he hlt hgt hva hvb
  go_enter Tryz.func74, Tryz.ntmps74
  go_wp2_with (first
   | (go_at_call 79; with_reducible refine (HC1.out _).mono ?_; rintro e w' ⟨rfl, rfl⟩)
   | (go_at_call 79; with_reducible refine (HC2.out _).mono ?_; rintro e w' ⟨rfl, rfl⟩))
  ·have h1 : Op.bytesLess x y = true := by assumption
   go_ret
   exact ⟨ret_int (cmpN_lt (K.out.1 h1)).symm, rfl⟩
  ·have h1 : ¬ bv a < bv b := fun q => by have := K.out.2 q; simp_all
   have h2 : ¬ x = y := by intro e; subst e; simp_all
   have h3 : ¬ bv a = bv b := fun q => h2 (J.out q)
   go_ret
   exact ⟨ret_int (cmpN_gt (by omega)).symm, rfl⟩
  ·have h2 : x = y := by
    have : (!x == y) = false := by assumption
    simpa using this
   have h4 : ¬ bv a < bv b := fun q => by have := K.out.2 q; simp_all
   have h5 : ¬ bv b < bv a := fun q => by
    have h6 := K2.out.2 q
    have h7 : Op.bytesLess x y = false := by assumption
    rw [h2] at h6 h7
    rw [h6] at h7
    cases h7
   go_ret
   exact ⟨ret_int (cmpN_eq (by omega)).symm, rfl⟩
 ·have he' : (((x.length : Nat) : Int) != (y.length : Nat)) = true := by simp; omega
  rcases Nat.lt_or_gt_of_ne he with h | h
  ·have hc := cmpN_lt (hlt h)
   have hl : ((x.length : Nat) : Int) < (y.length : Nat) := by omega
   have HC := Lib.hid hc
   clear hlt hgt hva hvb hc he
   go_enter Tryz.func74, Tryz.ntmps74
   go_wp2_with (first
    | (go_at_call 79; with_reducible refine (HC1.out _).mono ?_; rintro e w' ⟨rfl, rfl⟩)
    | (go_at_call 79; with_reducible refine (HC2.out _).mono ?_; rintro e w' ⟨rfl, rfl⟩))
   go_ret
   exact ⟨ret_int HC.out.symm, rfl⟩
  ·have hc := cmpN_gt (hgt h)
   have hl : ¬ ((x.length : Nat) : Int) < (y.length : Nat) := by omega
   have HC := Lib.hid hc
   clear hlt hgt hva hvb hc he
   go_enter Tryz.func74, Tryz.ntmps74
   go_wp2_with (first
    | (go_at_call 79; with_reducible refine (HC1.out _).mono ?_; rintro e w' ⟨rfl, rfl⟩)
    | (go_at_call 79; with_reducible refine (HC2.out _).mono ?_; rintro e w' ⟨rfl, rfl⟩))
   go_ret
   exact ⟨ret_int HC.out.symm, rfl⟩
set_option maxRecDepth 100000 in
set_option maxHeartbeats 800000 in
theorem refSub_yes (a b : List UInt8) (w : World) (ha : a.length ≤ 10000) (hb : b.length ≤ 10000) (h : bv b ≤ bv a) :
  Calls Tryz.prog 75 #[S a, S b] w (Yld w (.tuple #[S (nb (bv a - bv b)), .bool true])) := by
 have HK := Lib.hid (fun w => refCmp_any a b w ha hb)
 obtain ⟨c, hc⟩ : ∃ c, cmpN (bv a) (bv b) = c := ⟨_, rfl⟩
 have hc0 : ¬ c < 0 := by
  rw [← hc]
  rcases Nat.lt_or_eq_of_le h with q | q
  ·rw [cmpN_gt q]; omega
  ·rw [cmpN_eq q.symm]; omega
 rw [hc] at HK
 have hla : (es (bv a)).length ≤ 10000 := by have h := es_len_bytes a; have h' := trimL_len a; omega
 have hls := es_len_le (Nat.sub_le (bv a) (bv b))
 have HLA := Lib.hid hla
 have HLS := Lib.hid (Nat.le_trans hls (Nat.le_trans hla (show 10000 ≤ 33333333333 by omega)))
 have HOF1 := Lib.hid (fun w => rof_rd a w (by omega))
 have HOF2 := Lib.hid (fun w => rof_rd b w (by omega))
 have HH := Lib.hid h
 clear hc ha hb h hla hls
 obtain ⟨wo, rfl⟩ : ∃ wo : World, wo = w := ⟨_, rfl⟩
 go_enter Tryz.func75, Tryz.ntmps75
 go_wp2_with (first
  | (go_at_call 74; with_reducible refine (HK.out _).mono ?_; rintro e w' ⟨rfl, rfl⟩))
 refine (HOF1.out _).mono ?_
 rintro e w1 ⟨v1, rfl, hr1, hC1⟩
 have HR1 := Lib.hid hr1
 have HC1 := Lib.hid hC1
 clear hr1 hC1
 go_wp2_with fail
 refine (HOF2.out _).mono ?_
 rintro e w2 ⟨v2, rfl, hr2, hC2⟩
 have HR2 := Lib.hid hr2
 have HR1b := Lib.hid (HR1.out.on hC2)
 have HC2 := Lib.hid (HC1.out.step0 hC2 (Nat.le_refl _))
 clear hr2 hC2 HR1
 go_wp2_with fail
 refine (rminus_any v1 v2 (bv a) (bv b) _ HR1b.out HR2.out HH.out HLA.out).mono ?_
 rintro e w3 ⟨v3, rfl, hr3, hC3⟩
 have HR3 := Lib.hid hr3
 have HC3 := Lib.hid (HC2.out.step0 hC3 (Nat.le_refl _))
 clear hr3 hC3
 go_wp2_with fail
 refine (rnumber_rd v3 (bv a - bv b) _ HR3.out HLS.out).mono ?_
 rintro e w4 ⟨rfl, hC4⟩
 have HC4 := Lib.hid (HC3.out.step0 hC4 (Nat.le_refl _))
 clear hC4
 go_wp2_with fail
 go_ret2
 exact ⟨rfl, HC4.out⟩
end Go.Proofs.YtkeomlpecjjhiaaGreatDoor
namespace Go.Proofs.YtkeomlpecjjhiaaGreatDoor
open Go.RowKit
set_option maxRecDepth 100000 in
set_option maxHeartbeats 3200000 in
theorem radd_gen (a b : List UInt8) (x y : Int) (p q : Bool) (w : World) (ha : a.length ≤ 1000) (hb : b.length ≤ 1000) (hpq : p = false ∨ (p = true ∧ q = false))
  (h1 : ∀ w, Calls Tryz.prog 80 #[S a, .int .i64 7] w fun e w' => e = .returned (.tuple #[.int .i64 x, .bool p]) ∧ w' = w)
  (h2 : ∀ w, Calls Tryz.prog 80 #[S b, .int .i64 7] w fun e w' => e = .returned (.tuple #[.int .i64 y, .bool q]) ∧ w' = w) :
  Calls Tryz.prog 53 #[S a, S b] w (Yld w (S (nb (bv a + bv b)))) := by
 obtain ⟨i0, hi, hz0, hz1, hz2⟩ := info_parts Tryz.info3
 have H1 := Lib.hid h1
 have H2 := Lib.hid h2
 have HOF1 := Lib.hid (fun w => rof_rd a w (by omega))
 have HOF2 := Lib.hid (fun w => rof_rd b w (by omega))
 have hla : (es (bv a)).length ≤ 1000 := by have h := es_len_bytes a; have h' := trimL_len a; omega
 have hlb : (es (bv b)).length ≤ 1000 := by have h := es_len_bytes b; have h' := trimL_len b; omega
 have hua := ev_es (bv a)
 have hub := ev_es (bv b)
 obtain ⟨A, hA⟩ : ∃ A, bv a = A := ⟨_, rfl⟩
 obtain ⟨B, hB⟩ : ∃ B, bv b = B := ⟨_, rfl⟩
 rw [hA] at hla hua HOF1 ⊢
 rw [hB] at hlb hub HOF2 ⊢
 obtain ⟨us, hus⟩ : ∃ us, es A = us := ⟨_, rfl⟩
 obtain ⟨vs, hvs⟩ : ∃ vs, es B = vs := ⟨_, rfl⟩
 have HUS := Lib.hid hus
 have HVS := Lib.hid hvs
 rw [hus] at hla hua
 rw [hvs] at hlb hub
 have HUA := Lib.hid hua
 have HUB := Lib.hid hub
 clear h1 h2 hua hub hA hB hus hvs ha hb
 obtain ⟨n, hn⟩ : ∃ n, us.length = n := ⟨_, rfl⟩
 obtain ⟨m, hm⟩ : ∃ m, vs.length = m := ⟨_, rfl⟩
 rw [hn] at hla
 rw [hm] at hlb
 have HN := Lib.hid hn
 have HM := Lib.hid hm
 clear hn hm
 obtain ⟨wo, rfl⟩ : ∃ wo : World, wo = w := ⟨_, rfl⟩
 rcases hpq with rfl | ⟨rfl, rfl⟩
 all_goals
  go_enter Tryz.func53, Tryz.ntmps53
  go_wp2_with (first
   | (go_at_call 80; with_reducible refine (H1.out _).mono ?_; rintro e w' ⟨rfl, rfl⟩)
   | (go_at_call 80; with_reducible refine (H2.out _).mono ?_; rintro e w' ⟨rfl, rfl⟩))
  refine (HOF1.out _).mono ?_
  rintro e w1 ⟨v1, rfl, hr1, hC1⟩
  obtain ⟨p1, n1, c1, rfl, hnc1, hcm1, _, hd1⟩ := hr1
  rw [HUS.out] at hd1
  obtain rfl : n1 = n := hd1.len.symm.trans HN.out
  have HD1 := Lib.hid hd1
  have HC1 := Lib.hid hC1
  clear hd1 hC1
  go_wp2_with fail
  refine (HOF2.out _).mono ?_
  rintro e w2 ⟨v2, rfl, hr2, hC2⟩
  obtain ⟨p2, n2, c2, rfl, hnc2, hcm2, _, hd2⟩ := hr2
  rw [HVS.out] at hd2
  obtain rfl : n2 = m := hd2.len.symm.trans HM.out
  have HD2 := Lib.hid hd2
  have HC2 := Lib.hid (HC1.out.step0 hC2 (Nat.le_refl _))
  have HD1b := Lib.hid (HD1.out.on hC2)
  clear hd2 hC2 HD1 HC1
  go_wp2_with fail
  have hlt1 := HD1b.out.lt_size
  have hlt2 := HD2.out.lt_size
  have hd13 := HD1b.out
  have hd23 := HD2.out
  obtain ⟨Bq, hBq⟩ : ∃ B, w2.heap.size = B := ⟨_, rfl⟩
  rw [hBq] at hlt1 hlt2
  have HDA1 := Lib.hid (fun (wr : World) (h : Ch Bq none1 w2 wr) => Di.ch h hd13 hlt1)
  have HDA2 := Lib.hid (fun (wr : World) (h : Ch Bq none1 w2 wr) => Di.ch h hd23 hlt2)
  have HCW := Lib.hid HC2.out
  clear hlt1 hlt2 hd13 hd23 HC2 HD1b HD2 HOF1 HOF2 H1 H2
  obtain ⟨wo2, hwo2⟩ : ∃ wo2 : World, wo2 = w2 := ⟨_, rfl⟩
  rw [← hwo2] at hBq HDA1 HDA2 HCW ⊢
  clear hwo2
  obtain ⟨N, hN⟩ : ∃ N, N = max n1 n2 + 1 := ⟨_, rfl⟩
  have hN1 : n1 < N := by omega
  have hN2 : n2 < N := by omega
  have hN3 : N ≤ 1001 := by omega
  have hN4 : ∀ k, k + 1 = N → n1 ≤ k ∧ n2 ≤ k := by omega
  have HN4 := Lib.hid hN4
  clear hN hN4
  go_loopg [11, 12, 13] N (fun gh o cc i wr => ∃ (k c : Nat) (zs : List Nat), k ≤ N ∧ gh = N - k ∧ i = I k ∧ cc = I c ∧ c < 2 ∧ zs.length = k ∧ Eok zs ∧ Own wr Bq 3 o (zs.map I) ∧
   ev zs + E24 ^ k * c = ev (us.take k) + ev (vs.take k) ∧ (k = N → c = 0) ∧ Ch Bq none1 wo2 wr)
  case atStart => exact ⟨0, 0, [], Nat.zero_le _, rfl, rfl, rfl, by omega, rfl, Eok.nil, Own.nil _ _ _, by simp [ev], fun _ => rfl, Ch.refl _ _ _⟩
  case round =>
   obtain ⟨k, c, zs, hk, rfl, rfl, rfl, hc, hzl, hz, hown, hzv, hend0, hC⟩ := hrel
   have HZ := Lib.hid hzl; clear hzl
   have HZK := Lib.hid hz; clear hz
   have HO := Lib.hid hown; clear hown
   have HZV := Lib.hid hzv; clear hzv
   have HCH := Lib.hid hC; clear hC
   have HSZ := Lib.hid (show Bq ≤ wr.heap.size by have := HCH.out.size; omega)
   have hd1 := HDA1.out _ HCH.out
   have hd2 := HDA2.out _ HCH.out
   have htx := ev_getD us k
   have hty := ev_getD vs k
   have hxb := getD_lt us hd1.lt k
   have hyb := getD_lt vs hd2.lt k
   have hx0 : ∀ h : k < n1, us.getD k 0 = us[k]'(by rw [HN.out]; exact h) := fun h => by rw [List.getD_eq_getElem?_getD, List.getElem?_eq_getElem (by rw [HN.out]; exact h)]; rfl
   have hx1 : ¬ k < n1 → us.getD k 0 = 0 := fun h => by rw [List.getD_eq_getElem?_getD, List.getElem?_eq_none (by rw [HN.out]; omega)]; rfl
   have hy0 : ∀ h : k < n2, vs.getD k 0 = vs[k]'(by rw [HM.out]; exact h) := fun h => by rw [List.getD_eq_getElem?_getD, List.getElem?_eq_getElem (by rw [HM.out]; exact h)]; rfl
   have hy1 : ¬ k < n2 → vs.getD k 0 = 0 := fun h => by rw [List.getD_eq_getElem?_getD, List.getElem?_eq_none (by rw [HM.out]; omega)]; rfl
   obtain ⟨x, hx⟩ : ∃ x, us.getD k 0 = x := ⟨_, rfl⟩
   obtain ⟨y, hy⟩ : ∃ y, vs.getD k 0 = y := ⟨_, rfl⟩
   rw [hx] at htx hxb hx0 hx1
   rw [hy] at hty hyb hy0 hy1
   have hput := add_put zs k c x y _ _ HZ.out HZV.out
   rw [← htx, ← hty] at hput
   unfold E24 at hxb hyb
   have hN4 := HN4.out k
   clear htx hty hx hy
   by_cases hkn : k < n1
   ·have hkN : k + 1 ≤ N := by omega
    by_cases hkm : k < n2
    ·clear hend0
     obtain ⟨gx, rfl⟩ := hd1.addr (by omega)
     have hgx := hd1.get0 k hkn
     rw [← hx0 hkn] at hgx
     obtain ⟨gy, rfl⟩ := hd2.addr (by omega)
     have hgy := hd2.get0 k hkm
     rw [← hy0 hkm] at hgy
     have hr := rem24 (c + x + y)
     have hq := quo24 (c + x + y)
     have hdiv : (c + x + y) / E24 < 2 := by rw [E24_eq, Nat.div_lt_iff_lt_mul (by omega)]; omega
     have hmod : (c + x + y) % E24 < E24 := Nat.mod_lt _ E24_pos
     have hend : k + 1 = N → (c + x + y) / E24 = 0 := fun h => by rw [E24_eq]; omega
     obtain ⟨rr, hrr⟩ : ∃ rr, (c + x + y) % E24 = rr := ⟨_, rfl⟩
     obtain ⟨qq, hqq⟩ : ∃ qq, (c + x + y) / E24 = qq := ⟨_, rfl⟩
     rw [hrr] at hput hr hmod
     rw [hqq] at hput hq hdiv hend
     rw [Int.natCast_add, Int.natCast_add] at hr hq
     have HP := Lib.hid hput
     have HMD := Lib.hid hmod
     have HDV := Lib.hid hdiv
     have HEND := Lib.hid hend
     clear hput hmod hrr hqq hend hd1 hd2 hx0 hx1 hy0 hy1
     go_wp2_with (at_builtin; refine wpList_append_up _ rfl _ _ 54 rfl Bq 3 i0 .i64 0 8 Tryz.underlying54 hi hz0 hz1 hz2 (by decide) _ _ rfl (HO.out.ch (Ch.alloc0 _)) ⟨wr.heap.size, 0, none⟩ 1 1 [_] rfl rfl (new_cell _ _ _) (one_one _ _) (by rw [List.length_map, HZ.out]; omega) (size_alloc_le _ HSZ.out) ?_; intro v' w4 hown' hC1)
     go_roundg (N - (k + 1))
     case measure => omega
     case rel =>
      refine ⟨k + 1, qq, zs ++ [rr], by omega, rfl, by go_num, rfl, HDV.out, by rw [List.length_append, HZ.out]; rfl, HZK.out.append (Eok.cons HMD.out Eok.nil), ?_, HP.out, HEND.out, (HCH.out.alloc HSZ.out _).trans hC1⟩
      rw [List.map_append]; exact hown'
    ·clear hend0
     obtain ⟨gx, rfl⟩ := hd1.addr (by omega)
     have hgx := hd1.get0 k hkn
     rw [← hx0 hkn] at hgx
     obtain rfl := hy1 hkm
     simp only [Nat.add_zero] at hput
     have hr := rem24 (c + x)
     have hq := quo24 (c + x)
     have hdiv : (c + x) / E24 < 2 := by rw [E24_eq, Nat.div_lt_iff_lt_mul (by omega)]; omega
     have hmod : (c + x) % E24 < E24 := Nat.mod_lt _ E24_pos
     have hend : k + 1 = N → (c + x) / E24 = 0 := fun h => by rw [E24_eq]; omega
     obtain ⟨rr, hrr⟩ : ∃ rr, (c + x) % E24 = rr := ⟨_, rfl⟩
     obtain ⟨qq, hqq⟩ : ∃ qq, (c + x) / E24 = qq := ⟨_, rfl⟩
     rw [hrr] at hput hr hmod
     rw [hqq] at hput hq hdiv hend
     rw [Int.natCast_add] at hr hq
     have HP := Lib.hid hput
     have HMD := Lib.hid hmod
     have HDV := Lib.hid hdiv
     have HEND := Lib.hid hend
     clear hput hmod hrr hqq hend hd1 hd2 hx0 hx1 hy0 hy1
     go_wp2_with (at_builtin; refine wpList_append_up _ rfl _ _ 54 rfl Bq 3 i0 .i64 0 8 Tryz.underlying54 hi hz0 hz1 hz2 (by decide) _ _ rfl (HO.out.ch (Ch.alloc0 _)) ⟨wr.heap.size, 0, none⟩ 1 1 [_] rfl rfl (new_cell _ _ _) (one_one _ _) (by rw [List.length_map, HZ.out]; omega) (size_alloc_le _ HSZ.out) ?_; intro v' w4 hown' hC1)
     go_roundg (N - (k + 1))
     case measure => omega
     case rel =>
      refine ⟨k + 1, qq, zs ++ [rr], by omega, rfl, by go_num, rfl, HDV.out, by rw [List.length_append, HZ.out]; rfl, HZK.out.append (Eok.cons HMD.out Eok.nil), ?_, HP.out, HEND.out, (HCH.out.alloc HSZ.out _).trans hC1⟩
      rw [List.map_append]; exact hown'
   ·by_cases hkm : k < n2
    ·have hkN : k + 1 ≤ N := by omega
     clear hend0
     obtain rfl := hx1 hkn
     obtain ⟨gy, rfl⟩ := hd2.addr (by omega)
     have hgy := hd2.get0 k hkm
     rw [← hy0 hkm] at hgy
     simp only [Nat.add_zero] at hput
     have hr := rem24 (c + y)
     have hq := quo24 (c + y)
     have hdiv : (c + y) / E24 < 2 := by rw [E24_eq, Nat.div_lt_iff_lt_mul (by omega)]; omega
     have hmod : (c + y) % E24 < E24 := Nat.mod_lt _ E24_pos
     have hend : k + 1 = N → (c + y) / E24 = 0 := fun h => by rw [E24_eq]; omega
     obtain ⟨rr, hrr⟩ : ∃ rr, (c + y) % E24 = rr := ⟨_, rfl⟩
     obtain ⟨qq, hqq⟩ : ∃ qq, (c + y) / E24 = qq := ⟨_, rfl⟩
     rw [hrr] at hput hr hmod
     rw [hqq] at hput hq hdiv hend
     rw [Int.natCast_add] at hr hq
     have HP := Lib.hid hput
     have HMD := Lib.hid hmod
     have HDV := Lib.hid hdiv
     have HEND := Lib.hid hend
     clear hput hmod hrr hqq hend hd1 hd2 hx0 hx1 hy0 hy1
     go_wp2_with (at_builtin; refine wpList_append_up _ rfl _ _ 54 rfl Bq 3 i0 .i64 0 8 Tryz.underlying54 hi hz0 hz1 hz2 (by decide) _ _ rfl (HO.out.ch (Ch.alloc0 _)) ⟨wr.heap.size, 0, none⟩ 1 1 [_] rfl rfl (new_cell _ _ _) (one_one _ _) (by rw [List.length_map, HZ.out]; omega) (size_alloc_le _ HSZ.out) ?_; intro v' w4 hown' hC1)
     go_roundg (N - (k + 1))
     case measure => omega
     case rel =>
      refine ⟨k + 1, qq, zs ++ [rr], by omega, rfl, by go_num, rfl, HDV.out, by rw [List.length_append, HZ.out]; rfl, HZK.out.append (Eok.cons HMD.out Eok.nil), ?_, HP.out, HEND.out, (HCH.out.alloc HSZ.out _).trans hC1⟩
      rw [List.map_append]; exact hown'
    ·by_cases hc0 : 0 < c
     ·have hkN : k + 1 ≤ N := by
       rcases Nat.lt_or_eq_of_le hk with q | q
       ·omega
       ·have := hend0 q; omega
      clear hend0
      obtain rfl := hx1 hkn
      obtain rfl := hy1 hkm
      simp only [Nat.add_zero] at hput
      have hr := rem24 (c)
      have hq := quo24 (c)
      have hdiv : (c) / E24 < 2 := by rw [E24_eq, Nat.div_lt_iff_lt_mul (by omega)]; omega
      have hmod : (c) % E24 < E24 := Nat.mod_lt _ E24_pos
      have hend : k + 1 = N → (c) / E24 = 0 := fun h => by rw [E24_eq]; omega
      obtain ⟨rr, hrr⟩ : ∃ rr, (c) % E24 = rr := ⟨_, rfl⟩
      obtain ⟨qq, hqq⟩ : ∃ qq, (c) / E24 = qq := ⟨_, rfl⟩
      rw [hrr] at hput hr hmod
      rw [hqq] at hput hq hdiv hend
      have HP := Lib.hid hput
      have HMD := Lib.hid hmod
      have HDV := Lib.hid hdiv
      have HEND := Lib.hid hend
      clear hput hmod hrr hqq hend hd1 hd2 hx0 hx1 hy0 hy1
      go_wp2_with (at_builtin; refine wpList_append_up _ rfl _ _ 54 rfl Bq 3 i0 .i64 0 8 Tryz.underlying54 hi hz0 hz1 hz2 (by decide) _ _ rfl (HO.out.ch (Ch.alloc0 _)) ⟨wr.heap.size, 0, none⟩ 1 1 [_] rfl rfl (new_cell _ _ _) (one_one _ _) (by rw [List.length_map, HZ.out]; omega) (size_alloc_le _ HSZ.out) ?_; intro v' w4 hown' hC1)
      go_roundg (N - (k + 1))
      case measure => omega
      case rel =>
       refine ⟨k + 1, qq, zs ++ [rr], by omega, rfl, by go_num, rfl, HDV.out, by rw [List.length_append, HZ.out]; rfl, HZK.out.append (Eok.cons HMD.out Eok.nil), ?_, HP.out, HEND.out, (HCH.out.alloc HSZ.out _).trans hC1⟩
       rw [List.map_append]; exact hown'
     ·have hc1 : c = 0 := by omega
      subst hc1
      have hev : ev zs = A + B := by
       have h := HZV.out
       rw [List.take_of_length_le (by rw [HN.out]; omega), List.take_of_length_le (by rw [HM.out]; omega), HUA.out, HUB.out] at h
       simpa using h
      obtain ⟨p', cap', rfl, q1, q2, q0, qd, _⟩ := Own.di HO.out HZK.out
      have hzk : zs.length ≤ 33333333333 := by rw [HZ.out]; omega
      have HNUM := Lib.hid (rnumber_any p' _ cap' zs _ qd hzk)
      rw [hev] at HNUM
      clear hev qd hend0 hput hd1 hd2 hx0 hx1 hy0 hy1
      go_wp2_with fail
      refine HNUM.out.mono ?_
      rintro e w9 ⟨rfl, hC9⟩
      go_wp2_with fail
      go_ret
      exact ⟨rfl, (HCW.out.trans (HCH.out.mono (by have := HCW.out.size; omega) (fun _ _ q => q))).step0 hC9 (Nat.le_refl _)⟩
theorem radd_any (a b : List UInt8) (w : World) (ha : a.length ≤ 1000) (hb : b.length ≤ 1000) :
  Calls Tryz.prog 53 #[S a, S b] w (Yld w (S (nb (bv a + bv b)))) := by
 by_cases h1 : bv a < 256 ^ 7
 ·by_cases h2 : bv b < 256 ^ 7
  ·have s1 : ∀ w, Calls Tryz.prog 80 #[S a, .int .i64 7] w fun e w' => e = .returned (.tuple #[.int .i64 (bv a : Nat), .bool true]) ∧ w' = w := fun w => small_yes a 7 w (by omega) (by omega) h1
   have s2 : ∀ w, Calls Tryz.prog 80 #[S b, .int .i64 7] w fun e w' => e = .returned (.tuple #[.int .i64 (bv b : Nat), .bool true]) ∧ w' = w := fun w => small_yes b 7 w (by omega) (by omega) h2
   have H1 := Lib.hid s1
   have H2 := Lib.hid s2
   clear s1 s2
   obtain ⟨A, hA⟩ : ∃ A, bv a = A := ⟨_, rfl⟩
   obtain ⟨B, hB⟩ : ∃ B, bv b = B := ⟨_, rfl⟩
   rw [hA] at h1 H1 ⊢
   rw [hB] at h2 H2 ⊢
   have h1' : A < 72057594037927936 := h1
   have h2' : B < 72057594037927936 := h2
   have HOF := Lib.hid (show ∀ w, Calls Tryz.prog 40 #[.int .i64 ((A : Int) + (B : Int))] w (Yld w (S (nb (A + B)))) from fun w => refOf_any ((A : Int) + (B : Int)) w (by omega) (by omega))
   clear h1 h2 hA hB ha hb
   go_enter Tryz.func53, Tryz.ntmps53
   go_wp2_with (first
    | (go_at_call 80; with_reducible refine (H1.out _).mono ?_; rintro e w' ⟨rfl, rfl⟩)
    | (go_at_call 80; with_reducible refine (H2.out _).mono ?_; rintro e w' ⟨rfl, rfl⟩)
    | (go_at_call 40; with_reducible refine (HOF.out _).mono ?_; rintro e w' ⟨rfl, hC⟩))
   go_ret
   exact ⟨rfl, hC⟩
  ·exact radd_gen a b _ _ true false w ha hb (.inr ⟨rfl, rfl⟩) (fun w => small_yes a 7 w (by omega) (by omega) h1) (fun w => small_no b 7 w (by omega) (by omega) h2)
 ·by_cases h2 : bv b < 256 ^ 7
  ·exact radd_gen a b _ _ false true w ha hb (.inl rfl) (fun w => small_no a 7 w (by omega) (by omega) h1) (fun w => small_yes b 7 w (by omega) (by omega) h2)
  ·exact radd_gen a b _ _ false false w ha hb (.inl rfl) (fun w => small_no a 7 w (by omega) (by omega) h1) (fun w => small_no b 7 w (by omega) (by omega) h2)
theorem C_radd {a b l : List UInt8} {n : Nat} (hl : nb n = l) (ha : a.length ≤ 1000) (hb : b.length ≤ 1000) (hn : bv a + bv b = n) : Ans 53 #[S a, S b] (S l) := fun w =>
 (radd_any a b w ha hb).mono fun _ _ ⟨he, hC⟩ => ⟨by rw [he, hn, hl], hC⟩
theorem C_rcmp {a b : List UInt8} {k : Int} (ha : a.length ≤ 10000) (hb : b.length ≤ 10000) (hn : cmpN (bv a) (bv b) = k) : Ans 74 #[S a, S b] (.int .i64 k) := fun w =>
 (refCmp_any a b w ha hb).mono fun _ _ ⟨he, hC⟩ => ⟨by rw [he, hn], ch_same hC⟩
end Go.Proofs.YtkeomlpecjjhiaaGreatDoor
namespace Go.Proofs.YtkeomlpecjjhiaaGreatDoor
open Go.RowKit
open Go.Sort Go.Lib in
set_option maxHeartbeats 3200000 in
set_option maxRecDepth 100000 in
theorem FormatUint_in (u : Nat) (hu : 100 ≤ u) (hu64 : u < 18446744073709551616) (w : World) (htab : Lib.TabIs Tryz.prog w "internal/strconv.uint64pow10" .u64 Lib.pow10Tab) :
  Calls Tryz.prog 210 #[.int .u64 u, .int .i64 10] w (Yld w (S (Lib.decDigits u))) := by
 have hu1 : 1 ≤ u := by omega
 have hnd20 : Lib.nDigits u ≤ 20 := by have := Lib.numDigits_eq u hu1 hu64; split at this <;> omega
 have hal : Tryz.prog.arrayLen 210 = 24 := by kernel_rfl
 have hsl : ∀ W, (Instr.sliceAt 210 (.pointer (some ⟨w.heap.size, 0, none⟩)) none (some (.int .i64 (Lib.nDigits u : Int))) none).run Tryz.prog W = .ok (.slice (some ⟨w.heap.size, 0, none⟩) (Lib.nDigits u) 24) W := fun W => by
  rw [run_sliceAt_array_h W 210 ⟨w.heap.size, 0, none⟩ (by kernel_rfl) .i64 (Lib.nDigits u : Int) (by omega) (by rw [hal]; omega)]
  go_simp
 have hH0 := Lib.holds_zero0 w 210 (Lib.nDigits u) (by omega)
 have hfmt := Tryz.internal_strconv_formatBase10 w.heap.size 0 24 u (Array.replicate (Lib.nDigits u) 0) (w.alloc (.cells Lib.zeros24 210)) hH0 (by rw [Array.size_replicate]; exact Lib.lt_pow_nDigits u) hu64 (by rw [Array.size_replicate]; omega)
 rw [Array.size_replicate] at hfmt
 have HH0 := Lib.hid hH0
 have HFMT := Lib.hid hfmt
 have HTAB := Lib.hid htab
 clear hH0 hal hfmt htab
 go_enter Tryz.func210, Tryz.ntmps210
 go_wp2_with (first
  | (go_at_call 224; refine (Tryz.internal_strconv_numDigits u hu1 hu64 _ (Lib.tabIs_alloc HTAB.out _)).mono ?_; rintro e w' ⟨rfl, rfl⟩))
 refine HFMT.out.mono ?_
 rintro e w' ⟨rfl, k, v', dk, rfl, hF⟩
 have hcv : (convert 87 9 (.slice (some ⟨w.heap.size, 0, none⟩) (Lib.nDigits u) 24)).run Tryz.prog ((putRow (fun (b : UInt8) => Value.int .u8 (b.toNat : Int)) (w.alloc (.cells Lib.zeros24 210)) w.heap.size 0 dk).drewN k) = .ok (.string ⟨(Lib.decDigits u).toArray⟩) ((putRow (fun (b : UInt8) => Value.int .u8 (b.toNat : Int)) (w.alloc (.cells Lib.zeros24 210)) w.heap.size 0 dk).drewN k) := by
  have h := run_convert_bytes_back (P := Tryz.prog) ((putRow (fun (b : UInt8) => Value.int .u8 (b.toNat : Int)) (w.alloc (.cells Lib.zeros24 210)) w.heap.size 0 dk).drewN k) 87 9 5 ⟨w.heap.size, 0, none⟩ 24 (Lib.decDigits u) Tryz.underlying87 Tryz.underlying5 Tryz.underlying9 (fun j hj => by
   rw [Lib.row_is_numeral hF j hj, Lib.add_plain, World.cell?_drewN]
   exact cell?_putRow (fun (b : UInt8) => Value.int .u8 (b.toNat : Int)) _ w.heap.size 0 _ dk HH0.out (by rw [hF.size, Array.size_replicate]) j (by rw [hF.size]; rw [Lib.decDigits_length] at hj; exact hj))
  rw [Lib.decDigits_length] at h
  exact h
 obtain ⟨os, eo⟩ := Lib.fin_at w (.cells Lib.zeros24 210) dk k 0
 have hnx2 : Below w.heap.size w ((putRow (fun (b : UInt8) => Value.int .u8 (b.toNat : Int)) (w.alloc (.cells Lib.zeros24 210)) w.heap.size 0 dk).drewN k) := by rw [eo]; exact Lib.below_grow w.heap.size w (Nat.le_refl _) k os
 generalize (putRow (fun (b : UInt8) => Value.int .u8 (b.toNat : Int)) (w.alloc (.cells Lib.zeros24 210)) w.heap.size 0 dk).drewN k = W2 at hcv hnx2 ⊢
 have HNX := Lib.hid hnx2
 clear hnx2 eo hF
 go_wp2_with fail
 go_ret
 exact ⟨rfl, below_ch HNX.out⟩
theorem FormatUint_big (u : Nat) (hu : 100 ≤ u) (hu64 : u < 18446744073709551616) (w : World) (ht : pow10Is w) :
  Calls Tryz.prog 186 #[.int .u64 u, .int .i64 10] w (Yld w (S (Lib.decDigits u))) := by
 have HC := Lib.hid (FormatUint_in u hu hu64 w ht)
 go_enter Tryz.func186, Tryz.ntmps186
 go_wp2_with fail
 refine HC.out.mono ?_
 rintro e w1 ⟨rfl, hC⟩
 go_wp2_with fail
 go_ret
 exact ⟨rfl, hC⟩
end Go.Proofs.YtkeomlpecjjhiaaGreatDoor
namespace Go.Proofs.YtkeomlpecjjhiaaGreatDoor
open Go.RowKit
def pad : Nat → Nat → List UInt8
 | 0, _ => []
 | k + 1, g => pad k (g / 10) ++ [UInt8.ofNat (48 + g % 10)]
theorem dec_pad_k (k : Nat) : ∀ n g, 0 < n → g < 10 ^ k → Lib.decDigits (n * 10 ^ k + g) = Lib.decDigits n ++ pad k g := by
 induction k with
 | zero =>
  intro n g _ hg
  have : g = 0 := by simpa using hg
  subst this
  simp [pad]
 | succ k ih =>
  intro n g hn hg
  rw [Nat.pow_succ] at hg
  have hp : 0 < n * 10 ^ k := Nat.mul_pos hn (Nat.pow_pos (by omega))
  have e : n * 10 ^ (k + 1) = n * 10 ^ k * 10 := by rw [Nat.pow_succ, Nat.mul_assoc]
  rw [e, dec_ge (by omega), show (n * 10 ^ k * 10 + g) / 10 = n * 10 ^ k + g / 10 by omega, show (n * 10 ^ k * 10 + g) % 10 = g % 10 by omega, ih n (g / 10) hn (by omega), List.append_assoc]
  rfl
theorem pad_len (k : Nat) : ∀ g, (pad k g).length = k := by
 induction k with
 | zero => intro g; rfl
 | succ k ih => intro g; simp [pad, ih]
theorem dec_group (n g : Nat) (hn : 0 < n) (hg : g < 1000000000000000000) : Lib.decDigits (n * 1000000000000000000 + g) = Lib.decDigits n ++ pad 18 g :=
 (by
  have h18 : (10 : Nat) ^ 18 = 1000000000000000000 := by decide
  have h := dec_pad_k 18 n g hn (by rw [h18]; exact hg)
  rw [h18] at h
  exact h)
theorem dec_lead (g : Nat) (hg : g < 1000000000000000000) : Lib.decDigits (1000000000000000000 + g) = 49 :: pad 18 g := by
 have h18 : (10 : Nat) ^ 18 = 1000000000000000000 := by decide
 have h := dec_pad_k 18 1 g (by omega) (by rw [h18]; exact hg)
 rw [h18, dec_lt (show 1 < 10 by omega), Nat.one_mul] at h
 have e : UInt8.ofNat (48 + 1) = 49 := by decide
 rw [h, e, List.singleton_append]
theorem Own.chR {w w' : World} {B : Nat} {e : TypeId} {v : Value} {xs : List Value} {R : Nat → Prop} (h : Own w B e v xs) (hC : Ch w.heap.size R w w') (hR : ∀ k, B ≤ k → k < w.heap.size → ¬ R k) : Own w' B e v xs := by
 obtain ⟨h1, h2⟩ := h
 refine ⟨h1, ?_⟩
 rcases h2 with q | ⟨g, cap, cur, hv, hb, hg, r⟩
 ·exact .inl q
 ·have hl : g < w.heap.size := (Array.getElem?_eq_some_iff.1 hg).1
  exact .inr ⟨g, cap, cur, hv, hb, by rw [hC.block g hl (hR g hb hl)]; exact hg, r⟩
theorem own_text (w : World) (B : Nat) (v : Value) (l : List UInt8) (h : Own w B 5 v (l.map Y)) : (convert 87 9 v).run Tryz.prog w = .ok (S l) w := by
 obtain ⟨h1, h2⟩ := h
 rcases h2 with ⟨rfl, h0⟩ | ⟨g, cap, cur, rfl, hb, hg, hn, hm, hs, ht⟩
 ·have hl : l = [] := by
   rw [List.length_map] at h0
   exact List.eq_nil_of_length_eq_zero h0
  subst hl
  exact (show (convert 87 9 (.slice none 0 0)).run Tryz.prog w = .ok (.string ⟨#[]⟩) w from by kernel_rfl)
 ·rw [List.length_map] at ht ⊢
  rw [Nat.mul_one] at ht
  have hB : Blk w g 5 cur.toList := by unfold Blk; simpa using hg
  exact run_convert_blk (P := Tryz.prog) w 87 9 5 Tryz.underlying87 Tryz.underlying5 Tryz.underlying9 g 0 l.length cap l 5 cur.toList hB rfl (fun i hi => by
   have h1 := congrArg (·[i]?) ht
   simp only [List.getElem?_take, List.getElem?_map] at h1
   rw [if_pos hi, List.getElem?_eq_getElem hi] at h1
   rw [Nat.zero_add, h1]; rfl)
theorem groups_room (N kk L : Nat) (hN : N < 10 ^ kk) (hM : 0 < N / 1000000000000000000 ^ L) : L ≤ kk := by
 have h1 : 1000000000000000000 ^ L ≤ N := by
  rcases Nat.lt_or_ge N (1000000000000000000 ^ L) with h | h
  ·rw [Nat.div_eq_of_lt h] at hM; omega
  ·exact h
 have h2 : (10 : Nat) ^ L ≤ 1000000000000000000 ^ L := Nat.pow_le_pow_left (by omega) _
 have h3 : (10 : Nat) ^ L < 10 ^ kk := by omega
 have := (Nat.pow_lt_pow_iff_right (a := 10) (by omega)).1 h3
 omega
theorem group_div (N j : Nat) : N / 1000000000000000000 ^ j = N / 1000000000000000000 ^ (j + 1) * 1000000000000000000 + N / 1000000000000000000 ^ j % 1000000000000000000 := by
 rw [Nat.pow_succ, ← Nat.div_div_eq_div_mul]
 have := Nat.div_add_mod (N / 1000000000000000000 ^ j) 1000000000000000000
 omega
theorem div_mono_pos (N j L : Nat) (hj : j ≤ L) (h : 0 < N / 1000000000000000000 ^ L) : 0 < N / 1000000000000000000 ^ j := by
 have h1 : 1000000000000000000 ^ j ≤ 1000000000000000000 ^ L := Nat.pow_le_pow_right (by omega) hj
 have h2 : 1000000000000000000 ^ L ≤ N := by
  rcases Nat.lt_or_ge N (1000000000000000000 ^ L) with h' | h'
  ·rw [Nat.div_eq_of_lt h'] at h; omega
  ·exact h'
 exact Nat.div_pos (by omega) (Nat.pow_pos (by omega))
set_option maxRecDepth 100000 in
set_option maxHeartbeats 3200000 in
theorem decimal_any (N kk B g cap n0 : Nat) (post0 : List Value) (w : World) (hN : N < 10 ^ kk) (hkk : kk ≤ 1000000) (hn0 : (ds N).length = n0) (hn0b : n0 ≤ 1000000) (hbg : B ≤ g) (hcap : n0 ≤ cap) (hcm : cap ≤ maxLen)
  (hB : Blk w g 125 ((ds N).map U ++ post0)) (htab : ∀ wr, Ch B none1 w wr → pow10Is wr) :
  Calls Tryz.prog 153 #[.slice (some ⟨g, 0, none⟩) n0 cap] w fun e w' => e = .returned (S (Lib.decDigits N)) ∧ Ch B none1 w w' := by
 obtain ⟨i0, hi, hz0, hz1, hz2⟩ := info_parts Tryz.info52
 obtain ⟨i1, hi1, hz3, hz4, hz5⟩ := info_parts Tryz.info5
 have HN := Lib.hid hN
 have HTAB := Lib.hid htab
 have HBG := Lib.hid hbg
 have HN0 := Lib.hid hn0
 have hgl := hB.lt
 have HB := Lib.hid hB
 clear hN htab hbg hn0 hB
 go_enter Tryz.func153, Tryz.ntmps153
 go_wp2_with fail
 go_loopg [0, 3] N (fun gh x q wr => ∃ (M n : Nat) (gs : List Nat) (post : List Value) (qv : Value), qv = q ∧ gh = M + 0 ∧ x = .slice (some ⟨g, 0, none⟩) n cap ∧ (ds M).length = n ∧ n ≤ cap ∧ n ≤ 1000000 ∧ Blk wr g 125 ((ds M).map U ++ post) ∧ Own wr w.heap.size 125 q (gs.map U) ∧
  M = N / 1000000000000000000 ^ gs.length ∧ (∀ j (hj : j < gs.length), gs[j] = N / 1000000000000000000 ^ j % 1000000000000000000) ∧ (gs = [] ∨ 0 < M) ∧ Ch B none1 w wr)
 case atStart => exact ⟨N, n0, [], post0, _, rfl, rfl, rfl, HN0.out, hcap, hn0b, HB.out, Own.nil _ _ _, by simp, fun j hj => by simp at hj, .inl rfl, Ch.refl _ _ _⟩
 case round =>
  clear HB HN0 hcap hn0b
  obtain ⟨M, n, gs, post, qv, rfl, hgh, rfl, hn, hnc, hnb, hB, hown, hM, hgs, hpos, hC⟩ := hrel
  have HNL := Lib.hid hn
  have HB := Lib.hid hB
  have HO := Lib.hid hown
  have HM := Lib.hid hM
  have HG := Lib.hid hgs
  have HP := Lib.hid hpos
  have HC := Lib.hid hC
  have hsz := hC.size
  have hglen : gs.length ≤ 1000000 := by
   rcases hpos with h | h
   ·rw [h]; simp
   ·have := groups_room N kk gs.length HN.out (by rw [← hM]; exact h); omega
  clear hn hB hown hM hgs hpos hC
  by_cases hlt : 1 < n
  ·have hMD : D ≤ M := by
    rcases Nat.lt_or_ge M D with h | h
    ·have := (ds_len M 1).2 (by rw [Nat.pow_one]; exact h); have := HNL.out; omega
    ·exact h
   have hdec : M / 1000000000000000000 < M := Nat.div_lt_self (by unfold D at hMD; omega) (by omega)
   have hdpos : 0 < M / 1000000000000000000 := Nat.div_pos (by unfold D at hMD; omega) (by omega)
   clear hMD
   have hdw := divideByWord_any n cap 1000000000000000000 g 0 125 [] post (ds M) wr (dok_ds M) HNL.out (by omega) (by omega) (by unfold D; omega) HB.out rfl
   have HDW := Lib.hid hdw
   clear hdw
   go_wp2_with fail
   refine HDW.out.mono ?_
   rintro e w2 ⟨zs, rfl, hz, hzl, hzv, hB2, hC2⟩
   have HZ := Lib.hid hz
   have HZL := Lib.hid hzl
   rw [dv_ds] at hzv
   rw [dv_ds]
   have HZV := Lib.hid hzv
   have HO2 := Lib.hid (HO.out.chR hC2 (fun k h1 _ h2 => by omega))
   have hbw : B ≤ w.heap.size := by have := HBG.out; omega
   have HC2 := Lib.hid (HC.out.trans (hC2.mono (Nat.le_trans hbw hsz) (fun k hk h => absurd h (by have := HBG.out; omega))))
   have hB3 : Blk w2 g 125 (zs.map U ++ post) := hB2
   have HB3 := Lib.hid hB3
   have hsz2 : w.heap.size ≤ w2.heap.size := Nat.le_trans hsz hC2.size
   obtain ⟨r, hr⟩ : ∃ r, M % 1000000000000000000 = r := ⟨_, rfl⟩
   rw [hr]
   have HR := Lib.hid hr
   clear hz hzl hzv hB2 hB3 hC2 hr
   go_wp2_with (at_builtin; refine wpList_append_up _ rfl _ _ 131 rfl w.heap.size 125 i0 .u64 0 8 Tryz.underlying131 hi hz0 hz1 hz2 (by decide) _ _ rfl (HO2.out.ch (Ch.alloc0 _)) ⟨w2.heap.size, 0, none⟩ 1 1 [U r] rfl rfl (new_cell _ _ _) (one_one _ _) (by rw [List.length_map]; omega) (size_alloc_le _ hsz2) ?_; intro v' w3 hown' hC3)
   have hC4 : Ch w.heap.size none1 w2 w3 := ((Ch.refl w.heap.size none1 w2).alloc hsz2 _).trans hC3
   have hB4 : Blk w3 g 125 (zs.map U ++ post) := hC4.blk HB3.out hgl (fun q => q)
   have HC4 := Lib.hid (HC2.out.trans (hC4.mono hbw (fun _ _ q => q)))
   have HO4 := Lib.hid hown'
   have hdg := dg_of_blk hB4 HZ.out n HZL.out
   have HB4 := Lib.hid hB4
   clear hC3 hC4 hown' hB4
   go_wp2_with fail
   refine (dtrim_any _ n cap zs _ hdg hnc hcm).mono ?_
   rintro e w5 ⟨rfl, rfl⟩
   have htr := trimD zs HZ.out
   rw [HZV.out] at htr
   have htl : tlen zs ≤ n := by have h := tlen_le zs; have := HZL.out; omega
   have htlen : (ds (M / 1000000000000000000)).length = tlen zs := by rw [← htr, List.length_take]; have := tlen_le zs; omega
   have HTR := Lib.hid htr
   have HTL := Lib.hid htlen
   clear htr htlen hdg
   go_wp2_with fail
   go_roundg (M / 1000000000000000000 + 0)
   case measure => omega
   case rel =>
    refine ⟨M / 1000000000000000000, tlen zs, gs ++ [r], (zs.drop (tlen zs)).map U ++ post, _, rfl, rfl, rfl, HTL.out, by omega, by omega, ?_, ?_, ?_, ?_, .inr hdpos, HC4.out⟩
    ·rw [← HTR.out, ← List.append_assoc, ← List.map_append, List.take_append_drop]; exact HB4.out
    ·have h := HO4.out
     rw [List.map_append]
     exact h
    ·rw [List.length_append, HM.out, Nat.div_div_eq_div_mul]; rfl
    ·intro j hj
     rw [List.length_append, List.length_singleton] at hj
     rcases Nat.lt_or_ge j gs.length with h | h
     ·rw [List.getElem_append_left h]; exact HG.out j h
     ·obtain rfl : j = gs.length := by omega
      rw [List.getElem_concat_length]
      ·rw [← HR.out, HM.out]
      ·rfl
  ·have hMD : M < D := by
    have h := (ds_len M 1).1 (by have := HNL.out; omega)
    rwa [Nat.pow_one] at h
   have hM64 : M < 18446744073709551616 := hMD
   have hbw : B ≤ w.heap.size := by have := HBG.out; omega
   have hdok : Dok gs := fun x hx => by
    obtain ⟨j, hj, rfl⟩ := List.getElem_of_mem hx
    rw [HG.out j hj]
    exact Nat.lt_of_lt_of_le (Nat.mod_lt _ (by omega)) (by unfold D; omega)
   obtain ⟨pq, capq, rfl, hdq, hq1, hq2, _⟩ := dg_of_own (xs := gs) (by have h := HO.out; rw [Own, List.length_map] at h; exact h) hdok
   have HQ := Lib.hid (fun (w' : World) (h : Ch wr.heap.size none1 wr w') => (Dg.ch h hdq (fun a ha => ⟨hdq.lt_size a ha, fun q => q⟩) : Dg w' pq gs.length gs))
   clear hdok hdq
   rcases Nat.eq_zero_or_pos M with h0 | hMp
   ·subst h0
    obtain rfl : n = 0 := by have := HNL.out; rw [ds_zero] at this; exact this.symm
    obtain ⟨wA, rfl⟩ : ∃ wA : World, wA = wr := ⟨_, rfl⟩
    go_wp2_with fail
    refine (AppendUint_nil 0 _ (by omega) (HTAB.out _ HC.out)).mono ?_
    rintro e w3 ⟨tv, rfl, ho, hC3⟩
    have hot : Own w3 wA.heap.size 5 tv ((Lib.decDigits 0).map Y) := by rw [Own, List.length_map]; exact ho
    rw [HM.out] at hot
    have HOT := Lib.hid hot
    have HC3 := Lib.hid hC3
    clear ho hot hC3
    go_wp2_with fail
    go_loopg [5, 6] (gs.length) (fun gh t i wr => ∃ (c : Nat) (tx : Value), tx = t ∧ c ≤ gs.length ∧ gh = c + 0 ∧ i = .int .i64 ((c : Int) - 1) ∧ Own wr wA.heap.size 5 t ((Lib.decDigits (N / 1000000000000000000 ^ c)).map Y) ∧ Ch wA.heap.size none1 wA wr)
    case atStart => exact ⟨gs.length, _, rfl, Nat.le_refl _, rfl, rfl, HOT.out, HC3.out⟩
    case round =>
     clear HC3 HOT
     obtain ⟨c, tx, rfl, hc, hgh2, rfl, hot, hC4⟩ := hrel
     have HC4 := Lib.hid hC4
     have HC5 := Lib.hid (HC.out.trans (hC4.mono (Nat.le_trans hbw hsz) (fun _ _ q => q)))
     rcases c with _ | j
     ·rw [Nat.pow_zero, Nat.div_one] at hot
      have hcv := own_text wr _ _ _ hot
      clear hot hC4
      go_wp2_with fail
      go_ret
      exact ⟨rfl, HC5.out⟩
     ·have HOT := Lib.hid hot
      have hd := HQ.out wr hC4
      clear hot hC4
      have hjl : j < gs.length := by omega
      obtain ⟨gq, oq, rfl⟩ := hd.addr (by omega)
      have hget := hd.get j hjl
      have hgj := HG.out j hjl
      obtain ⟨gj, hgje⟩ : ∃ gj, gs[j] = gj := ⟨_, rfl⟩
      rw [hgje] at hget hgj
      have hgl : gj < 1000000000000000000 := by rw [hgj]; exact Nat.mod_lt _ (by omega)
      have hpj : 0 < N / 1000000000000000000 ^ (j + 1) := by
       rcases HP.out with h | h
       ·rw [h] at hjl; simp at hjl
       ·exact div_mono_pos N (j + 1) gs.length hc (by rw [← HM.out]; exact h)
      have hgd := group_div N j
      rw [← hgj] at hgd
      have hstep : Lib.decDigits (N / 1000000000000000000 ^ j) = Lib.decDigits (N / 1000000000000000000 ^ (j + 1)) ++ pad 18 gj := by rw [hgd]; exact dec_group _ _ hpj hgl
      have hlead := dec_lead gj hgl
      have hpl := pad_len 18 gj
      have hlen : (Lib.decDigits (N / 1000000000000000000 ^ (j + 1))).length ≤ 1000001 := Nat.le_trans (dec_len kk _ (Nat.lt_of_le_of_lt (Nat.div_le_self _ _) (Nat.lt_trans HN.out (Nat.pow_lt_pow_right (by omega) (by omega))))) (by omega)
      obtain ⟨pd, hpd⟩ : ∃ pd, pad 18 gj = pd := ⟨_, rfl⟩
      rw [hpd] at hstep hlead hpl
      obtain ⟨u, hu⟩ : ∃ u, 1000000000000000000 + gj = u := ⟨_, rfl⟩
      rw [hu] at hlead
      have hui : (1000000000000000000 + (gj : Int)) = (u : Int) := by omega
      have hul : u < 2000000000000000000 := by omega
      have hext := ext1 49 pd (49 :: pd).length rfl
      rw [← hlead] at hext
      have hddl : 1 ≤ (Lib.decDigits u).length := by rw [hlead]; simp
      have hfu := FormatUint_big u (by omega) (by omega) wr (HTAB.out wr HC5.out)
      obtain ⟨dd, hdd⟩ : ∃ dd, Lib.decDigits u = dd := ⟨_, rfl⟩
      rw [hdd] at hext hddl hfu
      have HST := Lib.hid hstep
      have HFU := Lib.hid hfu
      have hps : (ByteArray.mk pd.toArray).size = 18 := by rw [← hpl]; simp [ByteArray.size]
      have HPS := Lib.hid hps
      have HLEN := Lib.hid hlen
      have e1 : ((j : Int) + 1 - 1) = (j : Int) := by omega
      clear hgje hgd hgj hpj hstep hlead hpl hpd hu hdd hfu hps hlen hd
      go_wp2_with fail
      refine HFU.out.mono ?_
      rintro e w5 ⟨rfl, hC6⟩
      have HO5 := Lib.hid (HOT.out.ch hC6)
      have hs5 : wA.heap.size ≤ w5.heap.size := Nat.le_trans HC4.out.size hC6.size
      have HC7 := Lib.hid (HC4.out.step0 hC6 (Nat.le_refl _))
      clear hC6
      go_wp2_with (at_builtin; refine Lib.wpList_append_own_string _ rfl _ _ 87 9 rfl wA.heap.size 5 i1 Tryz.underlying87 Tryz.underlying9 hi1 hz3 hz4 hz5 _ _ _ rfl HO5.out ⟨pd.toArray⟩ rfl (by rw [HPS.out, List.length_map]; have := HLEN.out; unfold maxLen; omega) (by rw [HPS.out, List.length_map]; have := HLEN.out; omega) hs5 ?_; intro v6 w6 hown6 hgr6 _)
      have hC8 := Own.grow HO5.out hgr6 hs5
      clear hgr6
      have hcells : Lib.strCells ⟨pd.toArray⟩ = pd.map Y := by unfold Lib.strCells; rfl
      have hown7 : Own w6 wA.heap.size 5 v6 ((Lib.decDigits (N / 1000000000000000000 ^ j)).map Y) := by
       rw [HST.out, List.map_append, Own, List.length_append, ← hcells]
       have hl : (Lib.strCells ⟨pd.toArray⟩).length = (ByteArray.mk pd.toArray).size := by rw [hcells, List.length_map]; simp [ByteArray.size]
       rw [hl]
       exact hown6
      clear hown6
      go_wp2_with fail
      go_roundg (j + 0)
      case measure => omega
      case rel => exact ⟨j, _, rfl, by omega, rfl, by go_num, hown7, HC7.out.trans hC8⟩

   ·obtain rfl : n = 1 := by
     have h := HNL.out
     have : 0 < n := by
      rcases Nat.eq_zero_or_pos n with h' | h'
      ·have := (ds_len M 0).1 (by omega); simp at this; omega
      ·exact h'
     omega
    have hds1 : ds M = [M] := by rw [ds_pos _ (by omega), Nat.mod_eq_of_lt hMD, Nat.div_eq_of_lt hMD, ds_zero]
    have c0 : wr.cell? ⟨g, 0, none⟩ = some (U M) := by have h := HB.out.cell 0; rw [hds1] at h; exact h
    clear hds1
    obtain ⟨wA, rfl⟩ : ∃ wA : World, wA = wr := ⟨_, rfl⟩
    go_wp2_with fail
    refine (AppendUint_nil M _ (by omega) (HTAB.out _ HC.out)).mono ?_
    rintro e w3 ⟨tv, rfl, ho, hC3⟩
    have hot : Own w3 wA.heap.size 5 tv ((Lib.decDigits M).map Y) := by rw [Own, List.length_map]; exact ho
    rw [HM.out] at hot
    have HOT := Lib.hid hot
    have HC3 := Lib.hid hC3
    clear ho hot hC3
    go_wp2_with fail
    go_loopg [5, 6] (gs.length) (fun gh t i wr => ∃ (c : Nat) (tx : Value), tx = t ∧ c ≤ gs.length ∧ gh = c + 0 ∧ i = .int .i64 ((c : Int) - 1) ∧ Own wr wA.heap.size 5 t ((Lib.decDigits (N / 1000000000000000000 ^ c)).map Y) ∧ Ch wA.heap.size none1 wA wr)
    case atStart => exact ⟨gs.length, _, rfl, Nat.le_refl _, rfl, rfl, HOT.out, HC3.out⟩
    case round =>
     clear HC3 HOT
     obtain ⟨c, tx, rfl, hc, hgh2, rfl, hot, hC4⟩ := hrel
     have HC4 := Lib.hid hC4
     have HC5 := Lib.hid (HC.out.trans (hC4.mono (Nat.le_trans hbw hsz) (fun _ _ q => q)))
     rcases c with _ | j
     ·rw [Nat.pow_zero, Nat.div_one] at hot
      have hcv := own_text wr _ _ _ hot
      clear hot hC4
      go_wp2_with fail
      go_ret
      exact ⟨rfl, HC5.out⟩
     ·have HOT := Lib.hid hot
      have hd := HQ.out wr hC4
      clear hot hC4
      have hjl : j < gs.length := by omega
      obtain ⟨gq, oq, rfl⟩ := hd.addr (by omega)
      have hget := hd.get j hjl
      have hgj := HG.out j hjl
      obtain ⟨gj, hgje⟩ : ∃ gj, gs[j] = gj := ⟨_, rfl⟩
      rw [hgje] at hget hgj
      have hgl : gj < 1000000000000000000 := by rw [hgj]; exact Nat.mod_lt _ (by omega)
      have hpj : 0 < N / 1000000000000000000 ^ (j + 1) := by
       rcases HP.out with h | h
       ·rw [h] at hjl; simp at hjl
       ·exact div_mono_pos N (j + 1) gs.length hc (by rw [← HM.out]; exact h)
      have hgd := group_div N j
      rw [← hgj] at hgd
      have hstep : Lib.decDigits (N / 1000000000000000000 ^ j) = Lib.decDigits (N / 1000000000000000000 ^ (j + 1)) ++ pad 18 gj := by rw [hgd]; exact dec_group _ _ hpj hgl
      have hlead := dec_lead gj hgl
      have hpl := pad_len 18 gj
      have hlen : (Lib.decDigits (N / 1000000000000000000 ^ (j + 1))).length ≤ 1000001 := Nat.le_trans (dec_len kk _ (Nat.lt_of_le_of_lt (Nat.div_le_self _ _) (Nat.lt_trans HN.out (Nat.pow_lt_pow_right (by omega) (by omega))))) (by omega)
      obtain ⟨pd, hpd⟩ : ∃ pd, pad 18 gj = pd := ⟨_, rfl⟩
      rw [hpd] at hstep hlead hpl
      obtain ⟨u, hu⟩ : ∃ u, 1000000000000000000 + gj = u := ⟨_, rfl⟩
      rw [hu] at hlead
      have hui : (1000000000000000000 + (gj : Int)) = (u : Int) := by omega
      have hul : u < 2000000000000000000 := by omega
      have hext := ext1 49 pd (49 :: pd).length rfl
      rw [← hlead] at hext
      have hddl : 1 ≤ (Lib.decDigits u).length := by rw [hlead]; simp
      have hfu := FormatUint_big u (by omega) (by omega) wr (HTAB.out wr HC5.out)
      obtain ⟨dd, hdd⟩ : ∃ dd, Lib.decDigits u = dd := ⟨_, rfl⟩
      rw [hdd] at hext hddl hfu
      have HST := Lib.hid hstep
      have HFU := Lib.hid hfu
      have hps : (ByteArray.mk pd.toArray).size = 18 := by rw [← hpl]; simp [ByteArray.size]
      have HPS := Lib.hid hps
      have HLEN := Lib.hid hlen
      have e1 : ((j : Int) + 1 - 1) = (j : Int) := by omega
      clear hgje hgd hgj hpj hstep hlead hpl hpd hu hdd hfu hps hlen hd
      go_wp2_with fail
      refine HFU.out.mono ?_
      rintro e w5 ⟨rfl, hC6⟩
      have HO5 := Lib.hid (HOT.out.ch hC6)
      have hs5 : wA.heap.size ≤ w5.heap.size := Nat.le_trans HC4.out.size hC6.size
      have HC7 := Lib.hid (HC4.out.step0 hC6 (Nat.le_refl _))
      clear hC6
      go_wp2_with (at_builtin; refine Lib.wpList_append_own_string _ rfl _ _ 87 9 rfl wA.heap.size 5 i1 Tryz.underlying87 Tryz.underlying9 hi1 hz3 hz4 hz5 _ _ _ rfl HO5.out ⟨pd.toArray⟩ rfl (by rw [HPS.out, List.length_map]; have := HLEN.out; unfold maxLen; omega) (by rw [HPS.out, List.length_map]; have := HLEN.out; omega) hs5 ?_; intro v6 w6 hown6 hgr6 _)
      have hC8 := Own.grow HO5.out hgr6 hs5
      clear hgr6
      have hcells : Lib.strCells ⟨pd.toArray⟩ = pd.map Y := by unfold Lib.strCells; rfl
      have hown7 : Own w6 wA.heap.size 5 v6 ((Lib.decDigits (N / 1000000000000000000 ^ j)).map Y) := by
       rw [HST.out, List.map_append, Own, List.length_append, ← hcells]
       have hl : (Lib.strCells ⟨pd.toArray⟩).length = (ByteArray.mk pd.toArray).size := by rw [hcells, List.length_map]; simp [ByteArray.size]
       rw [hl]
       exact hown6
      clear hown6
      go_wp2_with fail
      go_roundg (j + 0)
      case measure => omega
      case rel => exact ⟨j, _, rfl, by omega, rfl, by go_num, hown7, HC7.out.trans hC8⟩

end Go.Proofs.YtkeomlpecjjhiaaGreatDoor
namespace Go.Proofs.YtkeomlpecjjhiaaGreatDoor
open Go.RowKit
set_option maxRecDepth 100000 in
set_option maxHeartbeats 1600000 in
theorem Text_any (a : List UInt8) (w : World) (ha : a.length ≤ 1000) (ht : pow10Is w) :
  Calls Tryz.prog 114 #[S a] w (Yld w (S (Lib.decDigits (bv a)))) := by
 have HT := Lib.hid ht; clear ht
 have hN : bv a < 10 ^ (3 * a.length) := by
  have h1 := bv_lt a
  have h2 : 256 ^ a.length ≤ 1000 ^ a.length := Nat.pow_le_pow_left (by omega) _
  have h3 : 10 ^ (3 * a.length) = 1000 ^ a.length := by rw [Nat.pow_mul]
  omega
 have hl := ds_len_bytes a
 have hl1 := trimL_len a
 have HN := Lib.hid hN; clear hN
 go_enter Tryz.func114, Tryz.ntmps114
 go_wp2_with fail
 refine (digitsOf_any a _ (by omega)).mono ?_
 rintro e w1 ⟨g1, rfl, hB1, hg1, hC1⟩
 have hn : (ds (bv a)).length ≤ 1000 := by omega
 have HB1 := Lib.hid hB1
 have HC1 := Lib.hid hC1
 have HTT := Lib.hid (fun wr (h : Ch w.heap.size none1 w1 wr) => (tab_ch HT.out (hC1.trans h) : pow10Is wr))
 clear hB1 hC1 hl hl1
 obtain ⟨n, hnn⟩ : ∃ n, (ds (bv a)).length = n := ⟨_, rfl⟩
 rw [hnn] at hn ⊢
 go_wp2_with fail
 refine (decimal_any (bv a) (3 * a.length) w.heap.size g1 n n [] w1 HN.out (by omega) hnn (by omega) hg1 (Nat.le_refl _) (by unfold maxLen; omega) (HB1.out.cast (by simp)) HTT.out).mono ?_
 rintro e w2 ⟨rfl, hC2⟩
 go_wp2_with fail
 go_ret
 exact ⟨rfl, HC1.out.trans hC2⟩
/-- A block whose first cells are these bytes, none of them frozen. -/
structure Bytes (w : World) (g : Nat) (l : List UInt8) : Prop where
 lt : g < w.heap.size
 cell : ∀ j (hj : j < l.length), w.cell? ⟨g, j, none⟩ = some (Y l[j])
 frozen : ∀ j, j < l.length → w.frozen? ⟨g, j, none⟩ = false
theorem Bytes.set {w : World} {g : Nat} {l : List UInt8} (h : Bytes w g l) (k : Nat) (b : UInt8) (_ : k < l.length) : Bytes (w.setCell ⟨g, k, none⟩ (Y b)) g (l.set k b) := by
 refine ⟨by rw [World.size_setCell]; exact h.lt, fun j hj => ?_, fun j hj => ?_⟩
 ·rw [List.length_set] at hj
  by_cases e : k = j
  ·subst e
   rw [World.cell?_setCell_same' _ _ _ (by rw [h.cell k hj]; rfl), List.getElem_set_self]
  ·rw [World.cell?_setCell_other _ _ _ _ (by first | (simp; done) | simp [e]), h.cell j hj, List.getElem_set_ne e]
 ·rw [List.length_set] at hj
  rw [World.frozen?_setCell]
  exact h.frozen j hj
theorem Bytes.ch {w w' : World} {g : Nat} {l : List UInt8} (h : Bytes w g l) (hC : Ch w.heap.size none1 w w') : Bytes w' g l :=
 ⟨Nat.lt_of_lt_of_le h.lt hC.size, fun j hj => (hC.cell (p := ⟨g, j, none⟩) h.lt (fun q => q)).trans (h.cell j hj), fun j hj => (hC.frozen (p := ⟨g, j, none⟩) h.lt (fun q => q)).trans (h.frozen j hj)⟩
end Go.Proofs.YtkeomlpecjjhiaaGreatDoor
namespace Go.Proofs.YtkeomlpecjjhiaaGreatDoor
open Go.RowKit
theorem C_of {n : Int} {l : List UInt8} (hl : nb n.toNat = l) (h1 : -9223372036854775808 ≤ n) (h2 : n ≤ 9223372036854775807) : Ans 109 #[.int .i64 n] (S l) := fun w => by
 rcases Int.lt_or_le n 0 with h | h
 ·have : l = [] := by rw [← hl, show n.toNat = 0 from by omega, nb_zero]
  subst this
  exact (of_neg n w h h1).mono fun _ _ ⟨he, hC⟩ => ⟨he, ch_same hC⟩
 ·exact (of_any n w h h2).mono fun _ _ ⟨he, hC⟩ => ⟨by rw [he, hl], hC⟩
theorem C_refOf {n : Int} {l : List UInt8} (hl : nb n.toNat = l) (h1 : -9223372036854775808 ≤ n) (h2 : n ≤ 9223372036854775807) : Ans 40 #[.int .i64 n] (S l) := fun w =>
 (refOf_any n w h1 h2).mono fun _ _ ⟨he, hC⟩ => ⟨by rw [he, hl], hC⟩
theorem C_int {a : List UInt8} {k : Int} (ha : a.length ≤ 10000) (hk : (bv a : Int) = k) (h : k ≤ 9223372036854775807) : Ans 105 #[S a] (.tuple #[.int .i64 k, .bool true]) := fun w =>
 (int_yes a w (max_k ha) (by omega)).mono fun _ _ ⟨he, hC⟩ => ⟨by rw [he, hk], ch_same hC⟩
end Go.Proofs.YtkeomlpecjjhiaaGreatDoor
