/- Contract of package nat's combine. -/
import Derived.Test.YtcghnkdfhiancaaDoorGb
import Derived.Laws.Rows
namespace Go.Proofs.YtcghnkdfhiancaaDoor
open Go.RowKit
/-- What combine's loop keeps: Lehmer's state, at the start or behind a step that the leading bits decide. -/
structure Lrun (V W x y a b c d : Nat) (s : Bool) : Prop where
  st : Lst V W x y a b c d s
  fit : (c = 0 ∧ a = 1 ∧ b = 0 ∧ d = 1) ∨ (a ≤ b ∧ c ≤ d ∧ d ≤ y ∧ b + d + y ≤ x ∧ 1 ≤ c)
theorem Lrun.bounds {V W x y a b c d : Nat} {s : Bool} (h : Lrun V W x y a b c d s) (hV : V < D) : a < D ∧ b < D ∧ c < D ∧ d < D ∧ x < D := by
  have h1 := h.st.top
  have hD1 : 1 < D := by decide
  rcases h.fit with ⟨rfl, rfl, rfl, rfl⟩ | ⟨k1, k2, k3, k4, k5⟩
  · rw [Nat.one_mul, Nat.zero_mul, Nat.add_zero] at h1
    have h0 := D_pos
    exact ⟨hD1, h0, h0, hD1, by omega⟩
  · have m1 : d * 1 ≤ d * x := Nat.mul_le_mul_left _ (by omega)
    have m2 : 1 * x ≤ d * x := Nat.mul_le_mul_right _ (by omega)
    omega
theorem Lrun.step {V W x y a b c d : Nat} {s : Bool} (h : Lrun V W x y a b c d s) (hy : 0 < y) (h1 : b + x / y * d ≤ x % y) (h2 : d + (b + x / y * d) + x % y ≤ y) :
    Lrun V W y (x % y) c d (a + x / y * c) (b + x / y * d) (!s) := by
  have hq1 : 1 ≤ x / y := (Nat.one_le_div_iff hy).2 h.st.ord
  refine ⟨h.st.step hy, .inr ?_⟩
  have hf := h.fit
  generalize x / y = q at *
  generalize x % y = r at *
  rcases hf with ⟨rfl, rfl, rfl, rfl⟩ | ⟨k1, k2, k3, k4, k5⟩
  · rw [Nat.mul_one] at *
    rw [Nat.mul_zero] at *
    omega
  · have m1 : q * c ≤ q * d := Nat.mul_le_mul_left _ k2
    have m2 : 1 * c ≤ q * c := Nat.mul_le_mul_right _ hq1
    omega
theorem results_cell_row_tmp {P : Program} {fn : Func} {p u : Tmp} {ty : TypeId} (h : fn.results = #[.cell p ty, .tmp u]) (tmps : Array Value) (w : World) (g : Nat) (t : TypeId) (cs : Array Value) (fr : Nat × Nat) (d : TypeDesc)
    (hp : tmps.getD p undef = .pointer (some ⟨g, 0, none⟩)) (hg : w.heap[g]? = some (.cells cs t fr))
    (hu : P.underlying ty = some d) (hd : (match d with | .struct _ | .array _ _ => true | _ => false) = true) (hi : (P.info? ty).map (·.size) = some cs.size) :
    (results fn tmps).run P w = .ok (.tuple #[.agg cs, tmps.getD u undef]) w := by
  have hp' : tmps[p]?.getD undef = .pointer (some ⟨g, 0, none⟩) := by simpa using hp
  simp [results, h, hp', asAddr, run_loadVar_row w g t ty cs fr d hg hu hd hi]
theorem tdiv_nat (a b : Nat) : (a : Int).tdiv (b : Int) = ((a / b : Nat) : Int) := by
  rw [Int.tdiv_eq_ediv_of_nonneg (by omega)]; exact (Int.natCast_ediv _ _).symm
theorem tmod_nat (a b : Nat) : (a : Int).tmod (b : Int) = ((a % b : Nat) : Int) := by
  rw [Int.tmod_eq_emod_of_nonneg (by omega)]; exact (Int.natCast_emod _ _).symm
theorem wrap_mul (q c : Nat) (h : q * c < D) : IntKind.u64.wrap ((q : Int) * (c : Int)) = ((q * c : Nat) : Int) := by
  rw [← Int.natCast_mul]; exact u64_wrap _ h
/-- What combine yields: multiples, and whether they are of a step. -/
def Comb (v u : Nat) (w : World) (e : Ending) (w' : World) : Prop := ∃ (a b c d : Nat) (s : Bool), e = .returned (.tuple #[.agg #[U a, U b, U c, U d, .bool s], .bool ((c : Int) != 0)]) ∧ a < D ∧ b < D ∧ c < D ∧ d < D ∧ (∃ x y, Lrun v u x y a b c d s) ∧ Ch w.heap.size none1 w w'
theorem Comb.mk' {v u a b c d x y : Nat} {s : Bool} {w w' : World} {e : Ending} (h : e = .returned (.tuple #[.agg #[U a, U b, U c, U d, .bool s], .bool ((c : Int) != 0)])) (ha : a < D) (hb : b < D) (hc : c < D) (hd : d < D) (hl : Lrun v u x y a b c d s) (hC : Ch w.heap.size none1 w w') : Comb v u w e w' := ⟨a, b, c, d, s, h, ha, hb, hc, hd, ⟨x, y, hl⟩, hC⟩
set_option maxRecDepth 100000 in
set_option maxHeartbeats 1600000 in
theorem combine_any (v u : Nat) (w : World) (hv : v < D) (hu : u ≤ v) :
    Calls Tryd.prog 92 #[U v, U u] w (Comb v u w) := by
  go_enter Tryd.func92, Tryd.ntmps92
  go_wp2_with fail
  have hR0 : Blk (w.alloc (.cells #[.int .u64 0, .int .u64 0, .int .u64 0, .int .u64 0, .bool false] 105 (0, 0))) w.heap.size 105 [.int .u64 0, .int .u64 0, .int .u64 0, .int .u64 0, .bool false] := Blk.new w _ _
  have hR := hR0.alloc (.cells #[.int .u64 1, .int .u64 0, .int .u64 0, .int .u64 1, .bool false] 105 (0, 0))
  have hS := Blk.new (w.alloc (.cells #[.int .u64 0, .int .u64 0, .int .u64 0, .int .u64 0, .bool false] 105 (0, 0))) #[.int .u64 1, .int .u64 0, .int .u64 0, .int .u64 1, .bool false] 105
  have hC0 := (Ch.refl w.heap.size none1 w).alloc (Nat.le_refl _) (.cells #[.int .u64 0, .int .u64 0, .int .u64 0, .int .u64 0, .bool false] 105 (0, 0))
  have hC := hC0.alloc hC0.size (.cells #[.int .u64 1, .int .u64 0, .int .u64 0, .int .u64 1, .bool false] 105 (0, 0))
  rw [World.size_alloc] at hS
  clear hR0 hC0
  obtain ⟨W0, hW0⟩ : ∃ W, (w.alloc (.cells #[.int .u64 0, .int .u64 0, .int .u64 0, .int .u64 0, .bool false] 105 (0, 0))).alloc (.cells #[.int .u64 1, .int .u64 0, .int .u64 0, .int .u64 1, .bool false] 105 (0, 0)) = W := ⟨_, rfl⟩
  rw [hW0] at hR hS hC ⊢
  clear hW0
  obtain ⟨g, hg⟩ : ∃ g, w.heap.size = g := ⟨_, rfl⟩
  rw [hg] at hR hS
  have HR := Lib.hid hR; clear hR
  have HS := Lib.hid hS; clear hS
  have HC := Lib.hid hC; clear hC
  have HU := Lib.hid hu
  rw [hg]
  have HG := Lib.hid hg; clear hg
  go_loopw [0, 1] (fun xv yv wr => ∃ (x y a b c d : Nat) (s : Bool), xv = U x ∧ yv = U y ∧ Lrun v u x y a b c d s ∧ Blk wr (g + 1) 105 [U a, U b, U c, U d, .bool s] ∧ Blk wr g 105 [.int .u64 0, .int .u64 0, .int .u64 0, .int .u64 0, .bool false] ∧ Ch w.heap.size none1 w wr)
    (fun _ yv _ => (intOf yv).toNat)
  case atStart => exact ⟨v, u, 1, 0, 0, 1, false, rfl, rfl, ⟨Lst.start _ _ HU.out, .inl ⟨rfl, rfl, rfl, rfl⟩⟩, HS.out, HR.out, HC.out⟩
  case round =>
    clear HS HR HC
    obtain ⟨x, y, a, b, c, d, s, rfl, rfl, hL, hS, hR, hC⟩ := hrel
    obtain ⟨ba, bb, bc, bd, bx⟩ := hL.bounds hv
    have HL := Lib.hid hL; clear hL
    have HC := Lib.hid hC; clear hC
    have s0 : wr.cell? ⟨g + 1, 0, none⟩ = some (U a) := hS.cell 0
    have s1 : wr.cell? ⟨g + 1, 1, none⟩ = some (U b) := hS.cell 1
    have s2 : wr.cell? ⟨g + 1, 2, none⟩ = some (U c) := hS.cell 2
    have s3 : wr.cell? ⟨g + 1, 3, none⟩ = some (U d) := hS.cell 3
    have s4 : wr.cell? ⟨g + 1, 4, none⟩ = some (.bool s) := hS.cell 4
    have HSS := Lib.hid hS; clear hS
    have HRR := Lib.hid hR; clear hR
    by_cases h0 : y = 0
    · subst h0
      go_wp2_with fail
      have e0 : wr.cell? ⟨g, 0, none⟩ = some (.int .u64 0) := HRR.out.cell 0
      have e1 : wr.cell? ⟨g, 1, none⟩ = some (.int .u64 0) := HRR.out.cell 1
      have e2 : wr.cell? ⟨g, 2, none⟩ = some (.int .u64 0) := HRR.out.cell 2
      have e3 : wr.cell? ⟨g, 3, none⟩ = some (.int .u64 0) := HRR.out.cell 3
      have e4 : wr.cell? ⟨g, 4, none⟩ = some (.bool false) := HRR.out.cell 4
      have f0 := HRR.out.frozen 0
      have f1 := HRR.out.frozen 1
      have f2 := HRR.out.frozen 2
      have f3 := HRR.out.frozen 3
      have f4 := HRR.out.frozen 4
      go_region
      have hRb : Blk (((((wr.setCell ⟨g, 0, none⟩ (U a)).setCell ⟨g, 1, none⟩ (U b)).setCell ⟨g, 2, none⟩ (U c)).setCell ⟨g, 3, none⟩ (U d)).setCell ⟨g, 4, none⟩ (.bool s)).drew g 105 [U a, U b, U c, U d, .bool s] := (((((HRR.out.set 0 (U a)).set 1 (U b)).set 2 (U c)).set 3 (U d)).set 4 (.bool s)).drew
      have hg0 : w.heap.size ≤ g := by rw [HG.out]; exact Nat.le_refl _
      have hCb := (((((HC.out.setCell (p := ⟨g, 0, none⟩) (.inl hg0) (U a)).setCell (p := ⟨g, 1, none⟩) (.inl hg0) (U b)).setCell (p := ⟨g, 2, none⟩) (.inl hg0) (U c)).setCell (p := ⟨g, 3, none⟩) (.inl hg0) (U d)).setCell (p := ⟨g, 4, none⟩) (.inl hg0) (.bool s)).drew
      clear e0 e1 e2 e3 e4 f0 f1 f2 f3 f4
      obtain ⟨w9, hw9⟩ : ∃ w9, (((((wr.setCell ⟨g, 0, none⟩ (U a)).setCell ⟨g, 1, none⟩ (U b)).setCell ⟨g, 2, none⟩ (U c)).setCell ⟨g, 3, none⟩ (U d)).setCell ⟨g, 4, none⟩ (.bool s)).drew = w9 := ⟨_, rfl⟩
      rw [hw9] at hRb hCb ⊢
      clear hw9
      go_wp2_with fail
      refine bodyPost_ret (results_cell_row_tmp (P := Tryd.prog) rfl _ _ g 105 _ (0, 0) _ rfl hRb Tryd.underlying105 rfl (by kernel_rfl)) rfl ?_
      exact Comb.mk' rfl ba bb bc bd HL.out hCb
    · have hb := ne_bool h0
      obtain ⟨hb1, hb2, hb3, hb4⟩ := HL.out.st.bound (show 0 < y by omega)
      have hr := Nat.mod_lt x (show 0 < y by omega)
      have hst := HL.out.step (show 0 < y by omega)
      have hsm := fun h => HL.out.st.small hv hr h
      have r1 : (x : Int) / (y : Int) = ((x / y : Nat) : Int) := (Int.natCast_ediv _ _).symm
      have r2 : (x : Int) % (y : Int) = ((x % y : Nat) : Int) := (Int.natCast_emod _ _).symm
      have t1 := tdiv_nat x y
      have t2 := tmod_nat x y
      have hqx : x / y ≤ x := Nat.div_le_self x y
      generalize x / y = q at *
      generalize x % y = r at *
      have hqD : q < D := Nat.lt_of_le_of_lt hqx bx
      have wq : IntKind.u64.wrap (q : Int) = (q : Int) := u64_wrap _ hqD
      have hu := HU.out
      have m1 := wrap_mul q c (by omega)
      have m2 := wrap_mul q d (by omega)
      have n1 : IntKind.u64.wrap ((a : Int) + ((q * c : Nat) : Int)) = ((a + q * c : Nat) : Int) := by rw [← Int.natCast_add]; exact u64_wrap _ (by unfold D at hv; omega)
      have n2 : IntKind.u64.wrap ((b : Int) + ((q * d : Nat) : Int)) = ((b + q * d : Nat) : Int) := by rw [← Int.natCast_add]; exact u64_wrap _ (by unfold D at hv; omega)
      have HST := Lib.hid hst; clear hst
      have HSM := Lib.hid hsm; clear hsm
      clear hb1 hb2 hb3 hb4 hu
      generalize a + q * c = c2 at *
      generalize b + q * d = d2 at *
      generalize q * c = qc at *
      generalize q * d = qd at *
      go_wp2_with fail
      go_quiet (fail)
      have hS2 := HSS.out.drewN nq
      have hR2 := HRR.out.drewN nq
      have hC2 := HC.out.drewN nq
      clear HSS HRR HC s0 s1 s2 s3 s4
      obtain ⟨w2, hw2⟩ : ∃ w2, wr.drewN nq = w2 := ⟨_, rfl⟩
      rw [hw2] at hS2 hR2 hC2 ⊢
      clear hw2
      have s0 : w2.cell? ⟨g + 1, 0, none⟩ = some (U a) := hS2.cell 0
      have s1 : w2.cell? ⟨g + 1, 1, none⟩ = some (U b) := hS2.cell 1
      have s2 : w2.cell? ⟨g + 1, 2, none⟩ = some (U c) := hS2.cell 2
      have s3 : w2.cell? ⟨g + 1, 3, none⟩ = some (U d) := hS2.cell 3
      have s4 : w2.cell? ⟨g + 1, 4, none⟩ = some (.bool s) := hS2.cell 4
      have HSS := Lib.hid hS2; clear hS2
      have HRR := Lib.hid hR2; clear hR2
      have HC := Lib.hid hC2; clear hC2
      have k0 : (w2.alloc (.cells #[U c2, U d2] 103 (0, 0))).cell? ⟨g + 1, 0, none⟩ = some (U a) := (HSS.out.alloc _).cell 0
      have k1 : (w2.alloc (.cells #[U c2, U d2] 103 (0, 0))).cell? ⟨g + 1, 1, none⟩ = some (U b) := (HSS.out.alloc _).cell 1
      have k2 : (w2.alloc (.cells #[U c2, U d2] 103 (0, 0))).cell? ⟨g + 1, 2, none⟩ = some (U c) := (HSS.out.alloc _).cell 2
      have k3 : (w2.alloc (.cells #[U c2, U d2] 103 (0, 0))).cell? ⟨g + 1, 3, none⟩ = some (U d) := (HSS.out.alloc _).cell 3
      have k4 : (w2.alloc (.cells #[U c2, U d2] 103 (0, 0))).cell? ⟨g + 1, 4, none⟩ = some (.bool s) := (HSS.out.alloc _).cell 4
      by_cases hlt : r < d2
      · go_wp2_with fail
        have hS3 := HSS.out.alloc (.cells #[U c2, U d2] 103 (0, 0))
        have hR3 := HRR.out.alloc (.cells #[U c2, U d2] 103 (0, 0))
        have hN3 := Blk.new w2 #[U c2, U d2] 103
        have hC3 := HC.out.alloc HC.out.size (.cells #[U c2, U d2] 103 (0, 0))
        clear k0 k1 k2 k3 k4 s0 s1 s2 s3 s4 HSS HRR HC
        obtain ⟨w4, hw4⟩ : ∃ w4, w2.alloc (.cells #[U c2, U d2] 103 (0, 0)) = w4 := ⟨_, rfl⟩
        rw [hw4] at hS3 hR3 hN3 hC3 ⊢
        clear hw4
        have s0 : w4.cell? ⟨g + 1, 0, none⟩ = some (U a) := hS3.cell 0
        have s1 : w4.cell? ⟨g + 1, 1, none⟩ = some (U b) := hS3.cell 1
        have s2 : w4.cell? ⟨g + 1, 2, none⟩ = some (U c) := hS3.cell 2
        have s3 : w4.cell? ⟨g + 1, 3, none⟩ = some (U d) := hS3.cell 3
        have s4 : w4.cell? ⟨g + 1, 4, none⟩ = some (.bool s) := hS3.cell 4
        have HSS := Lib.hid hS3; clear hS3
        have HRR := Lib.hid hR3; clear hR3
        have HC := Lib.hid hC3; clear hC3
        have e0 : w4.cell? ⟨g, 0, none⟩ = some (.int .u64 0) := HRR.out.cell 0
        have e1 : w4.cell? ⟨g, 1, none⟩ = some (.int .u64 0) := HRR.out.cell 1
        have e2 : w4.cell? ⟨g, 2, none⟩ = some (.int .u64 0) := HRR.out.cell 2
        have e3 : w4.cell? ⟨g, 3, none⟩ = some (.int .u64 0) := HRR.out.cell 3
        have e4 : w4.cell? ⟨g, 4, none⟩ = some (.bool false) := HRR.out.cell 4
        have f0 := HRR.out.frozen 0
        have f1 := HRR.out.frozen 1
        have f2 := HRR.out.frozen 2
        have f3 := HRR.out.frozen 3
        have f4 := HRR.out.frozen 4
        go_region
        have hRb : Blk (((((w4.setCell ⟨g, 0, none⟩ (U a)).setCell ⟨g, 1, none⟩ (U b)).setCell ⟨g, 2, none⟩ (U c)).setCell ⟨g, 3, none⟩ (U d)).setCell ⟨g, 4, none⟩ (.bool s)).drew g 105 [U a, U b, U c, U d, .bool s] := (((((HRR.out.set 0 (U a)).set 1 (U b)).set 2 (U c)).set 3 (U d)).set 4 (.bool s)).drew
        have hg0 : w.heap.size ≤ g := by rw [HG.out]; exact Nat.le_refl _
        have hCb := (((((HC.out.setCell (p := ⟨g, 0, none⟩) (.inl hg0) (U a)).setCell (p := ⟨g, 1, none⟩) (.inl hg0) (U b)).setCell (p := ⟨g, 2, none⟩) (.inl hg0) (U c)).setCell (p := ⟨g, 3, none⟩) (.inl hg0) (U d)).setCell (p := ⟨g, 4, none⟩) (.inl hg0) (.bool s)).drew
        clear e0 e1 e2 e3 e4 f0 f1 f2 f3 f4
        obtain ⟨w9, hw9⟩ : ∃ w9, (((((w4.setCell ⟨g, 0, none⟩ (U a)).setCell ⟨g, 1, none⟩ (U b)).setCell ⟨g, 2, none⟩ (U c)).setCell ⟨g, 3, none⟩ (U d)).setCell ⟨g, 4, none⟩ (.bool s)).drew = w9 := ⟨_, rfl⟩
        rw [hw9] at hRb hCb ⊢
        clear hw9
        go_wp2_with fail
        refine bodyPost_ret (results_cell_row_tmp (P := Tryd.prog) rfl _ _ g 105 _ (0, 0) _ rfl hRb Tryd.underlying105 rfl (by kernel_rfl)) rfl ?_
        exact Comb.mk' rfl ba bb bc bd HL.out hCb
      · obtain ⟨hd2, hd1⟩ := HSM.out (by omega)
        obtain ⟨z, hz⟩ : ∃ z, y - r = z := ⟨_, rfl⟩
        have z1 : (y : Int) - (r : Int) = (z : Int) := by omega
        have hyD : y < D := Nat.lt_of_le_of_lt HL.out.st.ord bx
        have z2 : IntKind.u64.wrap (z : Int) = (z : Int) := u64_wrap _ (by unfold D at hyD; omega)
        have z3 : IntKind.u64.wrap ((d : Int) + (d2 : Int)) = ((d + d2 : Nat) : Int) := by rw [← Int.natCast_add]; exact u64_wrap _ (by omega)
        obtain ⟨t, ht⟩ : ∃ t, d + d2 = t := ⟨_, rfl⟩
        rw [ht] at z3
        have hst : t ≤ z → Lrun v u y r c d c2 d2 (!s) := fun h => HST.out (by omega) (by omega)
        have HST2 := Lib.hid hst; clear hst HST HSM
        clear ht hd2 hd1 hyD
        have HZ := Lib.hid hz; clear hz
        by_cases hlt2 : z < t
        · go_wp2_with fail
          have hS3 := HSS.out.alloc (.cells #[U c2, U d2] 103 (0, 0))
          have hR3 := HRR.out.alloc (.cells #[U c2, U d2] 103 (0, 0))
          have hN3 := Blk.new w2 #[U c2, U d2] 103
          have hC3 := HC.out.alloc HC.out.size (.cells #[U c2, U d2] 103 (0, 0))
          clear k0 k1 k2 k3 k4 s0 s1 s2 s3 s4 HSS HRR HC
          obtain ⟨w4, hw4⟩ : ∃ w4, w2.alloc (.cells #[U c2, U d2] 103 (0, 0)) = w4 := ⟨_, rfl⟩
          rw [hw4] at hS3 hR3 hN3 hC3 ⊢
          clear hw4
          have s0 : w4.cell? ⟨g + 1, 0, none⟩ = some (U a) := hS3.cell 0
          have s1 : w4.cell? ⟨g + 1, 1, none⟩ = some (U b) := hS3.cell 1
          have s2 : w4.cell? ⟨g + 1, 2, none⟩ = some (U c) := hS3.cell 2
          have s3 : w4.cell? ⟨g + 1, 3, none⟩ = some (U d) := hS3.cell 3
          have s4 : w4.cell? ⟨g + 1, 4, none⟩ = some (.bool s) := hS3.cell 4
          have HSS := Lib.hid hS3; clear hS3
          have HRR := Lib.hid hR3; clear hR3
          have HC := Lib.hid hC3; clear hC3
          have e0 : w4.cell? ⟨g, 0, none⟩ = some (.int .u64 0) := HRR.out.cell 0
          have e1 : w4.cell? ⟨g, 1, none⟩ = some (.int .u64 0) := HRR.out.cell 1
          have e2 : w4.cell? ⟨g, 2, none⟩ = some (.int .u64 0) := HRR.out.cell 2
          have e3 : w4.cell? ⟨g, 3, none⟩ = some (.int .u64 0) := HRR.out.cell 3
          have e4 : w4.cell? ⟨g, 4, none⟩ = some (.bool false) := HRR.out.cell 4
          have f0 := HRR.out.frozen 0
          have f1 := HRR.out.frozen 1
          have f2 := HRR.out.frozen 2
          have f3 := HRR.out.frozen 3
          have f4 := HRR.out.frozen 4
          go_region
          have hRb : Blk (((((w4.setCell ⟨g, 0, none⟩ (U a)).setCell ⟨g, 1, none⟩ (U b)).setCell ⟨g, 2, none⟩ (U c)).setCell ⟨g, 3, none⟩ (U d)).setCell ⟨g, 4, none⟩ (.bool s)).drew g 105 [U a, U b, U c, U d, .bool s] := (((((HRR.out.set 0 (U a)).set 1 (U b)).set 2 (U c)).set 3 (U d)).set 4 (.bool s)).drew
          have hg0 : w.heap.size ≤ g := by rw [HG.out]; exact Nat.le_refl _
          have hCb := (((((HC.out.setCell (p := ⟨g, 0, none⟩) (.inl hg0) (U a)).setCell (p := ⟨g, 1, none⟩) (.inl hg0) (U b)).setCell (p := ⟨g, 2, none⟩) (.inl hg0) (U c)).setCell (p := ⟨g, 3, none⟩) (.inl hg0) (U d)).setCell (p := ⟨g, 4, none⟩) (.inl hg0) (.bool s)).drew
          clear e0 e1 e2 e3 e4 f0 f1 f2 f3 f4
          obtain ⟨w9, hw9⟩ : ∃ w9, (((((w4.setCell ⟨g, 0, none⟩ (U a)).setCell ⟨g, 1, none⟩ (U b)).setCell ⟨g, 2, none⟩ (U c)).setCell ⟨g, 3, none⟩ (U d)).setCell ⟨g, 4, none⟩ (.bool s)).drew = w9 := ⟨_, rfl⟩
          rw [hw9] at hRb hCb ⊢
          clear hw9
          go_wp2_with fail
          refine bodyPost_ret (results_cell_row_tmp (P := Tryd.prog) rfl _ _ g 105 _ (0, 0) _ rfl hRb Tryd.underlying105 rfl (by kernel_rfl)) rfl ?_
          exact Comb.mk' rfl ba bb bc bd HL.out hCb
        · have HL2 := Lib.hid (HST2.out (by omega)); clear HST2
          have y0 : (w2.alloc (.cells #[U c2, U d2] 103 (0, 0))).frozen? ⟨g + 1, 0, none⟩ = false := (HSS.out.alloc _).frozen 0
          have y1 : (w2.alloc (.cells #[U c2, U d2] 103 (0, 0))).frozen? ⟨g + 1, 1, none⟩ = false := (HSS.out.alloc _).frozen 1
          have y2 : (w2.alloc (.cells #[U c2, U d2] 103 (0, 0))).frozen? ⟨g + 1, 2, none⟩ = false := (HSS.out.alloc _).frozen 2
          have y3 : (w2.alloc (.cells #[U c2, U d2] 103 (0, 0))).frozen? ⟨g + 1, 3, none⟩ = false := (HSS.out.alloc _).frozen 3
          have y4 : (w2.alloc (.cells #[U c2, U d2] 103 (0, 0))).frozen? ⟨g + 1, 4, none⟩ = false := (HSS.out.alloc _).frozen 4
          go_wp2_with fail
          have hg0 : w.heap.size ≤ g + 1 := by rw [HG.out]; exact Nat.le_succ _
          have hne : g ≠ g + 1 := by omega
          refine ⟨⟨y, r, c, d, c2, d2, !s, rfl, rfl, HL2.out, (((((HSS.out.alloc _).set 0 (U c)).set 1 (U d)).set 2 (U c2)).set 3 (U d2)).set 4 (.bool !s), ?_, ?_⟩, by simp [intOf]; omega⟩
          · exact (((((HRR.out.alloc _).set_other hne 0 (U c)).set_other hne 1 (U d)).set_other hne 2 (U c2)).set_other hne 3 (U d2)).set_other hne 4 (.bool !s)
          · exact (((((HC.out.alloc HC.out.size _).setCell (p := ⟨g + 1, 0, none⟩) (.inl hg0) (U c)).setCell (p := ⟨g + 1, 1, none⟩) (.inl hg0) (U d)).setCell (p := ⟨g + 1, 2, none⟩) (.inl hg0) (U c2)).setCell (p := ⟨g + 1, 3, none⟩) (.inl hg0) (U d2)).setCell (p := ⟨g + 1, 4, none⟩) (.inl hg0) (.bool !s)
end Go.Proofs.YtcghnkdfhiancaaDoor
