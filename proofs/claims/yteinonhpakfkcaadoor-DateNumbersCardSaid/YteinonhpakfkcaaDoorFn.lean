/- DateNumbers: the walk. -/
import Derived.Test.YteinonhpakfkcaaDoorFm
import Derived.Deep.RegionHeld3
namespace Go.Proofs.YteinonhpakfkcaaDoor
open Go.RowKit Go.Shelf
theorem both_num (y m d : Int) (hy : i64i y) : ∃ (r : Int) (b : Bool), AnsW 14 #[iz y, iz m, iz d] (.tuple #[iz r, .bool b]) ∧ AnsW 15 #[iz y, iz m, iz d] (.tuple #[iz r, .bool b]) ∧ AnsW 16 #[iz y, iz m, iz d] (.bool b) :=
  ⟨_, _, C_Num hy.2 rfl rfl, R_Num hy.2 rfl rfl, C_Vld hy.2 rfl⟩
theorem both_civ (n : Int) : ∃ (y m d : Int) (b : Bool), AnsW 17 #[iz n] (.tuple #[iz y, iz m, iz d, .bool b]) ∧ AnsW 18 #[iz n] (.tuple #[iz y, iz m, iz d, .bool b]) :=
  ⟨_, _, _, _, C_Civ rfl rfl rfl rfl, R_Civ rfl rfl rfl rfl⟩
/-- Triples, one behind another. -/
def tcs (l : List (Int × Int × Int)) : List Value := l.flatMap fun p => [iz p.1, iz p.2.1, iz p.2.2]
theorem tcs_get (l : List (Int × Int × Int)) (k : Nat) (p : Int × Int × Int) (h : l[k]? = some p) : (tcs l)[k * 3]? = some (iz p.1) ∧ (tcs l)[k * 3 + 1]? = some (iz p.2.1) ∧ (tcs l)[k * 3 + 2]? = some (iz p.2.2) := by
  induction l generalizing k with
  | nil => simp at h
  | cons q l ih =>
    cases k with
    | zero =>
      simp at h
      subst h
      exact ⟨rfl, rfl, rfl⟩
    | succ k =>
      have := ih k (by simpa using h)
      have e : tcs (q :: l) = iz q.1 :: iz q.2.1 :: iz q.2.2 :: tcs l := rfl
      rw [e, show (k + 1) * 3 = k * 3 + 1 + 1 + 1 by omega]
      simpa using this
set_option maxRecDepth 100000 in
set_option maxHeartbeats 3200000 in
theorem numbers_core (q0 q1 q2 r0 r1 r2 n : Int) (w : World) (hq0 : i64i q0) (hq1 : i64i q1) (hq2 : i64i q2) (hr0 : 0 ≤ r0 ∧ r0 ≤ 255) (hr1 : 0 ≤ r1 ∧ r1 ≤ 255) (hr2 : 0 ≤ r2 ∧ r2 ≤ 255) (hn : i64i n) (hw : Tw w) :
    Calls Tryd.prog 3 #[.agg #[iz q0, iz q1, iz q2], .agg #[.int .u8 r0, .int .u8 r1, .int .u8 r2], iz n] w (Yd w (.bool true)) := by
  have b1 := band_bd n 4194303 (by omega)
  have b2 := band_bd q0 8191 (by omega)
  rw [show ((4194303 : Nat) : Int) = 4194303 from rfl] at b1
  rw [show ((8191 : Nat) : Int) = 8191 from rfl] at b2
  obtain ⟨k, hk⟩ : ∃ k, bits .and .i64 n 4194303 = k := ⟨_, rfl⟩
  obtain ⟨a, ha⟩ : ∃ a, bits .and .i64 q0 8191 = a := ⟨_, rfl⟩
  rw [hk] at b1
  rw [ha] at b2
  obtain ⟨k0, k1⟩ := b1
  obtain ⟨a0, a1⟩ := b2
  obtain ⟨r00, r01⟩ := hr0
  obtain ⟨r10, r11⟩ := hr1
  obtain ⟨r20, r21⟩ := hr2
  obtain ⟨j, hj⟩ : ∃ j : Nat, r0 % 8 = (j : Int) := ⟨(r0 % 8).toNat, by omega⟩
  have hj8 : j < 8 := by omega
  obtain ⟨Y, hY, hYr⟩ : ∃ Y : Int, ([iz 1, iz 4, iz 100, iz 400, iz 1900, iz 2000, iz 2024, iz 9999] : List Value)[j]? = some (iz Y) ∧ i64i Y := by
    unfold i64i
    rcases (show j = 0 ∨ j = 1 ∨ j = 2 ∨ j = 3 ∨ j = 4 ∨ j = 5 ∨ j = 6 ∨ j = 7 by omega) with rfl | rfl | rfl | rfl | rfl | rfl | rfl | rfl
    all_goals exact ⟨_, rfl, by omega, by omega⟩
  obtain ⟨m14, h14⟩ : ∃ x, r1 % 14 = x := ⟨_, rfl⟩
  obtain ⟨d33, h33⟩ : ∃ x, r2 % 33 = x := ⟨_, rfl⟩
  obtain ⟨m12, h12⟩ : ∃ x, r1 % 12 = x := ⟨_, rfl⟩
  obtain ⟨d6, h6⟩ : ∃ x, r2 % 6 = x := ⟨_, rfl⟩
  have e14 : 0 ≤ m14 ∧ m14 ≤ 13 := by omega
  have e33 : 0 ≤ d33 ∧ d33 ≤ 32 := by omega
  have e12 : 0 ≤ m12 ∧ m12 ≤ 11 := by omega
  have e6 : 0 ≤ d6 ∧ d6 ≤ 5 := by omega
  obtain ⟨e14a, e14b⟩ := e14
  obtain ⟨e33a, e33b⟩ := e33
  obtain ⟨e12a, e12b⟩ := e12
  obtain ⟨e6a, e6b⟩ := e6
  have tm0 : r0.tmod 8 = (j : Int) := by rw [Int.tmod_eq_emod_of_nonneg r00]; exact hj
  have tm1 : r1.tmod 14 = m14 := by rw [Int.tmod_eq_emod_of_nonneg r10]; exact h14
  have tm2 : r2.tmod 33 = d33 := by rw [Int.tmod_eq_emod_of_nonneg r20]; exact h33
  have tm3 : r1.tmod 12 = m12 := by rw [Int.tmod_eq_emod_of_nonneg r10]; exact h12
  have tm4 : r2.tmod 6 = d6 := by rw [Int.tmod_eq_emod_of_nonneg r20]; exact h6
  have j0 : (0 : Int) ≤ (j : Int) := by omega
  have j1 : (j : Int) < 8 := by omega
  have w1 : IntKind.u8.wrap (j : Int) = (j : Int) := IntWalk.u8_in _ (by omega)
  have w2 : IntKind.u8.wrap m14 = m14 := IntWalk.u8_in _ (by omega)
  have w3 : IntKind.u8.wrap d33 = d33 := IntWalk.u8_in _ (by omega)
  have w4 : IntKind.u8.wrap m12 = m12 := IntWalk.u8_in _ (by omega)
  have w5 : IntKind.u8.wrap d6 = d6 := IntWalk.u8_in _ (by omega)
  have v2 : IntKind.i64.wrap m14 = m14 := IntWalk.i64_in _ (by omega)
  have v3 : IntKind.i64.wrap d33 = d33 := IntWalk.i64_in _ (by omega)
  have v4 : IntKind.i64.wrap m12 = m12 := IntWalk.i64_in _ (by omega)
  have v5 : IntKind.i64.wrap d6 = d6 := IntWalk.i64_in _ (by omega)
  have v6 : IntKind.i64.wrap (1 + a) = 1 + a := IntWalk.i64_in _ (by omega)
  have v7 : IntKind.i64.wrap (1 + m12) = 1 + m12 := IntWalk.i64_in _ (by omega)
  have v8 : IntKind.i64.wrap (27 + d6) = 27 + d6 := IntWalk.i64_in _ (by omega)
  have HW := Lib.hid hw
  have H0 := Lib.hid sanity3
  have HQY := Lib.hid (And.intro hq0 hYr)
  have HY := Lib.hid hY
  have HQ := Lib.hid (show Blk ((w.alloc (.cells #[iz q0, iz q1, iz q2] 22 (0, 0))).alloc (.cells #[.int .u8 r0, .int .u8 r1, .int .u8 r2] 23 (0, 0))) w.heap.size 22 [iz q0, iz q1, iz q2] from (Blk.new w _ _).alloc _)
  have HR := Lib.hid (show Blk ((w.alloc (.cells #[iz q0, iz q1, iz q2] 22 (0, 0))).alloc (.cells #[.int .u8 r0, .int .u8 r1, .int .u8 r2] 23 (0, 0))) (w.heap.size + 1) 23 [.int .u8 r0, .int .u8 r1, .int .u8 r2] by
    have := Blk.new (w.alloc (.cells #[iz q0, iz q1, iz q2] 22 (0, 0))) #[.int .u8 r0, .int .u8 r1, .int .u8 r2] 23
    rwa [World.size_alloc] at this)
  have HC := Lib.hid (show Ch w.heap.size none1 w ((w.alloc (.cells #[iz q0, iz q1, iz q2] 22 (0, 0))).alloc (.cells #[.int .u8 r0, .int .u8 r1, .int .u8 r2] 23 (0, 0))) from ((Ch.refl _ _ w).alloc (Nat.le_refl _) _).alloc (by simp) _)
  clear hw hq0 hq1 hq2 hn hY hYr
  go_enter Tryd.func3, Tryd.ntmps3
  go_wp2_with fail
  obtain ⟨B, hB⟩ : ∃ B, w.heap.size = B := ⟨_, rfl⟩
  rw [hB] at HQ HR
  with_reducible refine (H0.out _ (HW.out.ch HC.out)).mono ?_
  rintro e w0 ⟨rfl, hC⟩
  have HQ2 := Lib.hid (hC.blk HQ.out HQ.out.lt (fun q => q))
  have HR2 := Lib.hid (hC.blk HR.out HR.out.lt (fun q => q))
  have HC2 := Lib.hid (HC.out.trans (hC.mono HC.out.size (fun _ _ q => q)))
  clear hC HC HQ HR
  have f0 := fun o => (HQ2.out.alloc o).cell 0
  have f1 := fun o => (HQ2.out.alloc o).cell 1
  have f2 := fun o => (HQ2.out.alloc o).cell 2
  have f3 := fun o => (HR2.out.alloc o).cell 0
  have f4 := fun o => (HR2.out.alloc o).cell 1
  have f5 := fun o => (HR2.out.alloc o).cell 2
  have hy0 : (w0.alloc (.cells #[iz 1, iz 4, iz 100, iz 400, iz 1900, iz 2000, iz 2024, iz 9999] 3)).cell? ⟨w0.heap.size, j, none⟩ = some (iz Y) := ((Blk.new w0 _ _).cell j).trans HY.out
  go_wp2_with fail
  have c0 := f0 (.cells #[iz 1, iz 4, iz 100, iz 400, iz 1900, iz 2000, iz 2024, iz 9999] 3 (0, 0))
  have c1 := f1 (.cells #[iz 1, iz 4, iz 100, iz 400, iz 1900, iz 2000, iz 2024, iz 9999] 3 (0, 0))
  have c2 := f2 (.cells #[iz 1, iz 4, iz 100, iz 400, iz 1900, iz 2000, iz 2024, iz 9999] 3 (0, 0))
  have c3 := f3 (.cells #[iz 1, iz 4, iz 100, iz 400, iz 1900, iz 2000, iz 2024, iz 9999] 3 (0, 0))
  have c4 := f4 (.cells #[iz 1, iz 4, iz 100, iz 400, iz 1900, iz 2000, iz 2024, iz 9999] 3 (0, 0))
  have c5 := f5 (.cells #[iz 1, iz 4, iz 100, iz 400, iz 1900, iz 2000, iz 2024, iz 9999] 3 (0, 0))
  have HQ3 := Lib.hid (HQ2.out.alloc (.cells #[iz 1, iz 4, iz 100, iz 400, iz 1900, iz 2000, iz 2024, iz 9999] 3 (0, 0)))
  have HR3 := Lib.hid (HR2.out.alloc (.cells #[iz 1, iz 4, iz 100, iz 400, iz 1900, iz 2000, iz 2024, iz 9999] 3 (0, 0)))
  have HC3 := Lib.hid (HC2.out.alloc HC2.out.size (.cells #[iz 1, iz 4, iz 100, iz 400, iz 1900, iz 2000, iz 2024, iz 9999] 3 (0, 0)))
  obtain ⟨W1, hW1⟩ : ∃ W1, w0.alloc (.cells #[iz 1, iz 4, iz 100, iz 400, iz 1900, iz 2000, iz 2024, iz 9999] 3 (0, 0)) = W1 := ⟨_, rfl⟩
  rw [hW1] at c0 c1 c2 c3 c4 c5 hy0 HQ3 HR3 HC3 ⊢
  obtain ⟨G, hG⟩ : ∃ G, w0.heap.size = G := ⟨_, rfl⟩
  rw [hG] at hy0 ⊢
  clear f0 f1 f2 f3 f4 f5 hW1 hG HQ2 HR2 HC2
  have hkeep := And.intro c0 (And.intro c1 (And.intro c2 (And.intro c3 (And.intro c4 (And.intro c5 hy0)))))
  have HKP := Lib.hid hkeep
  clear hkeep
  go_region_held3 (fun w' => w'.cell? ⟨B, 0, none⟩ = some (iz q0) ∧ w'.cell? ⟨B, 1, none⟩ = some (iz q1) ∧ w'.cell? ⟨B, 2, none⟩ = some (iz q2) ∧ w'.cell? ⟨B + 1, 0, none⟩ = some (.int .u8 r0) ∧ w'.cell? ⟨B + 1, 1, none⟩ = some (.int .u8 r1) ∧ w'.cell? ⟨B + 1, 2, none⟩ = some (.int .u8 r2) ∧ w'.cell? ⟨G, j, none⟩ = some (iz Y))
    (first
      | (with_reducible exact HKP.out)
      | go_keep)
    (fail)
  clear tm0 tm1 tm2 tm3 tm4 w1 w2 w3 w4 w5 v2 v3 v4 v5 v6 v7 v8 j0 j1 c0 c1 c2 c3 c4 c5 hy0 hj h14 h33 h12 h6
  obtain ⟨ps, hps⟩ : ∃ ps : List (Int × Int × Int), [(q0, q1, q2), (Y, m14, d33), (1 + a, 1 + m12, 27 + d6)] = ps := ⟨_, rfl⟩
  have hlen : ps.length = 3 := by rw [← hps]; rfl
  have hrg : ∀ p ∈ ps, i64i p.1 := by
    have hqy := HQY.out
    rw [← hps]
    intro p hp
    simp only [List.mem_cons, List.mem_singleton, List.not_mem_nil, or_false] at hp
    rcases hp with rfl | rfl | rfl
    · exact hqy.1
    · exact hqy.2
    · exact ⟨by show _ ≤ 1 + a; omega, by show 1 + a ≤ _; omega⟩
  have hB : Blk ((W1.alloc (.cells #[iz q0, iz q1, iz q2, iz Y, iz m14, iz d33, iz (1 + a), iz (1 + m12), iz (27 + d6)] 22 (0, 0))).drew) W1.heap.size 22 (tcs ps) := by
    rw [← hps]; exact (Blk.new W1 _ _).drew
  have hR2 := (HR3.out.alloc (.cells #[iz q0, iz q1, iz q2, iz Y, iz m14, iz d33, iz (1 + a), iz (1 + m12), iz (27 + d6)] 22 (0, 0))).drew
  have hC2 := (HC3.out.alloc HC3.out.size (.cells #[iz q0, iz q1, iz q2, iz Y, iz m14, iz d33, iz (1 + a), iz (1 + m12), iz (27 + d6)] 22 (0, 0))).drew
  obtain ⟨G2, hG2⟩ : ∃ G2, W1.heap.size = G2 := ⟨_, rfl⟩
  obtain ⟨W2, hW2⟩ : ∃ W2, (W1.alloc (.cells #[iz q0, iz q1, iz q2, iz Y, iz m14, iz d33, iz (1 + a), iz (1 + m12), iz (27 + d6)] 22 (0, 0))).drew = W2 := ⟨_, rfl⟩
  rw [hW2, hG2] at hB
  rw [hW2] at hR2 hC2 ⊢
  rw [hG2]
  have HRG := Lib.hid hrg
  have HLN := Lib.hid hlen
  have HPB := Lib.hid hps
  clear hrg hlen hps hG2 hW2 HQ3 HR3 HC3 HKP HQY HY
  have HBB := Lib.hid hB
  have HRR := Lib.hid hR2
  have HCC := Lib.hid hC2
  clear hB hR2 hC2
  go_wp2_with fail
  go_loopw [60] (fun i wr => ∃ j : Nat, j ≤ 3 ∧ i = .int .i64 (j : Int) ∧ Ch w.heap.size none1 w wr ∧ Blk wr G2 22 (tcs ps) ∧ Blk wr (B + 1) 23 [.int .u8 r0, .int .u8 r1, .int .u8 r2]) (fun i _ => 3 - (intOf i).toNat)
  case atStart => exact ⟨0, by omega, rfl, HCC.out, HBB.out, HRR.out⟩
  case round =>
    clear HCC HBB HRR
    obtain ⟨i, hi, rfl, hC, hB, hR⟩ := hrel
    have HC := Lib.hid hC
    have HB := Lib.hid hB
    have HR := Lib.hid hR
    clear hC hB hR
    by_cases hlt : i < 3
    · obtain ⟨p, hp⟩ : ∃ p, ps[i]? = some p := ⟨ps[i]'(by rw [HLN.out]; exact hlt), List.getElem?_eq_getElem _⟩
      have hin := HRG.out p (List.mem_of_getElem? hp)
      obtain ⟨z0, z1, z2⟩ := tcs_get ps i p hp
      have c0 := (HB.out.cell (i * 3)).trans z0
      have c1 := (HB.out.cell (i * 3 + 1)).trans z1
      have c2 := (HB.out.cell (i * 3 + 2)).trans z2
      obtain ⟨x, y, z⟩ := p
      simp only at hin c0 c1 c2
      obtain ⟨r, b, h1, h2, h3⟩ := both_num x y z hin
      have H1 := Lib.hid h1
      have H2 := Lib.hid h2
      have H3 := Lib.hid h3
      have HX := Lib.hid (Blk.new wr #[iz x, iz y, iz z] 22)
      have HC1 := Lib.hid (HC.out.alloc HC.out.size (.cells #[iz x, iz y, iz z] 22 (0, 0)))
      have HB1 := Lib.hid (HB.out.alloc (.cells #[iz x, iz y, iz z] 22 (0, 0)))
      have HR1 := Lib.hid (HR.out.alloc (.cells #[iz x, iz y, iz z] 22 (0, 0)))
      clear z0 z1 z2 hp hin h1 h2 h3
      go_wp2_with fail
      with_reducible refine (H1.out _ (HW.out.ch HC1.out)).mono ?_
      rintro e wb1 ⟨rfl, hC⟩
      have hX := hC.blk HX.out HX.out.lt (fun q => q)
      have d0 := hX.cell 0
      have d1 := hX.cell 1
      have d2 := hX.cell 2
      have HX2 := Lib.hid hX
      have HB2 := Lib.hid (hC.blk HB1.out HB1.out.lt (fun q => q))
      have HR2 := Lib.hid (hC.blk HR1.out HR1.out.lt (fun q => q))
      have HC2 := Lib.hid (HC1.out.trans (hC.mono HC1.out.size (fun _ _ q => q)))
      clear hC hX
      go_wp2_with fail
      clear d0 d1 d2
      with_reducible refine (H2.out _ (HW.out.ch HC2.out)).mono ?_
      rintro e wb2 ⟨rfl, hC⟩
      have hX := hC.blk HX2.out HX2.out.lt (fun q => q)
      have d0 := hX.cell 0
      have d1 := hX.cell 1
      have d2 := hX.cell 2
      have HX3 := Lib.hid hX
      have HB3 := Lib.hid (hC.blk HB2.out HB2.out.lt (fun q => q))
      have HR3 := Lib.hid (hC.blk HR2.out HR2.out.lt (fun q => q))
      have HC3 := Lib.hid (HC2.out.trans (hC.mono HC2.out.size (fun _ _ q => q)))
      clear hC hX
      go_wp2_with fail
      clear d0 d1 d2
      with_reducible refine (H3.out _ (HW.out.ch HC3.out)).mono ?_
      rintro e wb3 ⟨rfl, hC⟩
      have hX := hC.blk HX3.out HX3.out.lt (fun q => q)
      have HX4 := Lib.hid hX
      have HB4 := Lib.hid (hC.blk HB3.out HB3.out.lt (fun q => q))
      have HR4 := Lib.hid (hC.blk HR3.out HR3.out.lt (fun q => q))
      have HC4 := Lib.hid (HC3.out.trans (hC.mono HC3.out.size (fun _ _ q => q)))
      clear hC hX
      go_wp2_with fail
      go_roundw
      case rel => exact ⟨i + 1, by omega, by go_num, HC4.out, HB4.out, HR4.out⟩
      case measure => simp [intOf]; omega
    · have hi3 : i = 3 := by omega
      subst hi3
      clear hlt hi HB
      have e0 := HR.out.cell 0
      have e1 := HR.out.cell 1
      go_wp2_with fail
      have hB := Blk.new wr #[iz n, iz k, iz (3652058 - r0), iz r1] 3
      have hC := HC.out.alloc HC.out.size (.cells #[iz n, iz k, iz (3652058 - r0), iz r1] 3 (0, 0))
      obtain ⟨G3, hG3⟩ : ∃ G3, wr.heap.size = G3 := ⟨_, rfl⟩
      obtain ⟨W3, hW3⟩ : ∃ W3, wr.alloc (.cells #[iz n, iz k, iz (3652058 - r0), iz r1] 3 (0, 0)) = W3 := ⟨_, rfl⟩
      rw [hW3, hG3] at hB
      rw [hW3] at hC ⊢
      rw [hG3]
      clear hW3 hG3 HC HR e0 e1 hk
      obtain ⟨vs, hvs⟩ : ∃ vs : List Int, [n, k, 3652058 - r0, r1] = vs := ⟨_, rfl⟩
      have hl4 : vs.length = 4 := by rw [← hvs]; rfl
      have hB : Blk W3 G3 3 (vs.map iz) := by rw [← hvs]; exact hB
      have HL4 := Lib.hid hl4
      have HB4 := Lib.hid hB
      have HC4 := Lib.hid hC
      clear hvs hl4 hB hC
      go_loopw [116] (fun i wr => ∃ j : Nat, j ≤ 4 ∧ i = .int .i64 (j : Int) ∧ Ch w.heap.size none1 w wr ∧ Blk wr G3 3 (vs.map iz)) (fun i _ => 4 - (intOf i).toNat)
      case atStart => exact ⟨0, by omega, rfl, HC4.out, HB4.out⟩
      case round =>
        clear HC4 HB4
        obtain ⟨i, hi, rfl, hC, hB⟩ := hrel
        have HC1 := Lib.hid hC
        have HB1 := Lib.hid hB
        clear hC hB
        by_cases hlt : i < 4
        · obtain ⟨x, hx⟩ : ∃ x, vs[i]? = some x := ⟨vs[i]'(by rw [HL4.out]; exact hlt), List.getElem?_eq_getElem _⟩
          have c0 := (HB1.out.cell i).trans (show (vs.map iz)[i]? = some (iz x) by rw [List.getElem?_map, hx]; rfl)
          obtain ⟨y, m, d, b, h1, h2⟩ := both_civ x
          have H1 := Lib.hid h1
          have H2 := Lib.hid h2
          clear hx h1 h2
          go_wp2_with fail
          with_reducible refine (H1.out _ (HW.out.ch HC1.out)).mono ?_
          rintro e wb1 ⟨rfl, hC⟩
          have HB2 := Lib.hid (hC.blk HB1.out HB1.out.lt (fun q => q))
          have HC2 := Lib.hid (HC1.out.trans (hC.mono HC1.out.size (fun _ _ q => q)))
          clear hC c0
          go_wp2_with fail
          with_reducible refine (H2.out _ (HW.out.ch HC2.out)).mono ?_
          rintro e wb2 ⟨rfl, hC⟩
          have HB3 := Lib.hid (hC.blk HB2.out HB2.out.lt (fun q => q))
          have HC3 := Lib.hid (HC2.out.trans (hC.mono HC2.out.size (fun _ _ q => q)))
          clear hC
          go_wp2_with fail
          go_roundw
          case rel =>
            repeat apply Exists.intro
            exact ⟨⟨i + 1, by omega, by go_num, HC3.out, HB3.out⟩, rfl⟩
          case measure => simp [intOf]; omega
        · have hi4 : i = 4 := by omega
          subst hi4
          go_wp2_with fail
          go_ret
          exact ⟨rfl, HC1.out⟩
end Go.Proofs.YteinonhpakfkcaaDoor
