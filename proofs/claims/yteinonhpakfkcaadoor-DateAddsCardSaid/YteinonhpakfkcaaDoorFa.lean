/- DateAdds: the walk. -/
import Derived.Test.YteinonhpakfkcaaDoorFm
namespace Go.Proofs.YteinonhpakfkcaaDoor
open Go.RowKit Go.Shelf
/-- Both functions Add answer alike, both functions Weekday, too. -/
theorem both_add (n k : Int) (hk : i64i k) : ∃ (r : Int) (b : Bool), AnsW 19 #[iz n, iz k] (.tuple #[iz r, .bool b]) ∧ AnsW 20 #[iz n, iz k] (.tuple #[iz r, .bool b]) :=
  ⟨_, _, C_Add hk.1 hk.2 rfl rfl, R_Add hk.1 hk.2 rfl rfl⟩
theorem both_wd (n : Int) : ∃ (r : Int) (b : Bool), AnsW 21 #[iz n] (.tuple #[iz r, .bool b]) ∧ AnsW 22 #[iz n] (.tuple #[iz r, .bool b]) :=
  ⟨_, _, C_Wd rfl rfl, R_Wd rfl rfl⟩
set_option maxRecDepth 100000 in
set_option maxHeartbeats 3200000 in
theorem adds_core (n m : Int) (w : World) (hn : i64i n) (hm : i64i m) (hw : Tw w) :
    Calls Tryd.prog 6 #[iz n, iz m] w (Yd w (.bool true)) := by
  have b1 := band_bd n 2097151 (by omega)
  have b2 := band_bd m 8191 (by omega)
  have b3 := band_bd m 1 (by omega)
  rw [show ((2097151 : Nat) : Int) = 2097151 from rfl] at b1
  rw [show ((8191 : Nat) : Int) = 8191 from rfl] at b2
  rw [show ((1 : Nat) : Int) = 1 from rfl] at b3
  obtain ⟨k, hk⟩ : ∃ k, bits .and .i64 n 2097151 = k := ⟨_, rfl⟩
  obtain ⟨a, ha⟩ : ∃ a, bits .and .i64 m 8191 = a := ⟨_, rfl⟩
  obtain ⟨c, hc⟩ : ∃ c, bits .and .i64 m 1 = c := ⟨_, rfl⟩
  rw [hk] at b1
  rw [ha] at b2
  rw [hc] at b3
  obtain ⟨k0, k1⟩ := b1
  obtain ⟨a0, a1⟩ := b2
  obtain ⟨c0, c1⟩ := b3
  obtain ⟨m0, m1⟩ := hm
  obtain ⟨n0, n1⟩ := hn
  have r0 : Cal.right k = true := Cal.right_iff.2 (by omega)
  have r7 : Cal.right (k + 7) = true := Cal.right_iff.2 (by omega)
  have r1 : Cal.right (k + 1) = true := Cal.right_iff.2 (by omega)
  have HW := Lib.hid hw
  have H0 := Lib.hid sanity3
  have HA := Lib.hid (C_Wd (n := k) (k := k % 7 + 1) (b := true) r0 rfl)
  have HB0 := Lib.hid (C_Wd (n := k + 7) (k := k % 7 + 1) (b := true) r7 (by rw [if_pos rfl]; omega))
  have HC0 := Lib.hid (C_Wd (n := k + 1) (k := (k % 7 + 1) % 7 + 1) (b := true) r1 (by rw [if_pos rfl]; omega))
  clear hw r0 r7 r1
  have HC := Lib.hid (Ch.refl w.heap.size none1 w)
  go_enter Tryd.func6, Tryd.ntmps6
  go_wp2_with fail
  with_reducible refine (H0.out _ (HW.out.ch HC.out)).mono ?_
  rintro e w0 ⟨rfl, hC⟩
  have HC2 := Lib.hid (HC.out.trans (hC.mono HC.out.size (fun _ _ q => q)))
  clear hC HC
  have HC := HC2
  clear HC2
  go_wp2_with fail
  obtain ⟨ps, hps⟩ : ∃ ps : List (Int × Int), [(n, m), (k, m), (k, a), (k, -a), (3652058, c), (0, -c)] = ps := ⟨_, rfl⟩
  have hlen : ps.length = 6 := by rw [← hps]; rfl
  have hrg : ∀ p ∈ ps, i64i p.2 := by
    rw [← hps]
    intro p hp
    simp only [List.mem_cons, List.mem_singleton, List.not_mem_nil, or_false] at hp
    unfold i64i
    rcases hp with rfl | rfl | rfl | rfl | rfl | rfl <;> simp only <;> omega
  have hB : Blk (w0.alloc (.cells #[iz n, iz m, iz k, iz m, iz k, iz a, iz k, iz (-a), iz 3652058, iz c, iz 0, iz (-c)] 37 (0, 0))) w0.heap.size 37 (pcs ps) := by
    rw [← hps]; exact Blk.new w0 _ _
  have hC1 := HC.out.alloc HC.out.size (.cells #[iz n, iz m, iz k, iz m, iz k, iz a, iz k, iz (-a), iz 3652058, iz c, iz 0, iz (-c)] 37 (0, 0))
  obtain ⟨G, hG⟩ : ∃ G, w0.heap.size = G := ⟨_, rfl⟩
  obtain ⟨W1, hW1⟩ : ∃ W1, w0.alloc (.cells #[iz n, iz m, iz k, iz m, iz k, iz a, iz k, iz (-a), iz 3652058, iz c, iz 0, iz (-c)] 37 (0, 0)) = W1 := ⟨_, rfl⟩
  have hB' : Blk W1 G 37 (pcs ps) := by rw [← hW1, ← hG]; exact hB
  rw [hW1] at hC1 ⊢
  rw [hG]
  have HR := Lib.hid hrg
  have HLN := Lib.hid hlen
  clear hrg hlen hps hB hG hW1 hk ha hc HC
  go_loopw [50] (fun i wr => ∃ j : Nat, j ≤ 6 ∧ i = .int .i64 (j : Int) ∧ Ch w.heap.size none1 w wr ∧ Blk wr G 37 (pcs ps)) (fun i _ => 6 - (intOf i).toNat)
  case atStart => exact ⟨0, by omega, rfl, hC1, hB'⟩
  case round =>
    clear hC1 hB'
    obtain ⟨j, hj, rfl, hC, hB⟩ := hrel
    have HC := Lib.hid hC
    have HB := Lib.hid hB
    clear hC hB
    by_cases hlt : j < 6
    · obtain ⟨p, hp⟩ : ∃ p, ps[j]? = some p := ⟨ps[j]'(by rw [HLN.out]; exact hlt), List.getElem?_eq_getElem _⟩
      have hin := HR.out p (List.mem_of_getElem? hp)
      obtain ⟨q0, q1⟩ := pcs_get ps j p hp
      have c0 := (HB.out.cell (j * 2)).trans q0
      have c1 := (HB.out.cell (j * 2 + 1)).trans q1
      obtain ⟨x, y⟩ := p
      simp only at hin c0 c1
      obtain ⟨r, b, h1, h2⟩ := both_add x y hin
      obtain ⟨r', b', h3, h4⟩ := both_wd x
      have H1 := Lib.hid h1
      have H2 := Lib.hid h2
      have H3 := Lib.hid h3
      have H4 := Lib.hid h4
      have HX := Lib.hid (Blk.new wr #[iz x, iz y] 37)
      have HC1 := Lib.hid (HC.out.alloc HC.out.size (.cells #[iz x, iz y] 37 (0, 0)))
      have HB1 := Lib.hid (HB.out.alloc (.cells #[iz x, iz y] 37 (0, 0)))
      clear q0 q1 hp hin h1 h2 h3 h4
      go_wp2_with fail
      with_reducible refine (H1.out _ (HW.out.ch HC1.out)).mono ?_
      rintro e wb1 ⟨rfl, hC⟩
      have hX := hC.blk HX.out HX.out.lt (fun q => q)
      have d0 := hX.cell 0
      have d1 := hX.cell 1
      have HX2 := Lib.hid hX
      have HB2 := Lib.hid (hC.blk HB1.out HB1.out.lt (fun q => q))
      have HC2 := Lib.hid (HC1.out.trans (hC.mono HC1.out.size (fun _ _ q => q)))
      clear hC hX
      go_wp2_with fail
      clear d0 d1
      with_reducible refine (H2.out _ (HW.out.ch HC2.out)).mono ?_
      rintro e wb2 ⟨rfl, hC⟩
      have hX := hC.blk HX2.out HX2.out.lt (fun q => q)
      have d0 := hX.cell 0
      have d1 := hX.cell 1
      have HX3 := Lib.hid hX
      have HB3 := Lib.hid (hC.blk HB2.out HB2.out.lt (fun q => q))
      have HC3 := Lib.hid (HC2.out.trans (hC.mono HC2.out.size (fun _ _ q => q)))
      clear hC hX
      go_wp2_with fail
      clear d0 d1
      with_reducible refine (H3.out _ (HW.out.ch HC3.out)).mono ?_
      rintro e wb3 ⟨rfl, hC⟩
      have hX := hC.blk HX3.out HX3.out.lt (fun q => q)
      have d0 := hX.cell 0
      have d1 := hX.cell 1
      have HX4 := Lib.hid hX
      have HB4 := Lib.hid (hC.blk HB3.out HB3.out.lt (fun q => q))
      have HC4 := Lib.hid (HC3.out.trans (hC.mono HC3.out.size (fun _ _ q => q)))
      clear hC hX
      go_wp2_with fail
      clear d0 d1
      with_reducible refine (H4.out _ (HW.out.ch HC4.out)).mono ?_
      rintro e wb4 ⟨rfl, hC⟩
      have hX := hC.blk HX4.out HX4.out.lt (fun q => q)
      have HX5 := Lib.hid hX
      have HB5 := Lib.hid (hC.blk HB4.out HB4.out.lt (fun q => q))
      have HC5 := Lib.hid (HC4.out.trans (hC.mono HC4.out.size (fun _ _ q => q)))
      clear hC hX
      go_wp2_with fail
      go_roundw
      case rel => exact ⟨j + 1, by omega, by go_num, HC5.out, HB5.out⟩
      case measure => simp [intOf]; omega
    · have hj5 : j = 6 := by omega
      subst hj5
      clear HB
      go_wp2_with fail
      with_reducible refine (HA.out _ (HW.out.ch HC.out)).mono ?_
      rintro e w0 ⟨rfl, hC⟩
      have HC2 := Lib.hid (HC.out.trans (hC.mono HC.out.size (fun _ _ q => q)))
      clear hC HC
      have HC := HC2
      clear HC2
      go_wp2_with fail
      with_reducible refine (HB0.out _ (HW.out.ch HC.out)).mono ?_
      rintro e w1 ⟨rfl, hC⟩
      have HC2 := Lib.hid (HC.out.trans (hC.mono HC.out.size (fun _ _ q => q)))
      clear hC HC
      have HC := HC2
      clear HC2
      go_wp2_with fail
      with_reducible refine (HC0.out _ (HW.out.ch HC.out)).mono ?_
      rintro e w2 ⟨rfl, hC⟩
      have HC2 := Lib.hid (HC.out.trans (hC.mono HC.out.size (fun _ _ q => q)))
      clear hC HC
      have HC := HC2
      clear HC2
      go_wp2_with fail
      go_ret
      exact ⟨rfl, HC.out⟩
end Go.Proofs.YteinonhpakfkcaaDoor
