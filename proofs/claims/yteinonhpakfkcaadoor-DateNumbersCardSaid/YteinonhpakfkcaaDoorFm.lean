/- DateMonths: the walk. -/
import Derived.Test.YteinonhpakfkcaaDoorDn
import Derived.Laws.BitsLemmas
namespace Go.Proofs.YteinonhpakfkcaaDoor
open Go.RowKit Go.Shelf
theorem band_bd (n : Int) (m : Nat) (hm : m ≤ 4194303) : 0 ≤ bits .and .i64 n (m : Int) ∧ bits .and .i64 n (m : Int) ≤ (m : Int) := by
  have h : ((BitVec.ofInt 64 n) &&& (BitVec.ofInt 64 (m : Int))).toNat ≤ m := by
    rw [BitVec.toNat_and]
    refine Nat.le_trans Nat.and_le_right ?_
    rw [BitVec.toNat_ofInt]
    omega
  show 0 ≤ IntKind.i64.wrap ((((BitVec.ofInt 64 n) &&& (BitVec.ofInt 64 (m : Int))).toNat : Nat) : Int) ∧ IntKind.i64.wrap ((((BitVec.ofInt 64 n) &&& (BitVec.ofInt 64 (m : Int))).toNat : Nat) : Int) ≤ (m : Int)
  rw [IntWalk.i64_in _ (by omega)]
  omega
/-- Pairs, one behind another. -/
def pcs (l : List (Int × Int)) : List Value := l.flatMap fun p => [iz p.1, iz p.2]
theorem pcs_get (l : List (Int × Int)) (k : Nat) (p : Int × Int) (h : l[k]? = some p) : (pcs l)[k * 2]? = some (iz p.1) ∧ (pcs l)[k * 2 + 1]? = some (iz p.2) := by
  induction l generalizing k with
  | nil => simp at h
  | cons q l ih =>
    cases k with
    | zero =>
      simp at h
      subst h
      exact ⟨rfl, rfl⟩
    | succ k =>
      have := ih k (by simpa using h)
      have e : pcs (q :: l) = iz q.1 :: iz q.2 :: pcs l := rfl
      rw [e, show (k + 1) * 2 = k * 2 + 1 + 1 by omega]
      simpa using this
abbrev i64i (x : Int) : Prop := -9223372036854775808 ≤ x ∧ x ≤ 9223372036854775807
/-- Both functions Months answer alike. -/
theorem both_mon (n k : Int) (hk : i64i k) : ∃ (r : Int) (b : Bool), AnsW 23 #[iz n, iz k] (.tuple #[iz r, .bool b]) ∧ AnsW 24 #[iz n, iz k] (.tuple #[iz r, .bool b]) :=
  ⟨_, _, C_Mon hk.1 hk.2 rfl rfl, R_Mon hk.1 hk.2 rfl rfl⟩
set_option maxRecDepth 100000 in
set_option maxHeartbeats 3200000 in
theorem months_core (n m : Int) (w : World) (hn : i64i n) (hm : i64i m) (hw : Tw w) :
    Calls Tryd.prog 7 #[iz n, iz m] w (Yd w (.bool true)) := by
  have b1 := band_bd n 4194303 (by omega)
  have b2 := band_bd m 8191 (by omega)
  have b3 := band_bd m 3 (by omega)
  rw [show ((4194303 : Nat) : Int) = 4194303 from rfl] at b1
  rw [show ((8191 : Nat) : Int) = 8191 from rfl] at b2
  rw [show ((3 : Nat) : Int) = 3 from rfl] at b3
  obtain ⟨k, hk⟩ : ∃ k, bits .and .i64 n 4194303 = k := ⟨_, rfl⟩
  obtain ⟨a, ha⟩ : ∃ a, bits .and .i64 m 8191 = a := ⟨_, rfl⟩
  obtain ⟨c, hc⟩ : ∃ c, bits .and .i64 m 3 = c := ⟨_, rfl⟩
  rw [hk] at b1
  rw [ha] at b2
  rw [hc] at b3
  obtain ⟨k0, k1⟩ := b1
  obtain ⟨a0, a1⟩ := b2
  obtain ⟨c0, c1⟩ := b3
  obtain ⟨m0, m1⟩ := hm
  obtain ⟨n0, n1⟩ := hn
  have HW := Lib.hid hw
  have H0 := Lib.hid sanity3
  clear hw
  have HC := Lib.hid (Ch.refl w.heap.size none1 w)
  go_enter Tryd.func7, Tryd.ntmps7
  go_wp2_with fail
  with_reducible refine (H0.out _ (HW.out.ch HC.out)).mono ?_
  rintro e w0 ⟨rfl, hC⟩
  have HC2 := Lib.hid (HC.out.trans (hC.mono HC.out.size (fun _ _ q => q)))
  clear hC HC
  have HC := HC2
  clear HC2
  go_wp2_with fail
  obtain ⟨ps, hps⟩ : ∃ ps : List (Int × Int), [(n, m), (k, m), (k, a), (k, -a), (k, c)] = ps := ⟨_, rfl⟩
  have hlen : ps.length = 5 := by rw [← hps]; rfl
  have hrg : ∀ p ∈ ps, i64i p.2 := by
    rw [← hps]
    intro p hp
    simp only [List.mem_cons, List.mem_singleton, List.not_mem_nil, or_false] at hp
    unfold i64i
    rcases hp with rfl | rfl | rfl | rfl | rfl <;> simp only <;> omega
  have hB : Blk (w0.alloc (.cells #[iz n, iz m, iz k, iz m, iz k, iz a, iz k, iz (-a), iz k, iz c] 37)) w0.heap.size 37 (pcs ps) := by
    rw [← hps]; exact Blk.new w0 _ _
  have hC1 := HC.out.alloc HC.out.size (.cells #[iz n, iz m, iz k, iz m, iz k, iz a, iz k, iz (-a), iz k, iz c] 37 (0, 0))
  obtain ⟨G, hG⟩ : ∃ G, w0.heap.size = G := ⟨_, rfl⟩
  obtain ⟨W1, hW1⟩ : ∃ W1, w0.alloc (.cells #[iz n, iz m, iz k, iz m, iz k, iz a, iz k, iz (-a), iz k, iz c] 37 (0, 0)) = W1 := ⟨_, rfl⟩
  have hB' : Blk W1 G 37 (pcs ps) := by rw [← hW1, ← hG]; exact hB
  rw [hW1] at hC1 ⊢
  rw [hG]
  have HR := Lib.hid hrg
  have HLN := Lib.hid hlen
  clear hrg hlen hps hB hG hW1 hk ha hc HC
  go_loopw [37] (fun i wr => ∃ j : Nat, j ≤ 5 ∧ i = .int .i64 (j : Int) ∧ Ch w.heap.size none1 w wr ∧ Blk wr G 37 (pcs ps)) (fun i _ => 5 - (intOf i).toNat)
  case atStart => exact ⟨0, by omega, rfl, hC1, hB'⟩
  case round =>
    clear hC1 hB'
    obtain ⟨j, hj, rfl, hC, hB⟩ := hrel
    have HC := Lib.hid hC
    have HB := Lib.hid hB
    clear hC hB
    by_cases hlt : j < 5
    · obtain ⟨p, hp⟩ : ∃ p, ps[j]? = some p := ⟨ps[j]'(by rw [HLN.out]; exact hlt), List.getElem?_eq_getElem _⟩
      have hin := HR.out p (List.mem_of_getElem? hp)
      obtain ⟨q0, q1⟩ := pcs_get ps j p hp
      have c0 := (HB.out.cell (j * 2)).trans q0
      have c1 := (HB.out.cell (j * 2 + 1)).trans q1
      obtain ⟨x, y⟩ := p
      simp only at hin c0 c1
      obtain ⟨r, b, h1, h2⟩ := both_mon x y hin
      have H1 := Lib.hid h1
      have H2 := Lib.hid h2
      have HX := Lib.hid (Blk.new wr #[iz x, iz y] 37)
      have HC1 := Lib.hid (HC.out.alloc HC.out.size (.cells #[iz x, iz y] 37 (0, 0)))
      have HB1 := Lib.hid (HB.out.alloc (.cells #[iz x, iz y] 37 (0, 0)))
      clear q0 q1 hp hin h1 h2
      go_wp2_with fail
      with_reducible refine (H1.out _ (HW.out.ch HC1.out)).mono ?_
      rintro e wb1 ⟨rfl, hC⟩
      have hX := hC.blk HX.out HX.out.lt (fun q => q)
      have d0 := hX.cell 0
      have d1 := hX.cell 1
      have HX2 := Lib.hid hX
      have HB2 := Lib.hid (hC.blk HB1.out HB1.out.lt (fun q => q))
      have HC2 := Lib.hid (HC1.out.trans (hC.mono HC1.out.size (fun _ _ q => q)))
      clear hC hX
      go_wp2_with fail
      clear d0 d1
      with_reducible refine (H2.out _ (HW.out.ch HC2.out)).mono ?_
      rintro e wb2 ⟨rfl, hC⟩
      have hX := hC.blk HX2.out HX2.out.lt (fun q => q)
      have HX3 := Lib.hid hX
      have HB3 := Lib.hid (hC.blk HB2.out HB2.out.lt (fun q => q))
      have HC3 := Lib.hid (HC2.out.trans (hC.mono HC2.out.size (fun _ _ q => q)))
      clear hC hX
      go_wp2_with fail
      go_roundw
      case rel => exact ⟨j + 1, by omega, by go_num, HC3.out, HB3.out⟩
      case measure => simp [intOf]; omega
    · have hj5 : j = 5 := by omega
      subst hj5
      go_wp2_with fail
      go_ret
      exact ⟨rfl, HC.out⟩
end Go.Proofs.YteinonhpakfkcaaDoor
