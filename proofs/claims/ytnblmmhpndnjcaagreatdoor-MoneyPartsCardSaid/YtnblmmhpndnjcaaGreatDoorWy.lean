/- MoneyParts: the core. -/
import Derived.Test.YtnblmmhpndnjcaaGreatDoorWt
import Derived.Test.YtnblmmhpndnjcaaGreatDoorWs
import Derived.Test.YtnblmmhpndnjcaaGreatDoorWv
import Derived.Test.YtnblmmhpndnjcaaGreatDoorWu
import Derived.Test.YtnblmmhpndnjcaaGreatDoorWj
import Derived.Test.YtnblmmhpndnjcaaGreatDoorAy
import Derived.Test.YtnblmmhpndnjcaaGreatDoorWz
namespace Go.Proofs.YtnblmmhpndnjcaaGreatDoor
open Go.RowKit
set_option maxRecDepth 100000 in
set_option maxHeartbeats 12800000 in
theorem parts_none {c0 : Int} {a : Option Addr} {n c N : Nat} {lw : List T3} {sT sS : Bool} {nT dT nS dS : List UInt8} (w0 : World) (ht0 : Tm w0)
    (h0 : AnsM 11 #[] (.bool true)) (hw : ∀ V, Ch w0.heap.size none1 w0 V → Calls Tryz.prog 34 #[.slice a n c] V (Yw V lw)) (h1 : AnsM 14 #[.int .i64 c0] (Rv sT nT dT))
    (hs : ∀ (V : World) p m q, Tm V → Rs V p m lw → Calls Tryz.prog 19 #[Rv sT nT dT, .slice p m q] V fun e V' => ∃ p' c', e = .returned (.tuple #[.slice p' 0 c', .bool false]) ∧ Ch V.heap.size none1 V V')
    (hsu : ∀ (V : World) p q, Rs V p N lw → Calls Tryz.prog 36 #[.slice p N q] V (Yld V (Rv sS nS dS))) (hsg : Ans 35 #[Rv sS nS dS] (.int .i64 0))
    (hlw : lw.length = N) :
    Calls Tryz.prog 10 #[.int .i64 c0, .slice a n c] w0 (Yld w0 (.bool true)) := by
  have HT0 := Lib.hid ht0
  have HW := Lib.hid hw
  have H0 := Lib.hid h0
  have H1 := Lib.hid h1
  have HS := Lib.hid hs
  have HSU := Lib.hid hsu
  have HSG := Lib.hid hsg
  have HLW := Lib.hid hlw
  clear ht0 hw h0 h1 hs hsu hsg hlw
  go_enter Tryz.func10, Tryz.ntmps10
  go_wp2_with fail
  refine (H0.out _ HT0.out).mono ?_
  rintro e w1 ⟨rfl, hC1⟩
  have HC1 := Lib.hid hC1
  clear hC1
  go_wp2_with fail
  refine (HW.out _ HC1.out).mono ?_
  rintro e w2 ⟨pw, nw, cw, rfl, hRw, hC2⟩
  have HC2 := Lib.hid (HC1.out.step0 hC2 (Nat.le_refl _))
  have hq : N = nw := by rw [← hRw.len, HLW.out]
  subst hq
  have HRW := Lib.hid hRw
  clear hC2 hRw HC1
  go_wp2_with fail
  refine (H1.out _ (HT0.out.ch HC2.out)).mono ?_
  rintro e w3 ⟨rfl, hC3⟩
  have HC3 := Lib.hid (HC2.out.step0 hC3 (Nat.le_refl _))
  have HRW2 := Lib.hid (HRW.out.ch hC3)
  clear hC3 HRW HC2
  go_wp2_with fail
  have HBT := Lib.hid (Blk.new w3 #[.bool sT, S nT, S dT] 26)
  have HRW := Lib.hid (HRW2.out.ch (Ch.alloc0 (.cells #[.bool sT, S nT, S dT] 26 (0, 0))))
  have HC4 := Lib.hid (HC3.out.alloc (HC3.out.size) (.cells #[.bool sT, S nT, S dT] 26 (0, 0)))
  obtain ⟨W3, hW3⟩ : ∃ V, w3.alloc (.cells #[.bool sT, S nT, S dT] 26 (0, 0)) = V := ⟨_, rfl⟩
  rw [hW3] at HBT HRW HC4 ⊢
  obtain ⟨TB, hTB⟩ : ∃ A, w3.heap.size = A := ⟨_, rfl⟩
  rw [hTB] at HBT ⊢
  clear hW3 hTB HRW2 HC3
  refine (HS.out _ _ _ _ (HT0.out.ch HC4.out) HRW.out).mono ?_
  rintro e w ⟨pp, cp, rfl, hC⟩
  have HCC := Lib.hid (HC4.out.step0 hC (Nat.le_refl _))
  have HRW2 := Lib.hid (HRW.out.ch hC)
  clear hC HBT HRW HC4
  go_wp2_with fail
  refine (HSU.out w _ _ HRW2.out).mono ?_
  rintro e w5 ⟨rfl, hC⟩
  have HC5 := Lib.hid (HCC.out.step0 hC (Nat.le_refl _))
  clear hC
  go_wp2_with fail
  refine (HSG.out _).mono ?_
  rintro e w6 ⟨rfl, hC⟩
  have HC6 := Lib.hid (HC5.out.step0 hC (Nat.le_refl _))
  clear hC
  go_wp2_with fail
  go_ret
  exact ⟨rfl, HC6.out⟩
end Go.Proofs.YtnblmmhpndnjcaaGreatDoor
namespace Go.Proofs.YtnblmmhpndnjcaaGreatDoor
open Go.RowKit
theorem abq_nonneg (q : Rat) : 0 ≤ abq q := by
  unfold abq
  split
  · grind
  · grind
theorem abq_size {q : Rat} {K : Nat} (h : Szq q K) : Szq (abq q) K := by
  unfold abq
  split
  · exact h.neg
  · exact h
theorem sign_nonneg {q : Rat} {s : Bool} {n d : List UInt8} (h : Is q s n d) (h0 : 0 ≤ q) : s = false := by
  rw [← h.sgn]
  have := Rat.num_nonneg.2 h0
  exact decide_eq_false (by omega)
theorem is_abs {q : Rat} {s : Bool} {n d : List UInt8} (h : Is q s n d) : Is (abq q) false n d := by
  cases s with
  | false =>
    have h1 := nneg_lt h.sgn
    unfold abq
    rw [if_neg h1]
    exact h
  | true =>
    have h1 := neg_lt h.sgn
    have h2 : abq q = -q := by unfold abq; rw [if_pos h1]
    have h3 : 0 ≤ -q := by grind
    have h4 := Rat.num_nonneg.2 h3
    rw [h2]
    exact ⟨decide_eq_false (by omega), by rw [Rat.neg_num, Int.natAbs_neg]; exact h.num, by rw [Rat.neg_den]; exact h.den⟩
theorem sgr_below {q : Rat} (h : q < 0) : sgr q < 0 := by
  have h1 : 0 < -q := by grind
  have h2 := sgr_one h1
  rw [sgr_neg] at h2
  omega
theorem sgr_int (z : Int) : sgr (z : Rat) = Int.sign z := by unfold sgr; rw [Rat.num_intCast]
theorem sgr_rng2 (z : Int) : -1 ≤ Int.sign z ∧ Int.sign z ≤ 1 := by
  rcases Int.lt_trichotomy z 0 with h | h | h
  · rw [Int.sign_eq_neg_one_of_neg h]; decide
  · rw [h]; decide
  · rw [Int.sign_eq_one_of_pos h]; decide
theorem weights3_at {xs : List (Int × Int × Int)} {t : T3} (h : t ∈ weights3 xs) : ∃ q, 0 ≤ q ∧ Szq q 16 ∧ t = pt q := by
  unfold weights3 at h
  obtain ⟨x, -, rfl⟩ := List.mem_map.1 h
  exact ⟨_, abq_nonneg _, abq_size (mdq_size _ _ _), rfl⟩
theorem weights3_bad (xs : List (Int × Int × Int)) : bad (weights3 xs) = false := by
  unfold bad
  rw [List.any_eq_false]
  intro t ht
  obtain ⟨q, -, -, rfl⟩ := weights3_at ht
  rw [rightR_of (pt_is q)]
  simp
theorem weights3_negs (xs : List (Int × Int × Int)) : negs (weights3 xs) = false := by
  unfold negs
  rw [List.any_eq_false]
  intro t ht
  obtain ⟨q, h0, -, rfl⟩ := weights3_at ht
  rw [sign_nonneg (pt_is q) h0]
  simp
theorem weights3_len16 {xs : List (Int × Int × Int)} : ∀ t ∈ weights3 xs, t.2.1.length ≤ 16 ∧ t.2.2.length ≤ 16 := fun t ht => by
  obtain ⟨q, -, hs, rfl⟩ := weights3_at ht
  exact hs.len (pt_is q)
theorem sv_add (s : Bool) (a b : Nat) : sv s (a + b) = sv s a + sv s b := by
  cases s <;> simp only [sv, if_true, Bool.false_eq_true, if_false] <;> omega
theorem cent_mq (s : Bool) (V : Nat) : mq s V 100 = ((sv s V : Int) : Rat) * (1 / 100) := by
  unfold mq
  rw [Rat.mkRat_eq_div]
  grind
theorem rsum_mq (s : Bool) : ∀ l : List Nat, rsum (l.map fun y => mq s y 100) = mq s l.sum 100
  | [] => by
    rw [cent_mq]
    cases s <;> decide +kernel
  | y :: l => by
    rw [List.map_cons, List.sum_cons]
    show mq s y 100 + rsum (l.map fun y => mq s y 100) = _
    rw [rsum_mq s l, cent_mq, cent_mq, cent_mq, sv_add, Rat.intCast_add]
    grind
/-- The parts, as they are made. -/
def prt (c0 : Int) (X : List Nat) : List T3 := amts (decide (c0 < 0)) ((partsOf c0.natAbs X).map nb)
theorem prt_map (c0 : Int) (X : List Nat) : prt c0 X = (partsOf c0.natAbs X).map fun y => pt (mq (decide (c0 < 0)) y 100) := by
  unfold prt amts
  rw [List.map_map]
  congr 1
  funext y
  show pt (mq _ (bv (nb y)) 100) = _
  rw [bv_nb]
theorem prt_len (c0 : Int) (X : List Nat) : (prt c0 X).length = X.length := by rw [prt_map, List.length_map, partsOf_len]
theorem prt_sum {c0 : Int} {X : List Nat} (hs : 0 < X.sum) : sumQ (prt c0 X) = (c0 : Rat) * (1 / 100) := by
  rw [sumQ_rsum, prt_map, List.map_map]
  have h : (partsOf c0.natAbs X).map (rof ∘ fun y => pt (mq (decide (c0 < 0)) y 100)) = (partsOf c0.natAbs X).map fun y => mq (decide (c0 < 0)) y 100 := by
    congr 1
    funext y
    exact rof_pt _
  rw [h, rsum_mq, partsOf_sum _ _ hs, cent_mq, sv_of]
theorem parts_small {c : Nat} {X : List Nat} (hs : 0 < X.sum) {k p : Nat} (h : (partsOf c X)[k]? = some p) : p ≤ c := by
  have := le_sum_mem (List.mem_of_getElem? h)
  rwa [partsOf_sum c X hs] at this
theorem part_rng {c0 : Int} (hc : i64m c0) {p : Nat} (h : p ≤ c0.natAbs) : i64m (sv (decide (c0 < 0)) p) := by
  obtain ⟨h1, h2⟩ := hc
  unfold i64m
  by_cases hn : c0 < 0
  · rw [decide_eq_true hn]
    show _ ≤ -(p : Int) ∧ -(p : Int) ≤ _
    omega
  · rw [decide_eq_false hn]
    show _ ≤ (p : Int) ∧ (p : Int) ≤ _
    omega
theorem part_size {c0 : Int} (hc : i64m c0) {p : Nat} (h : p ≤ c0.natAbs) : Szq (mq (decide (c0 < 0)) p 100) 9 := by
  rw [cent_mq]
  exact cq_size (part_rng hc h)
/-- The quota, as cents are counted. -/
theorem quo_frac {l : List T3} (hb : bad l = false) (hn : negs l = false) (hs : 0 < (whl l).sum) {k x : Nat} {t : T3} (ht : l[k]? = some t) (hx : (whl l)[k]? = some x) (a : Rat) : quoQ a l t = a * ((x : Rat) / ((whl l).sum : Nat)) := by
  have hm := List.mem_of_getElem? ht
  have hd := dens_pos hb
  have hxe : x = bv t.2.1 * (dens l / bv t.2.2) := by
    unfold whl at hx
    rw [List.getElem?_map, ht] at hx
    exact (Option.some.inj hx).symm
  have hq := quota_frac 1 x (whl l).sum (dens l) hs hd
  have h1 : rof t = (x : Rat) / (dens l : Rat) := by rw [rof_whl hb hn hm, hxe]
  have h2 : sumQ l = (((whl l).sum : Nat) : Rat) / (dens l : Rat) := by rw [sumQ_rsum, rsum_whl hb hn]
  unfold quoQ
  show a * rof t / sumQ l = _
  rw [h1, h2, Rat.div_def, Rat.mul_assoc, ← Rat.div_def]
  congr 1
  rw [Nat.one_mul] at hq
  rw [← hq]
  simp
theorem near_frac {p s c x : Nat} (hs : 0 < s) (h1 : p * s < c * x + s) (h2 : c * x < p * s + s) : (p : Rat) - (c : Rat) * ((x : Rat) / (s : Rat)) < 1 ∧ (c : Rat) * ((x : Rat) / (s : Rat)) - (p : Rat) < 1 := by
  have hp : (0 : Rat) < (s : Rat) := by exact_mod_cast hs
  have e : (c : Rat) * ((x : Rat) / (s : Rat)) = ((c * x : Nat) : Rat) / (s : Rat) := by
    rw [Rat.div_def, Rat.div_def, ← Rat.mul_assoc]
    congr 1
    simp
  rw [e]
  have a1 : ((p * s : Nat) : Rat) < ((c * x + s : Nat) : Rat) := by exact_mod_cast h1
  have a2 : ((c * x : Nat) : Rat) < ((p * s + s : Nat) : Rat) := by exact_mod_cast h2
  have b1 : (p : Rat) - 1 < ((c * x : Nat) : Rat) / (s : Rat) := by
    rw [Rat.lt_div_iff hp]
    push_cast at a1 ⊢
    grind
  have b2 : ((c * x : Nat) : Rat) / (s : Rat) < (p : Rat) + 1 := by
    rw [Rat.div_lt_iff hp]
    push_cast at a2 ⊢
    grind
  constructor <;> grind
theorem far_below {c0 : Int} {p s x : Nat} (hs : 0 < s) (h1 : p * s < c0.natAbs * x + s) (h2 : c0.natAbs * x < p * s + s) : sgr (abq (mq (decide (c0 < 0)) p 100 - (c0 : Rat) * (1 / 100) * ((x : Rat) / (s : Rat))) - 1 / 100) < 0 := by
  apply sgr_below
  obtain ⟨a, b⟩ := near_frac hs h1 h2
  rw [cent_mq]
  have hc : (c0 : Rat) = ((sv (decide (c0 < 0)) c0.natAbs : Int) : Rat) := by rw [sv_of]
  by_cases hn : c0 < 0
  · have e1 : ((sv (decide (c0 < 0)) p : Int) : Rat) = -(p : Rat) := by
      rw [decide_eq_true hn]
      show ((-(p : Int) : Int) : Rat) = _
      rw [Rat.intCast_neg]
      rfl
    have e2 : (c0 : Rat) = -(c0.natAbs : Rat) := by
      rw [hc, decide_eq_true hn]
      show ((-(c0.natAbs : Int) : Int) : Rat) = _
      rw [Rat.intCast_neg]
      rfl
    rw [e1, e2]
    unfold abq
    split <;> grind
  · have e1 : ((sv (decide (c0 < 0)) p : Int) : Rat) = (p : Rat) := by
      rw [decide_eq_false hn]
      rfl
    have e2 : (c0 : Rat) = (c0.natAbs : Rat) := by
      rw [hc, decide_eq_false hn]
      rfl
    rw [e1, e2]
    unfold abq
    split <;> grind
end Go.Proofs.YtnblmmhpndnjcaaGreatDoor
namespace Go.Proofs.YtnblmmhpndnjcaaGreatDoor
open Go.RowKit
theorem whl_at {l : List T3} {k : Nat} {t : T3} (h : l[k]? = some t) : ∃ x, (whl l)[k]? = some x := by
  unfold whl
  rw [List.getElem?_map, h]
  exact ⟨_, rfl⟩
theorem rof_at {l : List T3} (hb : bad l = false) (hn : negs l = false) {k x : Nat} {t : T3} (ht : l[k]? = some t) (hx : (whl l)[k]? = some x) : rof t = (x : Rat) / (dens l : Rat) := by
  have hxe : x = bv t.2.1 * (dens l / bv t.2.2) := by
    unfold whl at hx
    rw [List.getElem?_map, ht] at hx
    exact (Option.some.inj hx).symm
  rw [rof_whl hb hn (List.mem_of_getElem? ht), hxe]
theorem centsR_part {c0 : Int} (hc : i64m c0) {p : Nat} (h : p ≤ c0.natAbs) {s : Bool} {n d : List UInt8} (i : Is (mq (decide (c0 < 0)) p 100) s n d) : centsR s n d = some (sv (decide (c0 < 0)) p) := by
  rw [cent_mq] at i
  exact cq_cents (part_rng hc h) i
theorem size_part (s : Bool) (a b : Nat) : sgr (mq s a 100 - mq s b 100) = Int.sign (sv s a - sv s b) := by
  rw [cent_mq, cent_mq, show ((sv s a : Int) : Rat) * (1 / 100) - ((sv s b : Int) : Rat) * (1 / 100) = ((sv s a - sv s b : Int) : Rat) * (1 / 100) by rw [Rat.intCast_sub]; grind, sgr_mul, sgr_int, show sgr (1 / 100 : Rat) = 1 by decide +kernel, Int.mul_one]
theorem sign_np {z : Int} (h : z ≤ 0) : Int.sign z ≤ 0 := Int.sign_nonpos_iff.2 h
theorem sign_nn {z : Int} (h : 0 ≤ z) : 0 ≤ Int.sign z := Int.sign_nonneg_iff.2 h
set_option maxHeartbeats 3200000 in
theorem parts_core (c0 : Int) (xs : List (Int × Int × Int)) (a : Option Addr) (n c : Nat) (w : World) (hc : i64m c0) (hx : Ti w a n xs) (hn : n ≤ 9223372036854775807) (ht : Tm w) :
    Calls Tryz.prog 10 #[.int .i64 c0, .slice a n c] w (Yld w (.bool true)) := by
  have hb := weights3_bad xs
  have hg := weights3_negs xs
  have hz := weights3_len16 (xs := xs)
  have hl8 := weights3_len xs
  have hw : ∀ V, Ch w.heap.size none1 w V → Calls Tryz.prog 34 #[.slice a n c] V (Yw V (weights3 xs)) := fun V hC => Weights_any xs a n c V (hx.ch hC) hn
  obtain ⟨lw, hlw⟩ : ∃ l, weights3 xs = l := ⟨_, rfl⟩
  rw [hlw] at hb hg hz hl8 hw
  obtain ⟨N, hN⟩ : ∃ N, lw.length = N := ⟨_, rfl⟩
  have hok : okW lw = true := by unfold okW; rw [hb, hg]; rfl
  obtain ⟨sT, nT, dT, iT⟩ := Is.ex ((c0 : Rat) * (1 / 100))
  have zT := cq_size hc
  obtain ⟨t1, t2⟩ := zT.len iT
  have hcT := cq_cents hc iT
  have hSp : ∀ (V : World) p m q, Tm V → Rs V p m lw → Calls Tryz.prog 19 #[Rv sT nT dT, .slice p m q] V (Ysp V (some c0) lw) := fun V p m q hT hr => split_any 16 lw p m q V hT hr (by rw [← hr.len]; omega) (by omega) (by omega) hcT (by decide) (by rw [← hr.len]; omega) hz
  have hWs : ∀ (V : World) p q, Rs V p N lw → Calls Tryz.prog 36 #[.slice p N q] V (Yld V (Tv (pt (sumQ lw)))) := fun V p q hr => rSum_any (K := 16) hr (by decide) hz (by omega)
  have hS1 := sumQ_rsum lw
  rw [rsum_whl hb hg] at hS1
  rcases Nat.eq_zero_or_pos (whl lw).sum with h0 | hs
  · have hsb : splitB (some c0) lw = false := splitB_no (.inr h0)
    have hsl := splitL_no hsb
    have hz0 : sumQ lw = 0 := by rw [hS1, h0, Rat.div_def]; exact Rat.zero_mul _
    obtain ⟨⟨sS, nS, dS⟩, hpS⟩ : ∃ t, pt (sumQ lw) = t := ⟨_, rfl⟩
    have iS := pt_is (sumQ lw)
    rw [hpS] at iS hWs
    simp only at iS
    rw [hz0] at iS
    obtain ⟨s1, s2⟩ := (Szq.mono (k := 1) (q := 0) ⟨by decide, by decide⟩ (show 1 ≤ 1 by decide)).len iS
    refine parts_none w ht (fun W hT => sanity4 W hT) hw (C_r4Of hc.1 hc.2 iT) (fun V p m q hT hr => ?_) hWs (C_rSign (by omega) (by omega) (ratOf_is iS) ((sgr_zero 0).2 rfl)) hN
    refine (hSp V p m q hT hr).mono fun e V' ⟨p', n', c', he, hR, hC⟩ => ?_
    rw [hsb] at he
    rw [hsl] at hR
    have hn0 : n' = 0 := hR.len.symm
    subst hn0
    exact ⟨p', c', he, hC⟩
  · have hsb : splitB (some c0) lw = true := by
      show (okW lw && decide (0 < (whl lw).sum)) = true
      rw [hok, decide_eq_true hs]
      rfl
    have hsl : splitL (some c0) lw = prt c0 (whl lw) := by
      show (if splitB (some c0) lw = true then _ else _) = _
      rw [if_pos hsb]
      rfl
    have hpl : (prt c0 (whl lw)).length = N := by rw [prt_len, whl_len, hN]
    have hps := prt_sum (c0 := c0) hs
    have hsne : sumQ lw ≠ 0 := by
      rw [hS1, Rat.div_def]
      intro h
      rcases Rat.mul_eq_zero.1 h with h | h
      · exact nat_ne hs h
      · exact nat_ne (dens_pos hb) (by rw [← Rat.inv_inv ((dens lw : Nat) : Rat), h]; exact Rat.inv_zero)
    have hpz : ∀ t ∈ prt c0 (whl lw), t.2.1.length ≤ 9 ∧ t.2.2.length ≤ 9 := fun t ht => by
      rw [prt_map] at ht
      obtain ⟨y, hy, rfl⟩ := List.mem_map.1 ht
      obtain ⟨j, hj⟩ := List.getElem?_of_mem hy
      exact (part_size hc (parts_small hs hj)).len (pt_is _)
    have hcent : AnsM 20 #[.int .i64 1] (Rv false [1] [100]) := C_mOf (by decide) (by decide) (by rw [show ((1 : Int) : Rat) * (1 / 100) = 1 / 100 by decide +kernel]; exact cent_is)
    obtain ⟨lp, hlp⟩ : ∃ l, prt c0 (whl lw) = l := ⟨_, rfl⟩
    have hlp2 := hlp
    rw [prt_map] at hlp2
    rw [hlp] at hpl hps hpz hsl
    have hpt : pt (sumQ lp) = (sT, nT, dT) := by
      rw [hps]
      obtain ⟨e1, e2, e3⟩ := (pt_is ((c0 : Rat) * (1 / 100))).eqs iT
      exact Prod.ext e1 (Prod.ext e2 e3)
    have hPs : ∀ (V : World) p q, Rs V p N lp → Calls Tryz.prog 36 #[.slice p N q] V (Yld V (Rv sT nT dT)) := fun V p q hr => by
      have h := rSum_any (K := 9) (c := q) hr (by decide) hpz (by omega)
      rw [hpt] at h
      exact h
    have pat : ∀ k p, (partsOf c0.natAbs (whl lw))[k]? = some p → lp[k]? = some (pt (mq (decide (c0 < 0)) p 100)) := fun k p h => by
      rw [← hlp2, List.getElem?_map, h]
      rfl
    have pex : ∀ k, k < N → ∃ p, (partsOf c0.natAbs (whl lw))[k]? = some p := fun k hk => ⟨_, List.getElem?_eq_getElem (by rw [partsOf_len, whl_len, hN]; exact hk)⟩
    refine parts_walk w ht (fun W hT => sanity4 W hT) hw (C_r4Of hc.1 hc.2 iT) (fun V p m q hT hr => ?_) hPs hN hpl hcent (by omega) ?_
    · refine (hSp V p m q hT hr).mono fun e V' ⟨p', n', c', he, hR, hC⟩ => ?_
      rw [hsb] at he
      rw [hsl] at hR
      exact ⟨p', n', c', he, hR, hC⟩
    · intro v g o gw ow cp cw hT hRp hRw k hk
      obtain ⟨⟨swk, nwk, dwk⟩, hwk⟩ : ∃ t, lw[k]? = some t := ⟨_, List.getElem?_eq_getElem (by omega)⟩
      obtain ⟨xk, hxk⟩ := whl_at hwk
      obtain ⟨pk, hpk⟩ := pex k hk
      have hpk2 := pat k pk hpk
      have hps2 := parts_small hs hpk
      have ipk := pt_is (mq (decide (c0 < 0)) pk 100)
      have zpk := part_size hc hps2
      obtain ⟨⟨spk, npk, dpk⟩, hppk⟩ : ∃ t, pt (mq (decide (c0 < 0)) pk 100) = t := ⟨_, rfl⟩
      rw [hppk] at ipk hpk2
      simp only at ipk
      obtain ⟨u1, u2⟩ := zpk.len ipk
      have iq := pt_is (quoQ ((c0 : Rat) * (1 / 100)) lw (swk, nwk, dwk))
      have hQu : ∀ V, Ch v.heap.size none1 v V → Calls Tryz.prog 37 #[Rv sT nT dT, .slice (some ⟨gw, ow, none⟩) N cw, .int .i64 k] V (Yld V (Tv (pt (quoQ ((c0 : Rat) * (1 / 100)) lw (swk, nwk, dwk))))) := fun V hC => Quota_any (K := 16) (hRw.ch hC) (hT.ch hC) (by decide) hz (by omega) hwk iT (zT.mono (by decide)) (by decide) hsne
      have hzk := hz _ (List.mem_of_getElem? hwk)
      have zq : Szq (quoQ ((c0 : Rat) * (1 / 100)) lw (swk, nwk, dwk)) (9 + 16 + (1 + 8 * 17)) := by
        unfold quoQ
        have z1 := sumQ_size (K := 16) (by decide) lw hz lw.length (Nat.le_refl _)
        rw [List.take_length] at z1
        exact ((zT.mul (Szq.of_len hzk.1 hzk.2 (by decide))).div z1 hsne).mono (by omega)
      have hqf := quo_frac hb hg hs hwk hxk ((c0 : Rat) * (1 / 100))
      obtain ⟨⟨sq, nq, dq⟩, hpq⟩ : ∃ t, pt (quoQ ((c0 : Rat) * (1 / 100)) lw (swk, nwk, dwk)) = t := ⟨_, rfl⟩
      rw [hpq] at iq hQu
      simp only at iq
      obtain ⟨u3, u4⟩ := zq.len iq
      obtain ⟨sf, nf, df, if'⟩ := Is.ex (mq (decide (c0 < 0)) pk 100 - quoQ ((c0 : Rat) * (1 / 100)) lw (swk, nwk, dwk))
      obtain ⟨u5, u6⟩ := (zpk.sub zq).len if'
      have iab := is_abs if'
      obtain ⟨hn1, hn2⟩ := parts_near hs hxk hpk
      have hfar := far_below (c0 := c0) hs hn1 hn2
      rw [← hqf] at hfar
      obtain ⟨cm, hcm⟩ : ∃ z, sgr (abq (mq (decide (c0 < 0)) pk 100 - quoQ ((c0 : Rat) * (1 / 100)) lw (swk, nwk, dwk)) - 1 / 100) = z := ⟨_, rfl⟩
      rw [hcm] at hfar
      refine ⟨spk, npk, dpk, swk, nwk, dwk, _, sq, nq, dq, sf, nf, df, cm, fun V hC => (hRp.ch hC).get hpk2, C_Cents (o := some _) (by omega) (by omega) (centsR_part hc hps2 ipk), hQu,
        C_rSub (s := spk) (n := npk) (d := dpk) (t := sq) (m := nq) (e := dq) (by omega) (by omega) (by omega) (by omega) (ratOf_is ipk) (ratOf_is iq) if',
        C_rCmp (s := false) (n := nf) (d := df) (t := false) (m := [1]) (e := [100]) (by omega) (by omega) (by decide) (by decide) (ratOf_is iab) (ratOf_is cent_is) hcm, decide_eq_false (by omega), fun i hi => ?_⟩
      obtain ⟨⟨swi, nwi, dwi⟩, hwi⟩ : ∃ t, lw[i]? = some t := ⟨_, List.getElem?_eq_getElem (by omega)⟩
      obtain ⟨xi, hxi⟩ := whl_at hwi
      obtain ⟨pi, hpi⟩ := pex i (by omega)
      have hpi2 := pat i pi hpi
      have ipi := pt_is (mq (decide (c0 < 0)) pi 100)
      obtain ⟨⟨spi, npi, dpi⟩, hppi⟩ : ∃ t, pt (mq (decide (c0 < 0)) pi 100) = t := ⟨_, rfl⟩
      rw [hppi] at ipi hpi2
      simp only at ipi
      obtain ⟨u7, u8⟩ := (part_size hc (parts_small hs hpi)).len ipi
      have hzi := hz _ (List.mem_of_getElem? hwi)
      simp only at hzi hzk
      have r1 := rof_at hb hg hwi hxi
      have r2 := rof_at hb hg hwk hxk
      have hmo : sgr (rof (swi, nwi, dwi) - rof (swk, nwk, dwk)) = Int.sign ((xi : Int) - (xk : Int)) := by rw [r1, r2]; exact cmp_frac _ _ _ (dens_pos hb)
      have hsi := size_part (decide (c0 < 0)) pi pk
      refine ⟨spi, npi, dpi, swi, nwi, dwi, _, _, fun V hC => ?_, C_rCmp (s := swi) (n := nwi) (d := dwi) (t := swk) (m := nwk) (e := dwk) (by omega) (by omega) (by omega) (by omega) rfl rfl hmo,
        C_rCmp (s := spi) (n := npi) (d := dpi) (t := spk) (m := npk) (e := dpk) (by omega) (by omega) (by omega) (by omega) (ratOf_is ipi) (ratOf_is ipk) hsi, ?_, sgr_rng2 _⟩
      · obtain ⟨q1, q2, q3⟩ := (hRw.ch hC).get hwi
        obtain ⟨q4, q5, q6⟩ := (hRw.ch hC).get hwk
        obtain ⟨q7, q8, q9⟩ := (hRp.ch hC).get hpi2
        obtain ⟨qa, qb, qc⟩ := (hRp.ch hC).get hpk2
        exact ⟨q1, q2, q3, q4, q5, q6, q7, q8, q9, qa, qb, qc⟩
      · by_cases hxx : xk ≤ xi
        · have hge := parts_ge hs hxi hxk hi hxx hpi hpk
          have hm0 : 0 ≤ Int.sign ((xi : Int) - (xk : Int)) := sign_nn (by omega)
          by_cases hneg : c0 < 0
          · refine .inl ⟨hneg, .inl ⟨hm0, sign_np ?_⟩⟩
            rw [decide_eq_true hneg]
            show -(pi : Int) - -(pk : Int) ≤ 0
            omega
          · refine .inr ⟨hneg, .inl ⟨hm0, sign_nn ?_⟩⟩
            rw [decide_eq_false hneg]
            show 0 ≤ (pi : Int) - (pk : Int)
            omega
        · have hle := parts_le hs hxi hxk (by omega) hpi hpk
          have hm0 : Int.sign ((xi : Int) - (xk : Int)) < 0 := Int.sign_neg_iff.2 (by omega)
          by_cases hneg : c0 < 0
          · refine .inl ⟨hneg, .inr ⟨hm0, sign_nn ?_⟩⟩
            rw [decide_eq_true hneg]
            show 0 ≤ -(pi : Int) - -(pk : Int)
            omega
          · refine .inr ⟨hneg, .inr ⟨hm0, sign_np ?_⟩⟩
            rw [decide_eq_false hneg]
            show (pi : Int) - (pk : Int) ≤ 0
            omega
end Go.Proofs.YtnblmmhpndnjcaaGreatDoor
