/- The laws of layer 2: RatioOrder: the cases. -/
import Derived.Test.YtninbglhomdmjaaGreatDoorPa
import Derived.Test.YtninbglhomdmjaaGreatDoorPb
import Derived.Test.YtninbglhomdmjaaGreatDoorPc
import Derived.Test.YtninbglhomdmjaaGreatDoorPd
namespace Go.Proofs.YtninbglhomdmjaaGreatDoor
open Go.RowKit
theorem sgr_range (a : Rat) : -1 ≤ sgr a ∧ sgr a ≤ 1 := by
  unfold sgr
  rcases Int.lt_trichotomy a.num 0 with h | h | h
  · rw [Int.sign_eq_neg_one_of_neg h]; decide
  · rw [h]; decide
  · rw [Int.sign_eq_one_of_pos h]; decide
theorem sgr_swap (a b : Rat) : sgr (b - a) = -sgr (a - b) := by
  rw [← sgr_neg, Rat.neg_sub]
theorem sgr_move (a b c : Rat) : sgr (a + c - (b + c)) = sgr (a - b) := by
  have : a + c - (b + c) = a - b := by grind
  rw [this]
theorem sgr_scale (a b c : Rat) : sgr (a * c - b * c) = sgr (a - b) * sgr c := by
  have : a * c - b * c = (a - b) * c := by grind
  rw [this, sgr_mul]
theorem sgr_diff (a : Rat) : sgr (a - 0) = sgr a := by
  have : a - 0 = a := by grind
  rw [this]
theorem sgr_total (a b c : Rat) (h1 : ¬ sgr (a - b) < 0) (h2 : ¬ sgr (b - c) < 0) : 0 ≤ sgr (a - c) := by
  have : a - c = (a - b) + (b - c) := by grind
  rw [this]
  exact sgr_add_nonneg _ _ (by omega) (by omega)
theorem sgr_same (a b : Rat) : sgr (a - b) = 0 ↔ a = b := by
  rw [sgr_zero]
  constructor
  · intro h
    have : a = (a - b) + b := by grind
    rw [this, h, Rat.zero_add]
  · rintro rfl
    exact Rat.sub_self
theorem C_zero_of2 : Ans 36 #[.int .i64 0] (Rv false [] [1]) := C_Of 0 (by decide) (by decide) nb_zero
set_option maxRecDepth 100000 in
set_option maxHeartbeats 3200000 in
theorem order_core (x0 x1 x2 y0 y1 y2 z0 z1 z2 : Int) (w : World) (hx0 : i64r x0) (hx1 : i64r x1) (hx2 : i64r x2) (hy0 : i64r y0) (hy1 : i64r y1) (hy2 : i64r y2) (hz0 : i64r z0) (hz1 : i64r z1) (hz2 : i64r z2) (ht : Tb w) :
    Calls Tryz.prog 7 #[.agg #[.int .i64 x0, .int .i64 x1, .int .i64 x2], .agg #[.int .i64 y0, .int .i64 y1, .int .i64 y2], .agg #[.int .i64 z0, .int .i64 z1, .int .i64 z2]] w (Yld w (.bool true)) := by
  have hma := fun W => made_any x0 x1 x2 W hx0 hx1 hx2
  obtain ⟨la1, la2⟩ := mdq_len x0 x1 x2
  have ra := rof_pt (mdq x0 x1 x2)
  have za := mdq_size x0 x1 x2
  obtain ⟨qa, hqa⟩ : ∃ q, mdq x0 x1 x2 = q := ⟨_, rfl⟩
  rw [hqa] at hma la1 la2 ra za
  have ia := pt_is qa
  obtain ⟨⟨sa, na, da⟩, hpa⟩ : ∃ t, pt qa = t := ⟨_, rfl⟩
  rw [hpa] at hma la1 la2 ra ia
  have ra' : ratOf sa na da = qa := ra
  simp only at la1 la2 ia
  have hmb := fun W => made_any y0 y1 y2 W hy0 hy1 hy2
  obtain ⟨lb1, lb2⟩ := mdq_len y0 y1 y2
  have rb := rof_pt (mdq y0 y1 y2)
  have zb := mdq_size y0 y1 y2
  obtain ⟨qb, hqb⟩ : ∃ q, mdq y0 y1 y2 = q := ⟨_, rfl⟩
  rw [hqb] at hmb lb1 lb2 rb zb
  have ib := pt_is qb
  obtain ⟨⟨sb, nb, db⟩, hpb⟩ : ∃ t, pt qb = t := ⟨_, rfl⟩
  rw [hpb] at hmb lb1 lb2 rb ib
  have rb' : ratOf sb nb db = qb := rb
  simp only at lb1 lb2 ib
  have hmc := fun W => made_any z0 z1 z2 W hz0 hz1 hz2
  obtain ⟨lc1, lc2⟩ := mdq_len z0 z1 z2
  have rc := rof_pt (mdq z0 z1 z2)
  have zc := mdq_size z0 z1 z2
  obtain ⟨qc, hqc⟩ : ∃ q, mdq z0 z1 z2 = q := ⟨_, rfl⟩
  rw [hqc] at hmc lc1 lc2 rc zc
  have ic := pt_is qc
  obtain ⟨⟨sc, nc, dc⟩, hpc⟩ : ∃ t, pt qc = t := ⟨_, rfl⟩
  rw [hpc] at hmc lc1 lc2 rc ic
  have rc' : ratOf sc nc dc = qc := rc
  simp only at lc1 lc2 ic
  have ip := pt_is (qa + qc)
  obtain ⟨⟨sp, np, dp⟩, hpp⟩ : ∃ t, pt (qa + qc) = t := ⟨_, rfl⟩
  rw [hpp] at ip
  simp only at ip
  have rp' : ratOf sp np dp = qa + qc := ratOf_is ip
  obtain ⟨lp1, lp2⟩ := (za.add zc : Szq (qa + qc) _).len ip
  have iu := pt_is (qb + qc)
  obtain ⟨⟨su, nu, du⟩, hpu⟩ : ∃ t, pt (qb + qc) = t := ⟨_, rfl⟩
  rw [hpu] at iu
  simp only at iu
  have ru' : ratOf su nu du = qb + qc := ratOf_is iu
  obtain ⟨lu1, lu2⟩ := (zb.add zc : Szq (qb + qc) _).len iu
  have im := pt_is (qa * qc)
  obtain ⟨⟨sm, nm, dm⟩, hpm⟩ : ∃ t, pt (qa * qc) = t := ⟨_, rfl⟩
  rw [hpm] at im
  simp only at im
  have rm' : ratOf sm nm dm = qa * qc := ratOf_is im
  obtain ⟨lm1, lm2⟩ := (za.mul zc : Szq (qa * qc) _).len im
  have iv := pt_is (qb * qc)
  obtain ⟨⟨sv, nv, dv⟩, hpv⟩ : ∃ t, pt (qb * qc) = t := ⟨_, rfl⟩
  rw [hpv] at iv
  simp only at iv
  have rv' : ratOf sv nv dv = qb * qc := ratOf_is iv
  obtain ⟨lv1, lv2⟩ := (zb.mul zc : Szq (qb * qc) _).len iv
  have ioo := pt_is (qa - qb)
  obtain ⟨⟨soo, noo, doo⟩, hpoo⟩ : ∃ t, pt (qa - qb) = t := ⟨_, rfl⟩
  rw [hpoo] at ioo
  simp only at ioo
  have roo' : ratOf soo noo doo = qa - qb := ratOf_is ioo
  obtain ⟨loo1, loo2⟩ := (za.sub zb : Szq (qa - qb) _).len ioo
  have rz' : ratOf false [] [1] = 0 := ratOf_is Is.zero
  obtain ⟨k2, ek2⟩ : ∃ k, sgr (qb - qc) = k := ⟨_, rfl⟩
  obtain ⟨k3, ek3⟩ : ∃ k, sgr (qa - qc) = k := ⟨_, rfl⟩
  obtain ⟨k4, ek4⟩ : ∃ k, sgr (qc) = k := ⟨_, rfl⟩
  obtain ⟨k5, ek5⟩ : ∃ k, sgr (qa) = k := ⟨_, rfl⟩
  obtain ⟨K, eK⟩ : ∃ k, sgr (qa - qb) = k := ⟨_, rfl⟩
  have r4 := sgr_range qc
  rw [ek4] at r4
  have rK := sgr_range (qa - qb)
  rw [eK] at rK
  have tot := sgr_total qa qb qc
  rw [eK, ek2, ek3] at tot
  have G1 := C_Cmp (by omega) (by omega) (by omega) (by omega) ra' rb' eK
  have G2 := C_Cmp (by omega) (by omega) (by omega) (by omega) rb' ra' (k := -K) (by rw [sgr_swap qa qb, eK])
  have G3 := C_Cmp (by omega) (by omega) (by omega) (by omega) rb' rc' ek2
  have G4 := C_Cmp (by omega) (by omega) (by omega) (by omega) ra' rc' ek3
  have G5 := C_Add (by omega) (by omega) (by omega) (by omega) ra' rc' ip
  have G6 := C_Add (by omega) (by omega) (by omega) (by omega) rb' rc' iu
  have G7 := C_Cmp (by omega) (by omega) (by omega) (by omega) rp' ru' (k := K) (by rw [sgr_move, eK])
  have G8 := C_Mul (by omega) (by omega) (by omega) (by omega) ra' rc' im
  have G9 := C_Mul (by omega) (by omega) (by omega) (by omega) rb' rc' iv
  have G10 := C_Cmp (by omega) (by omega) (by omega) (by omega) rm' rv' (k := K * k4) (by rw [sgr_scale, eK, ek4])
  have G11 := C_Sign (by omega) (by omega) rc' ek4
  have G12 := C_Sub (by omega) (by omega) (by omega) (by omega) ra' rb' ioo
  have G13 := C_Sign (by omega) (by omega) roo' eK
  have G14 := C_Sign (by omega) (by omega) ra' ek5
  have G15 := C_Cmp (by omega) (by omega) (by decide) (by decide) ra' rz' (k := k5) (by rw [sgr_diff, ek5])
  rcases (by omega : K = -1 ∨ K = 0 ∨ K = 1) with rfl | rfl | rfl
  · rw [show -(-1 : Int) = 1 by decide] at G2
    rw [show (-1 : Int) * k4 = -k4 by omega] at G10
    have hne : ¬ (sa = sb ∧ na = nb ∧ da = db) := fun ⟨h1, h2, h3⟩ => by
      have h4 : qa = qb := by rw [← ra', ← rb', h1, h2, h3]
      have h5 := (sgr_same qa qb).2 h4
      rw [eK] at h5
      exact absurd h5 (by decide)
    by_cases t1 : sa = sb
    · subst t1
      by_cases t2 : na = nb
      · subst t2
        exact ow_less_d (t1 := beq_eq_false_iff_ne.2 (fun h => hne ⟨rfl, rfl, h⟩)) (wr7 := IntWalk.i64_in _ (by omega)) (w := w) (ht := ht) (wk1 := IntWalk.i64_in _ (by omega)) (wk2 := IntWalk.i64_in _ (by omega)) (wk3 := IntWalk.i64_in _ (by omega)) (k40 := r4.1) (k41 := r4.2) (hH0 := sanity_true) (hH1 := hma) (hH2 := hmb) (hH3 := hmc) (hHZ := C_zero_of2) (hG1 := G1) (hG2 := G2) (hG3 := G3) (hG4 := G4) (hG5 := G5) (hG6 := G6) (hG7 := G7) (hG8 := G8) (hG9 := G9) (hG10 := G10) (hG11 := G11) (hG12 := G12) (hG13 := G13) (hG14 := G14) (hG15 := G15)
      · exact ow_less_n (t1 := beq_eq_false_iff_ne.2 t2) (wr7 := IntWalk.i64_in _ (by omega)) (w := w) (ht := ht) (wk1 := IntWalk.i64_in _ (by omega)) (wk2 := IntWalk.i64_in _ (by omega)) (wk3 := IntWalk.i64_in _ (by omega)) (k40 := r4.1) (k41 := r4.2) (hH0 := sanity_true) (hH1 := hma) (hH2 := hmb) (hH3 := hmc) (hHZ := C_zero_of2) (hG1 := G1) (hG2 := G2) (hG3 := G3) (hG4 := G4) (hG5 := G5) (hG6 := G6) (hG7 := G7) (hG8 := G8) (hG9 := G9) (hG10 := G10) (hG11 := G11) (hG12 := G12) (hG13 := G13) (hG14 := G14) (hG15 := G15)
    · exact ow_less_s (t1 := beq_eq_false_iff_ne.2 t1) (wr7 := IntWalk.i64_in _ (by omega)) (w := w) (ht := ht) (wk1 := IntWalk.i64_in _ (by omega)) (wk2 := IntWalk.i64_in _ (by omega)) (wk3 := IntWalk.i64_in _ (by omega)) (k40 := r4.1) (k41 := r4.2) (hH0 := sanity_true) (hH1 := hma) (hH2 := hmb) (hH3 := hmc) (hHZ := C_zero_of2) (hG1 := G1) (hG2 := G2) (hG3 := G3) (hG4 := G4) (hG5 := G5) (hG6 := G6) (hG7 := G7) (hG8 := G8) (hG9 := G9) (hG10 := G10) (hG11 := G11) (hG12 := G12) (hG13 := G13) (hG14 := G14) (hG15 := G15)
  · rw [show -(0 : Int) = 0 by decide] at G2
    rw [show (0 : Int) * k4 = 0 by omega] at G10
    have hq := (sgr_same qa qb).1 eK
    subst hq
    obtain ⟨h1, h2, h3⟩ := Is.eqs ia ib
    subst h1
    subst h2
    subst h3
    obtain ⟨j1, j2, j3⟩ := Is.eqs im iv
    subst j1
    subst j2
    subst j3
    by_cases t2 : k2 < 0
    · exact ow_zero_lt (hk2 := decide_eq_true t2) (w := w) (ht := ht) (wk1 := IntWalk.i64_in _ (by omega)) (wk2 := IntWalk.i64_in _ (by omega)) (wk3 := IntWalk.i64_in _ (by omega)) (k40 := r4.1) (k41 := r4.2) (hH0 := sanity_true) (hH1 := hma) (hH2 := hmb) (hH3 := hmc) (hHZ := C_zero_of2) (hG1 := G1) (hG2 := G2) (hG3 := G3) (hG4 := G4) (hG5 := G5) (hG6 := G6) (hG7 := G7) (hG8 := G8) (hG9 := G9) (hG10 := G10) (hG11 := G11) (hG12 := G12) (hG13 := G13) (hG14 := G14) (hG15 := G15)
    · exact ow_zero_ge (hk2 := decide_eq_false t2) (hk3 := decide_eq_true (tot (by omega) t2)) (w := w) (ht := ht) (wk1 := IntWalk.i64_in _ (by omega)) (wk2 := IntWalk.i64_in _ (by omega)) (wk3 := IntWalk.i64_in _ (by omega)) (k40 := r4.1) (k41 := r4.2) (hH0 := sanity_true) (hH1 := hma) (hH2 := hmb) (hH3 := hmc) (hHZ := C_zero_of2) (hG1 := G1) (hG2 := G2) (hG3 := G3) (hG4 := G4) (hG5 := G5) (hG6 := G6) (hG7 := G7) (hG8 := G8) (hG9 := G9) (hG10 := G10) (hG11 := G11) (hG12 := G12) (hG13 := G13) (hG14 := G14) (hG15 := G15)
  · rw [show (1 : Int) * k4 = k4 by omega] at G10
    have hne : ¬ (sa = sb ∧ na = nb ∧ da = db) := fun ⟨h1, h2, h3⟩ => by
      have h4 : qa = qb := by rw [← ra', ← rb', h1, h2, h3]
      have h5 := (sgr_same qa qb).2 h4
      rw [eK] at h5
      exact absurd h5 (by decide)
    by_cases t3 : k2 < 0
    · have t4 := decide_eq_true t3
      by_cases t1 : sa = sb
      · subst t1
        by_cases t2 : na = nb
        · subst t2
          exact ow_more_lt_d (t1 := beq_eq_false_iff_ne.2 (fun h => hne ⟨rfl, rfl, h⟩)) (wr7 := IntWalk.i64_in _ (by omega)) (hk2 := t4) (w := w) (ht := ht) (wk1 := IntWalk.i64_in _ (by omega)) (wk2 := IntWalk.i64_in _ (by omega)) (wk3 := IntWalk.i64_in _ (by omega)) (k40 := r4.1) (k41 := r4.2) (hH0 := sanity_true) (hH1 := hma) (hH2 := hmb) (hH3 := hmc) (hHZ := C_zero_of2) (hG1 := G1) (hG2 := G2) (hG3 := G3) (hG4 := G4) (hG5 := G5) (hG6 := G6) (hG7 := G7) (hG8 := G8) (hG9 := G9) (hG10 := G10) (hG11 := G11) (hG12 := G12) (hG13 := G13) (hG14 := G14) (hG15 := G15)
        · exact ow_more_lt_n (t1 := beq_eq_false_iff_ne.2 t2) (wr7 := IntWalk.i64_in _ (by omega)) (hk2 := t4) (w := w) (ht := ht) (wk1 := IntWalk.i64_in _ (by omega)) (wk2 := IntWalk.i64_in _ (by omega)) (wk3 := IntWalk.i64_in _ (by omega)) (k40 := r4.1) (k41 := r4.2) (hH0 := sanity_true) (hH1 := hma) (hH2 := hmb) (hH3 := hmc) (hHZ := C_zero_of2) (hG1 := G1) (hG2 := G2) (hG3 := G3) (hG4 := G4) (hG5 := G5) (hG6 := G6) (hG7 := G7) (hG8 := G8) (hG9 := G9) (hG10 := G10) (hG11 := G11) (hG12 := G12) (hG13 := G13) (hG14 := G14) (hG15 := G15)
      · exact ow_more_lt_s (t1 := beq_eq_false_iff_ne.2 t1) (wr7 := IntWalk.i64_in _ (by omega)) (hk2 := t4) (w := w) (ht := ht) (wk1 := IntWalk.i64_in _ (by omega)) (wk2 := IntWalk.i64_in _ (by omega)) (wk3 := IntWalk.i64_in _ (by omega)) (k40 := r4.1) (k41 := r4.2) (hH0 := sanity_true) (hH1 := hma) (hH2 := hmb) (hH3 := hmc) (hHZ := C_zero_of2) (hG1 := G1) (hG2 := G2) (hG3 := G3) (hG4 := G4) (hG5 := G5) (hG6 := G6) (hG7 := G7) (hG8 := G8) (hG9 := G9) (hG10 := G10) (hG11 := G11) (hG12 := G12) (hG13 := G13) (hG14 := G14) (hG15 := G15)
    · have t4 := decide_eq_false t3
      have t5 := decide_eq_true (tot (by omega) t3)
      by_cases t1 : sa = sb
      · subst t1
        by_cases t2 : na = nb
        · subst t2
          exact ow_more_ge_d (t1 := beq_eq_false_iff_ne.2 (fun h => hne ⟨rfl, rfl, h⟩)) (wr7 := IntWalk.i64_in _ (by omega)) (hk2 := t4) (hk3 := t5) (w := w) (ht := ht) (wk1 := IntWalk.i64_in _ (by omega)) (wk2 := IntWalk.i64_in _ (by omega)) (wk3 := IntWalk.i64_in _ (by omega)) (k40 := r4.1) (k41 := r4.2) (hH0 := sanity_true) (hH1 := hma) (hH2 := hmb) (hH3 := hmc) (hHZ := C_zero_of2) (hG1 := G1) (hG2 := G2) (hG3 := G3) (hG4 := G4) (hG5 := G5) (hG6 := G6) (hG7 := G7) (hG8 := G8) (hG9 := G9) (hG10 := G10) (hG11 := G11) (hG12 := G12) (hG13 := G13) (hG14 := G14) (hG15 := G15)
        · exact ow_more_ge_n (t1 := beq_eq_false_iff_ne.2 t2) (wr7 := IntWalk.i64_in _ (by omega)) (hk2 := t4) (hk3 := t5) (w := w) (ht := ht) (wk1 := IntWalk.i64_in _ (by omega)) (wk2 := IntWalk.i64_in _ (by omega)) (wk3 := IntWalk.i64_in _ (by omega)) (k40 := r4.1) (k41 := r4.2) (hH0 := sanity_true) (hH1 := hma) (hH2 := hmb) (hH3 := hmc) (hHZ := C_zero_of2) (hG1 := G1) (hG2 := G2) (hG3 := G3) (hG4 := G4) (hG5 := G5) (hG6 := G6) (hG7 := G7) (hG8 := G8) (hG9 := G9) (hG10 := G10) (hG11 := G11) (hG12 := G12) (hG13 := G13) (hG14 := G14) (hG15 := G15)
      · exact ow_more_ge_s (t1 := beq_eq_false_iff_ne.2 t1) (wr7 := IntWalk.i64_in _ (by omega)) (hk2 := t4) (hk3 := t5) (w := w) (ht := ht) (wk1 := IntWalk.i64_in _ (by omega)) (wk2 := IntWalk.i64_in _ (by omega)) (wk3 := IntWalk.i64_in _ (by omega)) (k40 := r4.1) (k41 := r4.2) (hH0 := sanity_true) (hH1 := hma) (hH2 := hmb) (hH3 := hmc) (hHZ := C_zero_of2) (hG1 := G1) (hG2 := G2) (hG3 := G3) (hG4 := G4) (hG5 := G5) (hG6 := G6) (hG7 := G7) (hG8 := G8) (hG9 := G9) (hG10 := G10) (hG11 := G11) (hG12 := G12) (hG13 := G13) (hG14 := G14) (hG15 := G15)
end Go.Proofs.YtninbglhomdmjaaGreatDoor
