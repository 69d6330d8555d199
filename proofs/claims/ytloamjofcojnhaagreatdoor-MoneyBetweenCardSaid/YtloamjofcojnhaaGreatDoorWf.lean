/- MoneyBetween: the core. -/
import Derived.Test.YtloamjofcojnhaaGreatDoorWd
import Derived.Test.YtloamjofcojnhaaGreatDoorWg
namespace Go.Proofs.YtloamjofcojnhaaGreatDoor
open Go.RowKit
theorem sgr_ng {q : Rat} (h : q < 0) : sgr q < 0 := by
  have h1 : 0 < -q := by grind
  have h2 := sgr_one h1
  rw [sgr_neg] at h2
  omega
theorem ng_sgr {q : Rat} (h : sgr q < 0) : q < 0 := by
  have h1 : sgr (-q) = 1 := by
    rw [sgr_neg]
    have := (sgr_rng q).1
    omega
  have h2 : 0 < -q := sgr_pos (by rw [h1]; decide)
  grind
theorem nn_false {q : Rat} {s : Bool} {n d : List UInt8} (h : Is q s n d) (h0 : 0 ≤ q) : s = false := by
  rw [← h.sgn]
  have := Rat.num_nonneg.2 h0
  exact decide_eq_false (by omega)
theorem mul_div {z : Int} {t : Rat} (h : t ≠ 0) : ((z : Rat) * t) / t = (z : Rat) := Rat.mul_div_cancel h
set_option maxHeartbeats 1600000 in
theorem between_core (x0 x1 x2 z0 z1 z2 : Int) (w : World) (hx0 : i64m x0) (hx1 : i64m x1) (hx2 : i64m x2) (hz0 : i64m z0) (hz1 : i64m z1) (hz2 : i64m z2) (ht : Tm w) :
    Calls Tryz.prog 5 #[.agg #[.int .i64 x0, .int .i64 x1, .int .i64 x2], .agg #[.int .i64 z0, .int .i64 z1, .int .i64 z2]] w (Yld w (.bool true)) := by
  have za := mdq_size x0 x1 x2
  have hma : Ans 12 #[.agg #[.int .i64 x0, .int .i64 x1, .int .i64 x2]] (Tv (pt (mdq x0 x1 x2))) := fun W => made_any x0 x1 x2 W hx0 hx1 hx2
  obtain ⟨qa, hqa⟩ : ∃ q, mdq x0 x1 x2 = q := ⟨_, rfl⟩
  rw [hqa] at za hma
  have ia := pt_is (qa)
  obtain ⟨⟨sa, na, da⟩, hpa⟩ : ∃ t, pt (qa) = t := ⟨_, rfl⟩
  rw [hpa] at ia
  simp only at ia
  obtain ⟨la1, la2⟩ := (Szq.mono (m := 16) (za) (by decide)).len ia
  rw [hpa] at hma
  have zt := stq_size z0 z1 z2
  have pt0 := stq_pos z0 z1 z2
  have hmt : AnsM 13 #[.agg #[.int .i64 z0, .int .i64 z1, .int .i64 z2]] (Tv (pt (stq z0 z1 z2))) := fun W hT => step_any z0 z1 z2 W hT hz0 hz1 hz2
  obtain ⟨qt, hqt⟩ : ∃ q, stq z0 z1 z2 = q := ⟨_, rfl⟩
  rw [hqt] at zt hmt pt0
  have et : qt ≠ 0 := Ne.symm (Rat.ne_of_lt pt0)
  have it := pt_is (qt)
  obtain ⟨⟨st, nt, dt⟩, hpt⟩ : ∃ t, pt (qt) = t := ⟨_, rfl⟩
  rw [hpt] at it
  simp only at it
  obtain ⟨lt1, lt2⟩ := (Szq.mono (m := 16) (zt) (by decide)).len it
  rw [hpt] at hmt
  have ca := can_yes ia it pt0
  have ra := ratOf_is ia
  have rt := ratOf_is it
  obtain ⟨zd, hzd⟩ := downQ_is qa qt
  obtain ⟨zu, hzu⟩ := upQ_is qa qt
  have b1 := downQ_le (a := qa) pt0
  have b2 := downQ_lt (a := qa) pt0
  have b3 := le_upQ (a := qa) pt0
  have b4 := upQ_lt (a := qa) pt0
  have hne := nearQ_eq (a := qa) pt0
  have dd1 : downQ (downQ qa qt) qt = downQ qa qt := by rw [hzd]; exact downQ_mul pt0 zd
  have dd2 : upQ (downQ qa qt) qt = downQ qa qt := by rw [hzd]; exact upQ_mul pt0 zd
  have du1 : downQ (upQ qa qt) qt = upQ qa qt := by rw [hzu]; exact downQ_mul pt0 zu
  have du2 : upQ (upQ qa qt) qt = upQ qa qt := by rw [hzu]; exact upQ_mul pt0 zu
  obtain ⟨zg, hzg⟩ := nearQ_is qa qt
  have dg1 : downQ (nearQ qa qt) qt = nearQ qa qt := by rw [hzg]; exact downQ_mul pt0 zg
  have dg2 : upQ (nearQ qa qt) qt = nearQ qa qt := by rw [hzg]; exact upQ_mul pt0 zg
  have zzd := downQ_size za zt et
  have zzu := upQ_size za zt et
  have zzg := nearQ_size za zt et
  have ig := pt_is (nearQ qa qt)
  obtain ⟨⟨sg, ng, dg⟩, hpg⟩ : ∃ t, pt (nearQ qa qt) = t := ⟨_, rfl⟩
  rw [hpg] at ig
  simp only at ig
  obtain ⟨lg1, lg2⟩ := (Szq.mono (m := 70) (zzg) (by decide)).len ig
  have id := pt_is (downQ qa qt)
  obtain ⟨⟨sd, nd, dd⟩, hpd⟩ : ∃ t, pt (downQ qa qt) = t := ⟨_, rfl⟩
  rw [hpd] at id
  simp only at id
  obtain ⟨ld1, ld2⟩ := (Szq.mono (m := 60) (zzd) (by decide)).len id
  have iu := pt_is (upQ qa qt)
  obtain ⟨⟨su, nu, du⟩, hpu⟩ : ∃ t, pt (upQ qa qt) = t := ⟨_, rfl⟩
  rw [hpu] at iu
  simp only at iu
  obtain ⟨lu1, lu2⟩ := (Szq.mono (m := 70) (zzu) (by decide)).len iu
  have zze := za.sub zzd
  have zzf := zzu.sub za
  have ie := pt_is (qa - downQ qa qt)
  obtain ⟨⟨se, ne, de⟩, hpe⟩ : ∃ t, pt (qa - downQ qa qt) = t := ⟨_, rfl⟩
  rw [hpe] at ie
  simp only at ie
  obtain ⟨le1, le2⟩ := (Szq.mono (m := 80) (zze) (by decide)).len ie
  have if' := pt_is (upQ qa qt - qa)
  obtain ⟨⟨sf, nf, df⟩, hpf⟩ : ∃ t, pt (upQ qa qt - qa) = t := ⟨_, rfl⟩
  rw [hpf] at if'
  simp only at if'
  obtain ⟨lf1, lf2⟩ := (Szq.mono (m := 90) (zzf) (by decide)).len if'
  obtain rfl : se = false := nn_false ie (by grind)
  obtain rfl : sf = false := nn_false if' (by grind)
  have hH0 : AnsM 11 #[] (.bool true) := fun W hT => sanity4 W hT
  have D1 := C_Down (s := sa) (n := na) (d := da) (t := st) (m := nt) (e := dt) (by omega) (by omega) (by omega) (by omega) ca ra rt id
  have U1 := C_Up (s := sa) (n := na) (d := da) (t := st) (m := nt) (e := dt) (by omega) (by omega) (by omega) (by omega) ca ra rt iu
  have rd := ratOf_is id
  have ru := ratOf_is iu
  have qd0 : Is (downQ qa qt / qt) (decide (zd < 0)) (nb zd.natAbs) [1] := by rw [hzd, mul_div et]; exact Is.int zd rfl
  have qu0 : Is (upQ qa qt / qt) (decide (zu < 0)) (nb zu.natAbs) [1] := by rw [hzu, mul_div et]; exact Is.int zu rfl
  have Qd := C_rQuo (s := sd) (n := nd) (d := dd) (t := st) (m := nt) (e := dt) (by omega) (by omega) (by omega) (by omega) rd rt et qd0
  have Qu := C_rQuo (s := su) (n := nu) (d := du) (t := st) (m := nt) (e := dt) (by omega) (by omega) (by omega) (by omega) ru rt et qu0
  have Ed := C_Down (s := sd) (n := nd) (d := dd) (t := st) (m := nt) (e := dt) (by omega) (by omega) (by omega) (by omega) (can_yes id it pt0) rd rt (by rw [dd1]; exact id)
  have Ud := C_Up (s := sd) (n := nd) (d := dd) (t := st) (m := nt) (e := dt) (by omega) (by omega) (by omega) (by omega) (can_yes id it pt0) rd rt (by rw [dd2]; exact id)
  have Eu := C_Down (s := su) (n := nu) (d := du) (t := st) (m := nt) (e := dt) (by omega) (by omega) (by omega) (by omega) (can_yes iu it pt0) ru rt (by rw [du1]; exact iu)
  have Uu := C_Up (s := su) (n := nu) (d := du) (t := st) (m := nt) (e := dt) (by omega) (by omega) (by omega) (by omega) (can_yes iu it pt0) ru rt (by rw [du2]; exact iu)
  have rg := ratOf_is ig
  have qg0 : Is (nearQ qa qt / qt) (decide (zg < 0)) (nb zg.natAbs) [1] := by rw [hzg, mul_div et]; exact Is.int zg rfl
  have Qg := C_rQuo (s := sg) (n := ng) (d := dg) (t := st) (m := nt) (e := dt) (by omega) (by omega) (by omega) (by omega) rg rt et qg0
  have Eg := C_Down (s := sg) (n := ng) (d := dg) (t := st) (m := nt) (e := dt) (by omega) (by omega) (by omega) (by omega) (can_yes ig it pt0) rg rt (by rw [dg1]; exact ig)
  have Ug := C_Up (s := sg) (n := ng) (d := dg) (t := st) (m := nt) (e := dt) (by omega) (by omega) (by omega) (by omega) (can_yes ig it pt0) rg rt (by rw [dg2]; exact ig)
  have N1 := C_Near (s := sa) (n := na) (d := da) (t := st) (m := nt) (e := dt) (by omega) (by omega) (by omega) (by omega) ca ra rt ig
  have S1 := C_rSub (s := sa) (n := na) (d := da) (t := sd) (m := nd) (e := dd) (by omega) (by omega) (by omega) (by omega) ra rd ie
  have S2 := C_rSub (s := su) (n := nu) (d := du) (t := sa) (m := na) (e := da) (by omega) (by omega) (by omega) (by omega) ru ra if'
  obtain ⟨c1, h1⟩ : ∃ k, sgr ((qa - downQ qa qt) - qt) = k := ⟨_, rfl⟩
  obtain ⟨c2, h2⟩ : ∃ k, sgr ((upQ qa qt - qa) - qt) = k := ⟨_, rfl⟩
  obtain ⟨c3, h3⟩ : ∃ k, sgr ((qa - downQ qa qt) - (upQ qa qt - qa)) = k := ⟨_, rfl⟩
  have C1 := C_rCmp (s := false) (n := ne) (d := de) (t := st) (m := nt) (e := dt) (by omega) (by omega) (by omega) (by omega) (ratOf_is ie) rt h1
  have C2 := C_rCmp (s := false) (n := nf) (d := df) (t := st) (m := nt) (e := dt) (by omega) (by omega) (by omega) (by omega) (ratOf_is if') rt h2
  have C3 := C_rCmp (s := false) (n := ne) (d := de) (t := false) (m := nf) (e := df) (by omega) (by omega) (by omega) (by omega) (ratOf_is ie) (ratOf_is if') h3
  have g1 : c1 < 0 := by rw [← h1]; exact sgr_ng (by grind)
  have g2 : c2 < 0 := by rw [← h2]; exact sgr_ng (by grind)
  have k1 : decide (0 ≤ c1) = false := decide_eq_false (by omega)
  have k2 : decide (0 ≤ c2) = false := decide_eq_false (by omega)
  by_cases hc : c3 < 0
  · have hlt : qa - downQ qa qt < upQ qa qt - qa := by have := ng_sgr (by rw [h3]; exact hc); grind
    rw [if_pos hlt] at hne
    rw [hne] at ig
    exact between_walk w ht k1 k2 (.inl ⟨decide_eq_true hc, ig.eqs id⟩) hH0 hma hmt D1 U1 N1 Qd Ed Ud Qu Eu Uu Qg Eg Ug S1 S2 C1 C2 C3
  · have hlt : ¬ qa - downQ qa qt < upQ qa qt - qa := fun h => hc (by rw [← h3]; exact sgr_ng (by grind))
    rw [if_neg hlt] at hne
    rw [hne] at ig
    exact between_walk w ht k1 k2 (.inr ⟨decide_eq_false hc, ig.eqs iu⟩) hH0 hma hmt D1 U1 N1 Qd Ed Ud Qu Eu Uu Qg Eg Ug S1 S2 C1 C2 C3
end Go.Proofs.YtloamjofcojnhaaGreatDoor
