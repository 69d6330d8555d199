/- MoneyOrder: the core. -/
import Derived.Test.YtloamjofcojnhaaGreatDoorWa
import Derived.Test.YtloamjofcojnhaaGreatDoorWg
namespace Go.Proofs.YtloamjofcojnhaaGreatDoor
open Go.RowKit
set_option maxHeartbeats 1600000 in
theorem order_core (x0 x1 x2 y0 y1 y2 z0 z1 z2 : Int) (w : World) (hx0 : i64m x0) (hx1 : i64m x1) (hx2 : i64m x2) (hy0 : i64m y0) (hy1 : i64m y1) (hy2 : i64m y2) (hz0 : i64m z0) (hz1 : i64m z1) (hz2 : i64m z2) (ht : Tm w) :
    Calls Tryz.prog 6 #[.agg #[.int .i64 x0, .int .i64 x1, .int .i64 x2], .agg #[.int .i64 y0, .int .i64 y1, .int .i64 y2], .agg #[.int .i64 z0, .int .i64 z1, .int .i64 z2]] w (Yld w (.bool true)) := by
  have za := mdq_size x0 x1 x2
  have hma : Ans 12 #[.agg #[.int .i64 x0, .int .i64 x1, .int .i64 x2]] (Tv (pt (mdq x0 x1 x2))) := fun W => made_any x0 x1 x2 W hx0 hx1 hx2
  obtain ⟨qa, hqa⟩ : ∃ q, mdq x0 x1 x2 = q := ⟨_, rfl⟩
  rw [hqa] at za hma
  have ia := pt_is (qa)
  obtain ⟨⟨sa, na, da⟩, hpa⟩ : ∃ t, pt (qa) = t := ⟨_, rfl⟩
  rw [hpa] at ia
  simp only at ia
  obtain ⟨la1, la2⟩ := (Szq.mono (m := 16) (za) (by decide)).len ia
  rw [hpa] at hma
  have zb := mdq_size y0 y1 y2
  have hmb : Ans 12 #[.agg #[.int .i64 y0, .int .i64 y1, .int .i64 y2]] (Tv (pt (mdq y0 y1 y2))) := fun W => made_any y0 y1 y2 W hy0 hy1 hy2
  obtain ⟨qb, hqb⟩ : ∃ q, mdq y0 y1 y2 = q := ⟨_, rfl⟩
  rw [hqb] at zb hmb
  have ib := pt_is (qb)
  obtain ⟨⟨sb, nb, db⟩, hpb⟩ : ∃ t, pt (qb) = t := ⟨_, rfl⟩
  rw [hpb] at ib
  simp only at ib
  obtain ⟨lb1, lb2⟩ := (Szq.mono (m := 16) (zb) (by decide)).len ib
  rw [hpb] at hmb
  have zt := stq_size z0 z1 z2
  have pt0 := stq_pos z0 z1 z2
  have hmt : AnsM 13 #[.agg #[.int .i64 z0, .int .i64 z1, .int .i64 z2]] (Tv (pt (stq z0 z1 z2))) := fun W hT => step_any z0 z1 z2 W hT hz0 hz1 hz2
  obtain ⟨qt, hqt⟩ : ∃ q, stq z0 z1 z2 = q := ⟨_, rfl⟩
  rw [hqt] at zt hmt pt0
  have et : qt ≠ 0 := Ne.symm (Rat.ne_of_lt pt0)
  have it := pt_is (qt)
  obtain ⟨⟨st, nt, dt⟩, hpt⟩ : ∃ t, pt (qt) = t := ⟨_, rfl⟩
  rw [hpt] at it
  simp only at it
  obtain ⟨lt1, lt2⟩ := (Szq.mono (m := 16) (zt) (by decide)).len it
  rw [hpt] at hmt
  have ca := can_yes ia it pt0
  have cb := can_yes ib it pt0
  have ra := ratOf_is ia
  have rb := ratOf_is ib
  have rt := ratOf_is it
  have ip := pt_is (downQ qa qt)
  obtain ⟨⟨sp, np, dp⟩, hpp⟩ : ∃ t, pt (downQ qa qt) = t := ⟨_, rfl⟩
  rw [hpp] at ip
  simp only at ip
  obtain ⟨lp1, lp2⟩ := (Szq.mono (m := 60) (downQ_size za zt et) (by decide)).len ip
  have iu := pt_is (upQ qa qt)
  obtain ⟨⟨su, nu, du⟩, hpu⟩ : ∃ t, pt (upQ qa qt) = t := ⟨_, rfl⟩
  rw [hpu] at iu
  simp only at iu
  obtain ⟨lu1, lu2⟩ := (Szq.mono (m := 70) (upQ_size za zt et) (by decide)).len iu
  have im := pt_is (nearQ qa qt)
  obtain ⟨⟨sm, nm, dm⟩, hpm⟩ : ∃ t, pt (nearQ qa qt) = t := ⟨_, rfl⟩
  rw [hpm] at im
  simp only at im
  obtain ⟨lm1, lm2⟩ := (Szq.mono (m := 70) (nearQ_size za zt et) (by decide)).len im
  have iq := pt_is (downQ qb qt)
  obtain ⟨⟨sq, nq, dq⟩, hpq⟩ : ∃ t, pt (downQ qb qt) = t := ⟨_, rfl⟩
  rw [hpq] at iq
  simp only at iq
  obtain ⟨lq1, lq2⟩ := (Szq.mono (m := 60) (downQ_size zb zt et) (by decide)).len iq
  have iv := pt_is (upQ qb qt)
  obtain ⟨⟨sv, nv, dv⟩, hpv⟩ : ∃ t, pt (upQ qb qt) = t := ⟨_, rfl⟩
  rw [hpv] at iv
  simp only at iv
  obtain ⟨lv1, lv2⟩ := (Szq.mono (m := 70) (upQ_size zb zt et) (by decide)).len iv
  have ig := pt_is (nearQ qb qt)
  obtain ⟨⟨sg, ng, dg⟩, hpg⟩ : ∃ t, pt (nearQ qb qt) = t := ⟨_, rfl⟩
  rw [hpg] at ig
  simp only at ig
  obtain ⟨lg1, lg2⟩ := (Szq.mono (m := 70) (nearQ_size zb zt et) (by decide)).len ig
  have hH0 : AnsM 11 #[] (.bool true) := fun W hT => sanity4 W hT
  have D1 := C_Down (s := sa) (n := na) (d := da) (t := st) (m := nt) (e := dt) (by omega) (by omega) (by omega) (by omega) ca ra rt ip
  have D2 := C_Down (s := sb) (n := nb) (d := db) (t := st) (m := nt) (e := dt) (by omega) (by omega) (by omega) (by omega) cb rb rt iq
  have U1 := C_Up (s := sa) (n := na) (d := da) (t := st) (m := nt) (e := dt) (by omega) (by omega) (by omega) (by omega) ca ra rt iu
  have U2 := C_Up (s := sb) (n := nb) (d := db) (t := st) (m := nt) (e := dt) (by omega) (by omega) (by omega) (by omega) cb rb rt iv
  have N1 := C_Near (s := sa) (n := na) (d := da) (t := st) (m := nt) (e := dt) (by omega) (by omega) (by omega) (by omega) ca ra rt im
  have N2 := C_Near (s := sb) (n := nb) (d := db) (t := st) (m := nt) (e := dt) (by omega) (by omega) (by omega) (by omega) cb rb rt ig
  obtain ⟨k, hk⟩ : ∃ k, sgr (qa - qb) = k := ⟨_, rfl⟩
  have H4 := C_rCmp (s := sa) (n := na) (d := da) (t := sb) (m := nb) (e := db) (by omega) (by omega) (by omega) (by omega) ra rb hk
  by_cases hk0 : 0 < k
  · have hle : qb ≤ qa := by
      have h1 : sgr (qb - qa) ≤ 0 := by
        rw [← Rat.neg_sub, sgr_neg, hk]
        omega
      exact np_sub (np_sgr h1)
    obtain ⟨k1, hk1⟩ : ∃ k, sgr (downQ qb qt - downQ qa qt) = k := ⟨_, rfl⟩
    have hn1 : k1 ≤ 0 := by rw [← hk1]; exact sgr_np (sub_np (downQ_mono pt0 hle))
    have C1 := C_rCmp (s := sq) (n := nq) (d := dq) (t := sp) (m := np) (e := dp) (by omega) (by omega) (by omega) (by omega) (ratOf_is iq) (ratOf_is ip) hk1
    obtain ⟨k2, hk2⟩ : ∃ k, sgr (upQ qb qt - upQ qa qt) = k := ⟨_, rfl⟩
    have hn2 : k2 ≤ 0 := by rw [← hk2]; exact sgr_np (sub_np (upQ_mono pt0 hle))
    have C2 := C_rCmp (s := sv) (n := nv) (d := dv) (t := su) (m := nu) (e := du) (by omega) (by omega) (by omega) (by omega) (ratOf_is iv) (ratOf_is iu) hk2
    obtain ⟨k3, hk3⟩ : ∃ k, sgr (nearQ qb qt - nearQ qa qt) = k := ⟨_, rfl⟩
    have hn3 : k3 ≤ 0 := by rw [← hk3]; exact sgr_np (sub_np (nearQ_mono pt0 hle))
    have C3 := C_rCmp (s := sg) (n := ng) (d := dg) (t := sm) (m := nm) (e := dm) (by omega) (by omega) (by omega) (by omega) (ratOf_is ig) (ratOf_is im) hk3
    exact order_walk w ht (decide_eq_true hn1) (decide_eq_true hn2) (decide_eq_true hn3) hH0 hma hmb hmt H4 C1 C2 C3 (.inr ⟨decide_eq_true hk0, D2, D1, U2, U1, N2, N1⟩)
  · have hle : qa ≤ qb := np_sub (np_sgr (by rw [hk]; omega))
    obtain ⟨k1, hk1⟩ : ∃ k, sgr (downQ qa qt - downQ qb qt) = k := ⟨_, rfl⟩
    have hn1 : k1 ≤ 0 := by rw [← hk1]; exact sgr_np (sub_np (downQ_mono pt0 hle))
    have C1 := C_rCmp (s := sp) (n := np) (d := dp) (t := sq) (m := nq) (e := dq) (by omega) (by omega) (by omega) (by omega) (ratOf_is ip) (ratOf_is iq) hk1
    obtain ⟨k2, hk2⟩ : ∃ k, sgr (upQ qa qt - upQ qb qt) = k := ⟨_, rfl⟩
    have hn2 : k2 ≤ 0 := by rw [← hk2]; exact sgr_np (sub_np (upQ_mono pt0 hle))
    have C2 := C_rCmp (s := su) (n := nu) (d := du) (t := sv) (m := nv) (e := dv) (by omega) (by omega) (by omega) (by omega) (ratOf_is iu) (ratOf_is iv) hk2
    obtain ⟨k3, hk3⟩ : ∃ k, sgr (nearQ qa qt - nearQ qb qt) = k := ⟨_, rfl⟩
    have hn3 : k3 ≤ 0 := by rw [← hk3]; exact sgr_np (sub_np (nearQ_mono pt0 hle))
    have C3 := C_rCmp (s := sm) (n := nm) (d := dm) (t := sg) (m := ng) (e := dg) (by omega) (by omega) (by omega) (by omega) (ratOf_is im) (ratOf_is ig) hk3
    exact order_walk w ht (decide_eq_true hn1) (decide_eq_true hn2) (decide_eq_true hn3) hH0 hma hmb hmt H4 C1 C2 C3 (.inl ⟨decide_eq_false hk0, D1, D2, U1, U2, N1, N2⟩)
end Go.Proofs.YtloamjofcojnhaaGreatDoor
