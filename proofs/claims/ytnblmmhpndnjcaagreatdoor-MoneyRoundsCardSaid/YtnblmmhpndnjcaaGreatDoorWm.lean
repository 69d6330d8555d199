/- MoneyRounds: the core. -/
import Derived.Test.YtnblmmhpndnjcaaGreatDoorWk
import Derived.Test.YtnblmmhpndnjcaaGreatDoorWl
import Derived.Test.YtnblmmhpndnjcaaGreatDoorWj
import Derived.Test.YtnblmmhpndnjcaaGreatDoorIc
import Derived.Test.YtnblmmhpndnjcaaGreatDoorIe
namespace Go.Proofs.YtnblmmhpndnjcaaGreatDoor
open Go.RowKit
set_option maxHeartbeats 1600000 in
theorem rounds_any {qa qt : Rat} {sa st : Bool} {na da nt dt : List UInt8} (ia : Is qa sa na da) (it : Is qt st nt dt) (la1 : na.length ≤ 50) (la2 : da.length ≤ 50) (lt1 : nt.length ≤ 50) (lt2 : dt.length ≤ 50) :
    AnsM 15 #[Rv sa na da, Rv st nt dt] (.bool true) := by
  have ra := ratOf_is ia
  have rt := ratOf_is it
  have hD : ∃ r k f b, AnsM 23 #[Rv sa na da, Rv st nt dt] (.tuple #[Rv r k f, .bool b]) ∧ AnsM 46 #[Rv sa na da, Rv st nt dt] (.tuple #[Rv r k f, .bool b]) := by
    cases hb : canB sa na da st nt dt with
    | true =>
      obtain ⟨r, k, f, i⟩ := Is.ex (downQ qa qt)
      exact ⟨r, k, f, true, C_Down (by omega) (by omega) (by omega) (by omega) hb ra rt i, C_rDown (by omega) (by omega) (by omega) (by omega) hb ra rt i⟩
    | false => exact ⟨false, [], [], false, C_Down_no (by omega) (by omega) (by omega) (by omega) hb, C_rDown_no (by omega) (by omega) (by omega) (by omega) hb⟩
  have hU : ∃ r k f b, AnsM 24 #[Rv sa na da, Rv st nt dt] (.tuple #[Rv r k f, .bool b]) ∧ AnsM 47 #[Rv sa na da, Rv st nt dt] (.tuple #[Rv r k f, .bool b]) := by
    cases hb : canB sa na da st nt dt with
    | true =>
      obtain ⟨r, k, f, i⟩ := Is.ex (upQ qa qt)
      exact ⟨r, k, f, true, C_Up (by omega) (by omega) (by omega) (by omega) hb ra rt i, C_rUp (by omega) (by omega) (by omega) (by omega) hb ra rt i⟩
    | false => exact ⟨false, [], [], false, C_Up_no (by omega) (by omega) (by omega) (by omega) hb, C_rUp_no (by omega) (by omega) (by omega) (by omega) hb⟩
  have hN : ∃ r k f b, AnsM 25 #[Rv sa na da, Rv st nt dt] (.tuple #[Rv r k f, .bool b]) ∧ AnsM 48 #[Rv sa na da, Rv st nt dt] (.tuple #[Rv r k f, .bool b]) := by
    cases hb : canB sa na da st nt dt with
    | true =>
      obtain ⟨r, k, f, i⟩ := Is.ex (nearQ qa qt)
      exact ⟨r, k, f, true, C_Near (by omega) (by omega) (by omega) (by omega) hb ra rt i, C_rNear (by omega) (by omega) (by omega) (by omega) hb ra rt i⟩
    | false => exact ⟨false, [], [], false, C_Near_no (by omega) (by omega) (by omega) (by omega) hb, C_rNear_no (by omega) (by omega) (by omega) (by omega) (rightR_of ia) (rightR_of it) ra rt hb⟩
  have hC : ∃ c x b3 b4, AnsM 29 #[Rv sa na da] (.tuple #[.int .i64 c, .bool b3]) ∧ AnsM 49 #[Rv sa na da] (.tuple #[.int .i64 c, .bool b3]) ∧ AnsM 30 #[Rv sa na da] (.tuple #[S x, .bool b4]) ∧ AnsM 50 #[Rv sa na da] (.tuple #[S x, .bool b4]) := by
    cases hb : centsR sa na da with
    | some c => exact ⟨c, wtx c, true, true, C_Cents (o := some c) (by omega) (by omega) hb, C_rCents (o := some c) (by omega) (by omega) hb, C_mText_yes (by omega) (by omega) hb rfl, C_rmText_yes (by omega) (by omega) hb rfl⟩
    | none => exact ⟨0, [], false, false, C_Cents (o := none) (by omega) (by omega) hb, C_rCents (o := none) (by omega) (by omega) hb, C_mText_no (by omega) (by omega) hb, C_rmText_no (by omega) (by omega) hb⟩
  obtain ⟨r0, k0, f0, b0, d1, d2⟩ := hD
  obtain ⟨r1, k1, f1, b1, u1, u2⟩ := hU
  obtain ⟨r2, k2, f2, b2, n1, n2⟩ := hN
  obtain ⟨c, x, b3, b4, c1, c2, t1, t2⟩ := hC
  exact rounds_walk d1 u1 n1 c1 t1 (C_fits (by omega) (by omega) rfl) d2 u2 n2 c2 t2 (C_rFits (by omega) (by omega) rfl)
theorem rounds_sq {qa qt : Rat} {sa st : Bool} {na da nt dt : List UInt8} {K M : Nat} (ia : Is qa sa na da) (it : Is qt st nt dt) (za : Szq qa K) (zt : Szq qt M) (hK : K ≤ 50) (hM : M ≤ 50) :
    AnsM 15 #[Rv sa na da, Rv st nt dt] (.bool true) := by
  obtain ⟨l1, l2⟩ := za.len ia
  obtain ⟨l3, l4⟩ := zt.len it
  exact rounds_any ia it (by omega) (by omega) (by omega) (by omega)
theorem wf8 {a : Int} (h : (Lit.int .u8 a).wf = true) : 0 ≤ a ∧ a ≤ 255 := by
  have h : IntKind.u8.min ≤ a ∧ a ≤ IntKind.u8.max := by simpa [Lit.wf] using h
  exact h
set_option maxHeartbeats 1600000 in
theorem rounds_core (x0 x1 x2 z0 z1 z2 m : Int) (w : World) (hx0 : i64m x0) (hx1 : i64m x1) (hx2 : i64m x2) (hz0 : i64m z0) (hz1 : i64m z1) (hz2 : i64m z2) (hm : (Lit.int .u8 m).wf = true) (ht : Tm w) :
    Calls Tryz.prog 3 #[.agg #[.int .i64 x0, .int .i64 x1, .int .i64 x2], .agg #[.int .i64 z0, .int .i64 z1, .int .i64 z2], .int .u8 m] w (Yld w (.bool true)) := by
  obtain ⟨hm1, hm2⟩ := wf8 hm
  have hmi : i64m m := ⟨by omega, by omega⟩
  have za := mdq_size x0 x1 x2
  have hma : Ans 12 #[.agg #[.int .i64 x0, .int .i64 x1, .int .i64 x2]] (Tv (pt (mdq x0 x1 x2))) := fun W => made_any x0 x1 x2 W hx0 hx1 hx2
  obtain ⟨qa, hqa⟩ : ∃ q, mdq x0 x1 x2 = q := ⟨_, rfl⟩
  rw [hqa] at za hma
  have ia := pt_is qa
  obtain ⟨⟨sa, na, da⟩, hpa⟩ : ∃ t, pt qa = t := ⟨_, rfl⟩
  rw [hpa] at ia hma
  simp only at ia
  have zt := stq_size z0 z1 z2
  have hmt : AnsM 13 #[.agg #[.int .i64 z0, .int .i64 z1, .int .i64 z2]] (Tv (pt (stq z0 z1 z2))) := fun W hT => step_any z0 z1 z2 W hT hz0 hz1 hz2
  obtain ⟨qt, hqt⟩ : ∃ q, stq z0 z1 z2 = q := ⟨_, rfl⟩
  rw [hqt] at zt hmt
  have it := pt_is qt
  obtain ⟨⟨st, nt, dt⟩, hpt⟩ : ∃ t, pt qt = t := ⟨_, rfl⟩
  rw [hpt] at it hmt
  simp only at it
  have iw : Is (m : Rat) (decide (m < 0)) (nb m.natAbs) [1] := Is.int m rfl
  have zw : Szq (m : Rat) 8 := ⟨by rw [Rat.num_intCast]; have : (256 : Nat) ^ 8 = 18446744073709551616 := rfl; omega, by rw [Rat.den_intCast]; decide⟩
  obtain ⟨sp, np, dp, ip⟩ := Is.ex (qt * (m : Rat))
  obtain ⟨l1, l2⟩ := zt.len it
  obtain ⟨l3, l4⟩ := zw.len iw
  have hG4 := C_rOf m hmi.1 hmi.2 rfl
  have hG5 := C_rMul (s := st) (n := nt) (d := dt) (t := decide (m < 0)) (m := nb m.natAbs) (e := [1]) (by omega) (by omega) (by omega) (by decide) (ratOf_is it) (ratOf_is iw) ip
  have hG3 := rounds_sq ip it (zt.mul zw) zt (by decide) (by decide)
  by_cases h3 : m.tmod 3 = 0
  · obtain ⟨sv, nv, dv, iv⟩ := Is.ex ((x0 : Rat) * (1 / 100))
    exact rounds_law w ht (wrap_in hmi) (fun W hT => sanity4 W hT) hma hmt (rounds_sq iv it (cq_size hx0) zt (by decide) (by decide)) (rounds_sq it iv zt (cq_size hx0) (by decide) (by decide)) hG3 hG4 hG5 (.inl ⟨h3, C_r4Of hx0.1 hx0.2 iv⟩)
  · exact rounds_law w ht (wrap_in hmi) (fun W hT => sanity4 W hT) hma hmt (rounds_sq ia it za zt (by decide) (by decide)) (rounds_sq it ia zt za (by decide) (by decide)) hG3 hG4 hG5 (.inr ⟨⟨_, rfl, h3⟩, rfl, rfl, rfl⟩)
end Go.Proofs.YtnblmmhpndnjcaaGreatDoor
