/- rounds, of layer 4's laws, for any parts, right or not. -/
import Derived.Test.YtkeomlpecjjhiaaGreatDoorWk
import Derived.Test.YtkeomlpecjjhiaaGreatDoorIc
import Derived.Test.YtkeomlpecjjhiaaGreatDoorIe
namespace Go.Proofs.YtkeomlpecjjhiaaGreatDoor
open Go.RowKit
set_option maxHeartbeats 1600000 in
theorem rounds_raw {sa st : Bool} {na da nt dt : List UInt8} (la1 : na.length ≤ 60) (la2 : da.length ≤ 60) (lt1 : nt.length ≤ 60) (lt2 : dt.length ≤ 60) :
  AnsM 15 #[Rv sa na da, Rv st nt dt] (.bool true) := by
 have hD : ∃ r k f b, AnsM 23 #[Rv sa na da, Rv st nt dt] (.tuple #[Rv r k f, .bool b]) ∧ AnsM 46 #[Rv sa na da, Rv st nt dt] (.tuple #[Rv r k f, .bool b]) := by
  cases hb : canB sa na da st nt dt with
  | true =>
   obtain ⟨r, k, f, i⟩ := Is.ex (downQ (ratOf sa na da) (ratOf st nt dt))
   exact ⟨r, k, f, true, C_Down (by omega) (by omega) (by omega) (by omega) hb rfl rfl i, C_rDown (by omega) (by omega) (by omega) (by omega) hb rfl rfl i⟩
  | false => exact ⟨false, [], [], false, C_Down_no (by omega) (by omega) (by omega) (by omega) hb, C_rDown_no (by omega) (by omega) (by omega) (by omega) hb⟩
 have hU : ∃ r k f b, AnsM 24 #[Rv sa na da, Rv st nt dt] (.tuple #[Rv r k f, .bool b]) ∧ AnsM 47 #[Rv sa na da, Rv st nt dt] (.tuple #[Rv r k f, .bool b]) := by
  cases hb : canB sa na da st nt dt with
  | true =>
   obtain ⟨r, k, f, i⟩ := Is.ex (upQ (ratOf sa na da) (ratOf st nt dt))
   exact ⟨r, k, f, true, C_Up (by omega) (by omega) (by omega) (by omega) hb rfl rfl i, C_rUp (by omega) (by omega) (by omega) (by omega) hb rfl rfl i⟩
  | false => exact ⟨false, [], [], false, C_Up_no (by omega) (by omega) (by omega) (by omega) hb, C_rUp_no (by omega) (by omega) (by omega) (by omega) hb⟩
 have hN : ∃ r k f b, AnsM 25 #[Rv sa na da, Rv st nt dt] (.tuple #[Rv r k f, .bool b]) ∧ AnsM 48 #[Rv sa na da, Rv st nt dt] (.tuple #[Rv r k f, .bool b]) := by
  cases hb : canB sa na da st nt dt with
  | true =>
   obtain ⟨r, k, f, i⟩ := Is.ex (nearQ (ratOf sa na da) (ratOf st nt dt))
   exact ⟨r, k, f, true, C_Near (by omega) (by omega) (by omega) (by omega) hb rfl rfl i, C_rNear (by omega) (by omega) (by omega) (by omega) hb rfl rfl i⟩
  | false =>
   refine ⟨false, [], [], false, C_Near_no (by omega) (by omega) (by omega) (by omega) hb, ?_⟩
   cases h1 : rightR sa na da with
   | false => exact C_rNear_bad (by omega) (by omega) (by omega) (by omega) (.inl h1)
   | true =>
    cases h2 : rightR st nt dt with
    | false => exact C_rNear_bad (by omega) (by omega) (by omega) (by omega) (.inr h2)
    | true => exact C_rNear_no (by omega) (by omega) (by omega) (by omega) h1 h2 rfl rfl hb
 have hC : ∃ c x b3 b4, AnsM 29 #[Rv sa na da] (.tuple #[.int .i64 c, .bool b3]) ∧ AnsM 49 #[Rv sa na da] (.tuple #[.int .i64 c, .bool b3]) ∧ AnsM 30 #[Rv sa na da] (.tuple #[S x, .bool b4]) ∧ AnsM 50 #[Rv sa na da] (.tuple #[S x, .bool b4]) := by
  cases hb : centsR sa na da with
  | some c => exact ⟨c, wtx c, true, true, C_Cents (o := some c) (by omega) (by omega) hb, C_rCents (o := some c) (by omega) (by omega) hb, C_mText_yes (by omega) (by omega) hb rfl, C_rmText_yes (by omega) (by omega) hb rfl⟩
  | none => exact ⟨0, [], false, false, C_Cents (o := none) (by omega) (by omega) hb, C_rCents (o := none) (by omega) (by omega) hb, C_mText_no (by omega) (by omega) hb, C_rmText_no (by omega) (by omega) hb⟩
 obtain ⟨r0, k0, f0, b0, d1, d2⟩ := hD
 obtain ⟨r1, k1, f1, b1, u1, u2⟩ := hU
 obtain ⟨r2, k2, f2, b2, n1, n2⟩ := hN
 obtain ⟨c, x, b3, b4, c1, c2, t1, t2⟩ := hC
 exact rounds_walk d1 u1 n1 c1 t1 (C_fits (by omega) (by omega) rfl) d2 u2 n2 c2 t2 (C_rFits (by omega) (by omega) rfl)
end Go.Proofs.YtkeomlpecjjhiaaGreatDoor
