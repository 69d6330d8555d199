/- Contracts of the reference implementation's small functions. -/
import Derived.Test.YtcghnkdfhiancaaDoorNc
import Derived.BigQuiet
namespace Go.Proofs.YtcghnkdfhiancaaDoor
open Go.RowKit
theorem ext_drop (l : List UInt8) (k n : Nat) (h : n = l.length) : (ByteArray.mk l.toArray).extract k n = ⟨(l.drop k).toArray⟩ := by
  subst h
  apply ByteArray.ext
  simp [ByteArray.data_extract]
  exact List.take_of_length_le (by rw [List.length_drop]; exact Nat.le_refl _)
theorem trimL_drop_step (l : List UInt8) (k : Nat) (hk : k < l.length) (h : l[k] = 0) : trimL (l.drop k) = trimL (l.drop (k + 1)) := by
  rw [List.drop_eq_getElem_cons hk, h, trimL_zero]
theorem trimL_drop_stop (l : List UInt8) (k : Nat) (hk : k < l.length) (h : ¬ l[k] = 0) : trimL (l.drop k) = l.drop k := by
  rw [List.drop_eq_getElem_cons hk, trimL_ne _ _ h]
set_option maxRecDepth 100000 in
set_option maxHeartbeats 800000 in
theorem canon_any (l : List UInt8) (w : World) (hl : l.length ≤ 1152921504606846975) :
    Calls Tryd.prog 33 #[S l] w fun e w' => e = .returned (S (trimL l)) ∧ w' = w := by
  go_enter Tryd.func33, Tryd.ntmps33
  go_wp2_with fail
  go_loop [3] (fun i => ∃ k : Nat, k ≤ l.length ∧ i = .int .i64 k ∧ trimL (l.drop k) = trimL l) (fun i => l.length - (intOf i).toNat)
  case atStart => exact ⟨0, Nat.zero_le _, rfl, by rw [List.drop_zero]⟩
  case round =>
    obtain ⟨k, hk, rfl, ht⟩ := hrel
    have HT := Lib.hid ht; clear ht
    by_cases hlt : k < l.length
    · have hst := trimL_drop_step l k hlt
      have hsp := trimL_drop_stop l k hlt
      obtain ⟨b, hb⟩ : ∃ b, l[k] = b := ⟨_, rfl⟩
      rw [hb] at hst hsp
      have hg : ∀ h', (ByteArray.mk l.toArray)[k]'h' = b := fun _ => hb
      have HB := Lib.hid hb; clear hb
      have HST := Lib.hid hst; clear hst
      have HSP := Lib.hid hsp; clear hsp
      by_cases h0 : b = 0
      · subst h0
        go_wp2_with fail
        go_round
        case rel => exact ⟨k + 1, by omega, by go_num, by rw [← HST.out rfl]; exact HT.out⟩
        case measure => simp [intOf]; omega
      · have hbb : (((b.toNat : Nat) : Int) == 0) = false := by
          rw [beq_eq_false_iff_ne]
          intro h
          exact h0 (UInt8.toNat_inj.1 (show b.toNat = (0 : UInt8).toNat from by simpa using h))
        go_wp2_with fail
        go_ret
        exact ⟨by rw [ext_drop l k _ rfl, ← HT.out, HSP.out h0]; rfl, rfl⟩
    · have hkl : k = l.length := by omega
      have HKL := Lib.hid hkl; clear hkl
      go_wp2_with fail
      go_ret
      refine ⟨?_, rfl⟩
      have h1 := HT.out
      rw [List.drop_of_length_le (by omega)] at h1
      rw [← h1, ext_drop l k _ rfl, List.drop_of_length_le (by omega)]
      rfl
set_option maxHeartbeats 800000 in
theorem refRight_any (a : List UInt8) (w : World) (ha : a.length ≤ maxLen) :
    Calls Tryd.prog 20 #[S a] w fun e w' => e = .returned (.bool (rightB a)) ∧ w' = w := by
  unfold maxLen at ha
  rcases a with _ | ⟨b, l⟩
  · go_enter Tryd.func20, Tryd.ntmps20
    go_wp2_with fail
    go_ret
    exact ⟨rfl, rfl⟩
  · go_enter Tryd.func20, Tryd.ntmps20
    go_wp2_with fail
    go_ret
    exact ⟨ret_bool (u8_ne b), rfl⟩
end Go.Proofs.YtcghnkdfhiancaaDoor
