/- The reference implementation's Bits. -/
import Derived.Test.YtcghnkdfhiancaaDoorUe
namespace Go.Proofs.YtcghnkdfhiancaaDoor
open Go.RowKit
theorem nbits_step (d : Nat) (h : d ≠ 0) : nbits d = nbits (d / 2) + 1 := by rw [nbits]; simp [h]
theorem nbits_head (b : UInt8) (l : List UInt8) (hb : ¬ b = 0) : nbits (bv (b :: l)) = 8 * l.length + nbits b.toNat := by
  have h0 : b.toNat ≠ 0 := fun h => hb (UInt8.toNat_inj.1 (by simpa using h))
  have h1 := (nbits_iff b.toNat (nbits b.toNat)).1 (Nat.le_refl _)
  have hp : 1 ≤ nbits b.toNat := by rw [nbits_step _ h0]; omega
  have h2 := mt (nbits_iff b.toNat (nbits b.toNat - 1)).2 (by omega)
  exact nbits_byte b l (nbits b.toNat) h1 (by omega) hp
set_option maxRecDepth 100000 in
set_option maxHeartbeats 800000 in
theorem refBits_any (a : List UInt8) (w : World) (ha : a.length ≤ 1152921504606846975) :
    Calls Tryd.prog 32 #[S a] w fun e w' => e = .returned (.int .i64 (nbits (bv a) : Nat)) ∧ w' = w := by
  have ha1 := trimL_len a
  have hbv := bv_trim a
  have hr := rt_trim a
  have HC0 := Lib.hid (canon_any a)
  obtain ⟨l, hl⟩ : ∃ l, trimL a = l := ⟨_, rfl⟩
  rw [hl] at ha1 hbv hr HC0
  clear hl
  rcases hr with rfl | ⟨b, m, rfl, hb⟩
  · have hz : nbits (bv a) = 0 := by rw [← hbv]; exact nbits_zero
    rw [hz]
    go_enter Tryd.func32, Tryd.ntmps32
    go_wp2_with fail
    refine (HC0.out _ ha).mono ?_
    rintro e w' ⟨rfl, rfl⟩
    go_wp2_with fail
    go_ret
    exact ⟨rfl, rfl⟩
  · have hh := nbits_head b m hb
    rw [hbv] at hh
    obtain ⟨T, hT⟩ : ∃ T, nbits (bv a) = T := ⟨_, rfl⟩
    rw [hT] at hh ⊢
    have h8 := (nbits_iff b.toNat 8).2 (by have := u8_lt b; omega)
    have hbb := u8_lt b
    have HH := Lib.hid hh
    have hTb : T ≤ 8 * m.length + 8 := by omega
    have hml : m.length ≤ 1152921504606846974 := by simp at ha1; omega
    have hlen : (((b :: m).length : Nat) : Int) = (m.length : Int) + 1 := by simp
    have HST := Lib.hid nbits_step
    have hg0 : ∀ h', (ByteArray.mk (b :: m).toArray)[0]'h' = b := fun _ => rfl
    clear hbv hT hh h8
    go_enter Tryd.func32, Tryd.ntmps32
    go_wp2_with fail
    refine (HC0.out _ ha).mono ?_
    rintro e w' ⟨rfl, rfl⟩
    go_wp2_with fail
    go_loop [3, 4] (fun n d => ∃ (nN dN : Nat), n = I nN ∧ d = I dN ∧ nN + nbits dN = T ∧ dN < 256) (fun _ d => (intOf d).toNat)
    case atStart => exact ⟨8 * m.length, b.toNat, by go_num, rfl, HH.out.symm, hbb⟩
    case round =>
      obtain ⟨nN, dN, rfl, rfl, hsum, hd⟩ := hrel
      have HSUM := Lib.hid hsum
      have hnT : nN ≤ T := by omega
      clear hsum
      by_cases h0 : dN = 0
      · subst h0
        go_wp2_with fail
        go_ret
        exact ⟨ret_nat (by have := HSUM.out; rw [nbits_zero] at this; omega), rfl⟩
      · have hst := HST.out dN h0
        have hpos : (0 : Int) < (dN : Int) := by omega
        have HS1 := Lib.hid hst
        have hq : (dN : Int).tdiv 2 = ((dN / 2 : Nat) : Int) := by rw [Int.tdiv_eq_ediv_of_nonneg (by omega)]; omega
        clear hst
        go_wp2_with fail
        go_round
        case rel => exact ⟨nN + 1, dN / 2, by go_num, by go_num, by have := HSUM.out; have := HS1.out; omega, by omega⟩
        case measure => simp [intOf]; omega
theorem C_refBits {a : List UInt8} {k : Int} (ha : a.length ≤ 10000) (hn : (nbits (bv a) : Int) = k) : Ans 32 #[S a] (.int .i64 k) := fun w =>
  (refBits_any a w (by omega)).mono fun _ _ ⟨he, hC⟩ => ⟨by rw [he, hn], ch_same hC⟩
end Go.Proofs.YtcghnkdfhiancaaDoor
