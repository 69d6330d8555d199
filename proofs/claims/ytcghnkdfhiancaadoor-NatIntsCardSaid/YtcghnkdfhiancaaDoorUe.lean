/- The reference implementation's Int, small, Cmp. -/
import Derived.Test.YtcghnkdfhiancaaDoorUd
namespace Go.Proofs.YtcghnkdfhiancaaDoor
open Go.RowKit
theorem refOf_any (n : Int) (w : World) (h0 : -9223372036854775808 ≤ n) (h1 : n ≤ 9223372036854775807) :
    Calls Tryd.prog 29 #[.int .i64 n] w (Yld w (S (nb n.toNat))) := by
  by_cases hp : 0 < n
  · obtain ⟨N, rfl⟩ := Int.eq_ofNat_of_zero_le (Int.le_of_lt hp)
    exact refOf_pos N w (by omega) (by omega)
  · have hz : nb n.toNat = [] := by rw [show n.toNat = 0 from by omega, nb_zero]
    rw [hz]
    exact refOf_neg n w h0 (by omega)
theorem take_bv_le (l : List UInt8) (k : Nat) : bv (l.take k) ≤ bv l := by
  by_cases h : k ≤ l.length
  · have := bv_take_div l (l.length - k) (by omega)
    rw [show l.length - (l.length - k) = k from by omega] at this
    rw [this]; exact Nat.div_le_self _ _
  · rw [List.take_of_length_le (by omega)]; exact Nat.le_refl _
set_option maxRecDepth 100000 in
set_option maxHeartbeats 800000 in
theorem refInt_yes (a : List UInt8) (w : World) (ha : a.length ≤ 1152921504606846975) (h1 : bv a ≤ 9223372036854775807) :
    Calls Tryd.prog 30 #[S a] w fun e w' => e = .returned (.tuple #[.int .i64 (bv a : Nat), .bool true]) ∧ w' = w := by
  have ha1 := trimL_len a
  have hbv := bv_trim a
  have h8 : (trimL a).length ≤ 8 := (trim_len8 a).2 (by omega)
  obtain ⟨l, hl⟩ : ∃ l, trimL a = l := ⟨_, rfl⟩
  have HC0 := Lib.hid (canon_any a)
  have hr := rt_trim a
  rw [hl] at ha1 hbv h8 HC0 hr
  have htk := take_bv_le l
  rw [hbv] at htk
  have HB := Lib.hid hbv
  have hfirst : ∀ h : 0 < l.length, l.length = 8 → (l[0].toNat : Int) ≤ 127 := fun h he => by
    have h2 := htk 1
    have h3 := bv_take_div l 7 (by omega)
    rw [show l.length - 7 = 1 from by omega, hbv] at h3
    have h4 : bv (l.take 1) = l[0].toNat := by
      rw [List.take_succ_eq_append_getElem h, List.take_zero, List.nil_append]
      simp [bv]
    rw [h4] at h3
    have : bv a / 256 ^ 7 ≤ 127 := by
      have : bv a / 256 ^ 7 < 128 := (Nat.div_lt_iff_lt_mul (by decide)).2 (by omega)
      omega
    omega
  clear hbv hr hl
  have HTK := Lib.hid htk; clear htk
  have hloop : ∀ k, k < l.length → bv (l.take (k + 1)) = bv (l.take k) * 256 + (l[k]?.getD 0).toNat := fun k hk => by
    rw [List.take_succ_eq_append_getElem hk, bv_snoc, List.getElem?_eq_getElem hk]; rfl
  have HLP := Lib.hid hloop; clear hloop
  have hfull : bv (l.take l.length) = bv a := by rw [List.take_length, HB.out]
  have HF := Lib.hid hfull; clear hfull
  have hnine : ¬ (8 : Int) < (l.length : Int) := by omega
  by_cases he8 : l.length = 8
  · have hp0 : 0 < l.length := by omega
    have hf := hfirst hp0 he8
    obtain ⟨b0, hb0⟩ : ∃ b, l[0] = b := ⟨_, rfl⟩
    rw [hb0] at hf
    have hg0 : ∀ h', (ByteArray.mk l.toArray)[0]'h' = b0 := fun _ => hb0
    have hne : ¬ (127 : Int) < (b0.toNat : Int) := by omega
    have he : ((l.length : Int) == 8) = true := by simp; omega
    clear hfirst hb0
    go_enter Tryd.func30, Tryd.ntmps30
    go_wp2_with fail
    refine (HC0.out _ (by omega)).mono ?_
    rintro e w' ⟨rfl, rfl⟩
    go_wp2_with fail
    go_loop [4, 5] (fun n i => ∃ k : Nat, k ≤ l.length ∧ i = I k ∧ n = I (bv (l.take k))) (fun _ i => l.length - (intOf i).toNat)
    case atStart => exact ⟨0, Nat.zero_le _, rfl, rfl⟩
    case round =>
      obtain ⟨k, hk, rfl, rfl⟩ := hrel
      by_cases hlt : k < l.length
      · have hst := HLP.out k hlt
        have hle := HTK.out (k + 1)
        rw [List.getElem?_eq_getElem hlt] at hst
        simp only [Option.getD_some] at hst
        obtain ⟨b, hb⟩ : ∃ b, l[k] = b := ⟨_, rfl⟩
        rw [hb] at hst
        obtain ⟨t, ht⟩ : ∃ t, bv (l.take (k + 1)) = t := ⟨_, rfl⟩
        obtain ⟨d, hd⟩ : ∃ d, bv (l.take k) = d := ⟨_, rfl⟩
        rw [ht] at hle
        rw [ht, hd] at hst
        rw [hd]
        have hbb := u8_lt b
        have hdb : d * 256 ≤ 9223372036854775807 := by omega
        have htb : d * 256 + b.toNat ≤ 9223372036854775807 := by omega
        have hg : ∀ h', (ByteArray.mk l.toArray)[k]'h' = b := fun _ => hb
        have HST := Lib.hid hst
        have HT := Lib.hid ht
        clear hst ht hd hb hle
        go_wp2_with fail
        go_round
        case rel => exact ⟨k + 1, by omega, by go_num, by rw [HT.out, HST.out]; go_num⟩
        case measure => simp [intOf]; omega
      · obtain rfl : k = l.length := by omega
        rw [HF.out]
        go_wp2_with fail
        go_ret2
        exact ⟨rfl, rfl⟩
  · have he : ((l.length : Int) == 8) = false := by simp; omega
    clear hfirst
    go_enter Tryd.func30, Tryd.ntmps30
    go_wp2_with fail
    refine (HC0.out _ (by omega)).mono ?_
    rintro e w' ⟨rfl, rfl⟩
    go_wp2_with fail
    go_loop [4, 5] (fun n i => ∃ k : Nat, k ≤ l.length ∧ i = I k ∧ n = I (bv (l.take k))) (fun _ i => l.length - (intOf i).toNat)
    case atStart => exact ⟨0, Nat.zero_le _, rfl, rfl⟩
    case round =>
      obtain ⟨k, hk, rfl, rfl⟩ := hrel
      by_cases hlt : k < l.length
      · have hst := HLP.out k hlt
        have hle := HTK.out (k + 1)
        rw [List.getElem?_eq_getElem hlt] at hst
        simp only [Option.getD_some] at hst
        obtain ⟨b, hb⟩ : ∃ b, l[k] = b := ⟨_, rfl⟩
        rw [hb] at hst
        obtain ⟨t, ht⟩ : ∃ t, bv (l.take (k + 1)) = t := ⟨_, rfl⟩
        obtain ⟨d, hd⟩ : ∃ d, bv (l.take k) = d := ⟨_, rfl⟩
        rw [ht] at hle
        rw [ht, hd] at hst
        rw [hd]
        have hbb := u8_lt b
        have hdb : d * 256 ≤ 9223372036854775807 := by omega
        have htb : d * 256 + b.toNat ≤ 9223372036854775807 := by omega
        have hg : ∀ h', (ByteArray.mk l.toArray)[k]'h' = b := fun _ => hb
        have HST := Lib.hid hst
        have HT := Lib.hid ht
        clear hst ht hd hb hle
        go_wp2_with fail
        go_round
        case rel => exact ⟨k + 1, by omega, by go_num, by rw [HT.out, HST.out]; go_num⟩
        case measure => simp [intOf]; omega
      · obtain rfl : k = l.length := by omega
        rw [HF.out]
        go_wp2_with fail
        go_ret2
        exact ⟨rfl, rfl⟩
set_option maxRecDepth 100000 in
set_option maxHeartbeats 800000 in
theorem refInt_no (a : List UInt8) (w : World) (ha : a.length ≤ 1152921504606846975) (h1 : ¬ bv a ≤ 9223372036854775807) :
    Calls Tryd.prog 30 #[S a] w fun e w' => e = .returned (.tuple #[.int .i64 0, .bool false]) ∧ w' = w := by
  have ha1 := trimL_len a
  have hbv := bv_trim a
  have HC0 := Lib.hid (canon_any a)
  have hr := trim_len a 7
  obtain ⟨l, hl⟩ : ∃ l, trimL a = l := ⟨_, rfl⟩
  rw [hl] at ha1 hbv HC0 hr
  clear hl
  have h7 : ¬ l.length ≤ 7 := fun q => by
    have := hr.1 q
    omega
  by_cases he8 : l.length = 8
  · have hp0 : 0 < l.length := by omega
    have hf : (127 : Int) < (l[0].toNat : Int) := by
      have h3 := bv_take_div l 7 (by omega)
      rw [show l.length - 7 = 1 from by omega, hbv] at h3
      have h4 : bv (l.take 1) = l[0].toNat := by
        rw [List.take_succ_eq_append_getElem hp0, List.take_zero, List.nil_append]
        simp [bv]
      rw [h4] at h3
      have : 128 ≤ bv a / 256 ^ 7 := (Nat.le_div_iff_mul_le (by decide)).2 (by omega)
      omega
    obtain ⟨b0, hb0⟩ : ∃ b, l[0] = b := ⟨_, rfl⟩
    rw [hb0] at hf
    have hg0 : ∀ h', (ByteArray.mk l.toArray)[0]'h' = b0 := fun _ => hb0
    have hnine : ¬ (8 : Int) < (l.length : Int) := by omega
    have he : ((l.length : Int) == 8) = true := by simp; omega
    clear hb0 hr hbv h1
    go_enter Tryd.func30, Tryd.ntmps30
    go_wp2_with fail
    refine (HC0.out _ (by omega)).mono ?_
    rintro e w' ⟨rfl, rfl⟩
    go_wp2_with fail
    go_ret2
    exact ⟨rfl, rfl⟩
  · have hnine : (8 : Int) < (l.length : Int) := by omega
    clear hr hbv h1 h7 he8
    go_enter Tryd.func30, Tryd.ntmps30
    go_wp2_with fail
    refine (HC0.out _ (by omega)).mono ?_
    rintro e w' ⟨rfl, rfl⟩
    go_wp2_with fail
    go_ret2
    exact ⟨rfl, rfl⟩
end Go.Proofs.YtcghnkdfhiancaaDoor
