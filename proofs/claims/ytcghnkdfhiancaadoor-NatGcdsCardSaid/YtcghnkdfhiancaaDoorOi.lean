/- Contract of package nat's Pow. -/
import Derived.Test.YtcghnkdfhiancaaDoorOh
namespace Go.Proofs.YtcghnkdfhiancaaDoor
open Go.RowKit
theorem ds_head (M : Nat) (h : 0 < M) : ∃ m0, (ds M)[0]? = some m0 ∧ m0 < 18446744073709551616 ∧ m0 % 2 = M % 2 :=
  ⟨M % D, by rw [ds_pos M (by omega)]; rfl, Nat.mod_lt _ D_pos, Nat.mod_mod_of_dvd M (by decide)⟩
theorem ds_lim42 (a : List UInt8) (h : a.length ≤ 1048576) : (ds (bv a)).length ≤ 1048576 := by
  rw [ds_len_bytes]
  have := trimL_len a
  omega
set_option maxRecDepth 100000 in
set_option maxHeartbeats 1600000 in
theorem Pow_no (a e m : List UInt8) (w : World) (hm : m.length ≤ 1048576) (h : bv m = 0) :
    Calls Tryd.prog 25 #[S a, S e, S m] w fun e w' => e = .returned (.tuple #[S [], .bool false]) ∧ Ch w.heap.size none1 w w' := by
  have hd := fun w => digitsOf_any m w (by omega)
  rw [h, ds_zero] at hd
  have HD := Lib.hid hd; clear hd
  go_enter Tryd.func25, Tryd.ntmps25
  go_wp2_with fail
  refine (HD.out _).mono ?_
  rintro e w1 ⟨g, rfl, _, _, hC⟩
  go_wp2_with fail
  go_ret2
  exact ⟨rfl, hC⟩
set_option maxRecDepth 100000 in
set_option maxHeartbeats 1600000 in
theorem Pow_yes (a es m : List UInt8) (w : World) (ha : a.length ≤ 1048576) (he : es.length ≤ 1048576) (hm : m.length ≤ 1048576) (h : 0 < bv m) :
    Calls Tryd.prog 25 #[S a, S es, S m] w fun e w' => e = .returned (.tuple #[S (nb (bv a ^ bv es % bv m)), .bool true]) ∧ Ch w.heap.size none1 w w' := by
  have hda := fun w => digitsOf_any a w (by omega)
  have hdm := fun w => digitsOf_any m w (by omega)
  have hna := ds_lim42 a ha
  have hnm := ds_lim42 m hm
  have hn0 : 0 < (ds (bv m)).length := ds_pos_len h
  obtain ⟨M, hM⟩ : ∃ M, bv m = M := ⟨_, rfl⟩
  obtain ⟨A, hA⟩ : ∃ A, bv a = A := ⟨_, rfl⟩
  rw [hM] at hdm hnm hn0 h
  rw [hA] at hda hna
  rw [hM, hA, Nat.pow_mod A]
  clear hM hA
  obtain ⟨m0, hm0, hm0D, hpar⟩ := ds_head M h
  have HM0 := Lib.hid hm0; clear hm0
  obtain ⟨n, hn⟩ : ∃ n, (ds M).length = n := ⟨_, rfl⟩
  rw [hn] at hdm hnm hn0
  have HN := Lib.hid hn; clear hn
  obtain ⟨k, hk⟩ : ∃ k, (ds A).length = k := ⟨_, rfl⟩
  rw [hk] at hda hna
  have HK := Lib.hid hk; clear hk
  have HDA := Lib.hid hda; clear hda
  have HDMm := Lib.hid hdm; clear hdm
  have hne : (((n : Nat) : Int) == 0) = false := nat_ne_bool (by omega)
  have hnp : (0 : Int) < (n : Int) := by omega
  go_enter Tryd.func25, Tryd.ntmps25
  go_wp2_with fail
  refine (HDMm.out _).mono ?_
  rintro e w1 ⟨gm, rfl, hBm, hgm, hC1⟩
  have HBM := Lib.hid hBm; clear hBm
  go_wp2_with fail
  refine (HDA.out _).mono ?_
  rintro e w2 ⟨ga, rfl, hBa, hga, hC2⟩
  have hBm2 := hC2.blk HBM.out HBM.out.lt (fun q => q)
  have hC := ch_step hC1 hC2
  have hd1 := dg_of_blk (post := []) (hBa.cast (by simp)) (dok_ds A) _ HK.out
  have hd2 := dg_of_blk (post := []) (hBm2.cast (by simp)) (dok_ds M) _ HN.out
  have HD1 := Lib.hid hd1
  have HD2 := Lib.hid hd2
  have HB2 := Lib.hid hBm2
  clear hd1 hd2 hBa hBm2 hC1 hC2 HBM
  go_wp2_with fail
  refine (divide_any _ _ _ _ A M _ _ _ HD1.out HD2.out (by omega) (by omega) h).mono ?_
  rintro e w3 ⟨v1, v2, rfl, _, ho2, hC3⟩
  have hr : RdD w3 v2 (A % M) ∧ ∀ c, v2 = .slice none 0 c → c = 0 := by
    rcases ho2 with ⟨hlt, rfl⟩ | ho2
    · rw [Nat.mod_eq_of_lt hlt]
      refine ⟨⟨_, _, by rw [HK.out], ?_⟩, fun c hc => by simp at hc⟩
      rw [HK.out]
      exact Dg.ch hC3 HD1.out (fun x hx => ⟨HD1.out.lt_size x hx, fun q => q⟩)
    · refine ⟨RdD.of_own ho2, fun c hc => ?_⟩
      obtain ⟨_, q⟩ := ho2
      rcases q with ⟨q, _⟩ | ⟨g, cap, cur, hv, _⟩
      · rw [q] at hc; simp at hc; omega
      · rw [hv] at hc; simp at hc
  have hB3 := hC3.blk HB2.out HB2.out.lt (fun q => q)
  have hCC := ch_step hC hC3
  have hmm : RdD w3 (.slice (some ⟨gm, 0, none⟩) n n) M := ⟨_, n, by rw [HN.out], by rw [HN.out]; exact dg_of_blk (post := []) (hB3.cast (by simp)) (dok_ds M) _ HN.out⟩
  have c0 : w3.cell? ⟨gm, 0, none⟩ = some (.int .u64 (m0 : Int)) := (hB3.cell 0).trans (by rw [List.getElem?_map, HM0.out]; rfl)
  have hbl : (ds (A % M)).length ≤ n := (ds_len _ _).2 (Nat.lt_trans (Nat.mod_lt _ h) ((ds_len M n).1 (by rw [HN.out]; exact Nat.le_refl _)))
  have HR := Lib.hid hr
  have HMM := Lib.hid hmm
  have HBL := Lib.hid hbl
  have HCC := Lib.hid hCC
  have hrem : ((m0 : Nat) : Int).tmod 2 = ((m0 % 2 : Nat) : Int) := by rw [Int.tmod_eq_emod_of_nonneg (by omega)]; exact (Int.natCast_emod m0 2).symm
  clear hr hmm hbl hCC hC3 hC ho2 hB3 HD1 HD2 HB2
  by_cases hev : m0 % 2 = 0
  · have hb1 : (((m0 : Nat) : Int).tmod 2 == 0) = true := by rw [hrem, hev]; rfl
    clear hrem
    have hM1 : 1 < M := by
      rcases Nat.lt_or_ge 1 M with q | q
      · exact q
      · have : M = 1 := by omega
        subst this
        omega
    go_wp2_with fail
    refine (powerByRests_any (A % M) M es v2 _ _ HR.out.1 HMM.out hM1 (by omega) (by have := HBL.out; omega) (by have := HN.out; omega)).mono ?_
    rintro e w4 ⟨v, rfl, hrv, hC4⟩
    obtain ⟨p, c, rfl, hdv⟩ := hrv
    have hvl : (ds ((A % M) ^ bv es % M)).length ≤ n := (ds_len _ _).2 (Nat.lt_trans (Nat.mod_lt _ h) ((ds_len M n).1 (by rw [HN.out]; exact Nat.le_refl _)))
    go_wp2_with fail
    refine (natural_any _ _ _ _ _ hdv (by omega)).mono ?_
    rintro e w5 ⟨rfl, hC5⟩
    rw [dv_ds]
    clear hdv
    go_wp2_with fail
    go_ret2
    exact ⟨rfl, ch_step (ch_step HCC.out hC4) hC5⟩
  · have hb1 : (((m0 : Nat) : Int).tmod 2 == 0) = false := by rw [hrem]; exact nat_ne_bool hev
    clear hrem
    go_wp2_with fail
    refine (powerOfMontgomery_any n M (A % M) es v2 _ _ HR.out.1 HBL.out HR.out.2 HMM.out HN.out (by omega) (by omega) (by omega)).mono ?_
    rintro e w4 ⟨v, rfl, hrv, hC4⟩
    obtain ⟨p, c, zs, rfl, hdv, hv⟩ := hrv
    go_wp2_with fail
    refine (natural_any _ _ _ _ _ hdv (by omega)).mono ?_
    rintro e w5 ⟨rfl, hC5⟩
    rw [hv]
    clear hdv hv
    go_wp2_with fail
    go_ret2
    exact ⟨rfl, ch_step (ch_step HCC.out hC4) hC5⟩
end Go.Proofs.YtcghnkdfhiancaaDoor
