/- MoneySplits: the core. -/
import Derived.Test.YtkeomlpecjjhiaaGreatDoorVx
namespace Go.Proofs.YtkeomlpecjjhiaaGreatDoor
open Go.RowKit
theorem prt_splitL {l : List T3} {z : Int} (h : splitB (some z) l = true) : splitL (some z) l = prt z (whl l) := by
 show (if splitB (some z) l = true then _ else _) = _
 rw [if_pos h]
 rfl
theorem rSplit_any {K n c : Nat} {p : Option Addr} {l : List T3} {o : Option Int} {s : Bool} {m d : List UInt8} (w : World) (ht : Tm w) (hr : Rs w p n l) (hK : 1 ≤ K) (hK2 : K ≤ 60) (hn : n ≤ 8) (hnK : n * K ≤ 360) (hz : ∀ t ∈ l, t.2.1.length ≤ K ∧ t.2.2.length ≤ K) (hm : m.length ≤ 390) (hd : d.length ≤ 390) (ho : centsR s m d = o) :
  Calls Tryz.prog 21 #[Rv s m d, .slice p n c] w (Ysp w o l) := by
 have hb1 : 1 + n * (K + 1) ≤ 400 := by rw [Nat.mul_add]; omega
 cases o with
 | none => exact (rSplit_no (c := c) w ht hr hK (by omega) hz hb1 (by omega) hm hd ho (.inl rfl)).mono fun e W' ⟨he, hC⟩ => Ysp.no rfl he hC
 | some z =>
  cases h : shB l with
  | false => exact (rSplit_no (c := c) w ht hr hK (by omega) hz hb1 (by omega) hm hd ho (.inr h)).mono fun e W' ⟨he, hC⟩ => Ysp.no (by rw [← shB_split]; exact h) he hC
  | true =>
   have h2 : splitB (some z) l = true := by rw [← shB_split]; exact h
   refine (rSplit_yes (c := c) w ht hr hK hK2 hn hnK hz hm hd ho h).mono fun e W' ⟨p', c', he, hR, hC⟩ => ⟨p', n, c', by rw [he, h2], by rw [prt_splitL h2]; exact hR, hC⟩
set_option maxRecDepth 100000 in
set_option maxHeartbeats 6400000 in
theorem splits_walk {c0 c1 : Int} {a : Option Addr} {n c N : Nat} {lw : List T3} (w0 : World) (ht0 : Tm w0) (hc1 : c0.tmod 1000 = c1)
  (h0 : AnsM 11 #[] (.bool true)) (hw : ∀ V, Ch w0.heap.size none1 w0 V → Calls Tryz.prog 34 #[.slice a n c] V (Yw V lw))
  (hz : ∀ z : Int, z = c0 ∨ z = c1 → ∃ sT nT dT B lp, AnsM 14 #[.int .i64 z] (Rv sT nT dT) ∧ lp.length ≤ 1000 ∧
   (∀ (V : World) p m q, Tm V → Rs V p m lw → Calls Tryz.prog 19 #[Rv sT nT dT, .slice p m q] V fun e V' => ∃ p' n' c', e = .returned (.tuple #[.slice p' n' c', .bool B]) ∧ Rs V' p' n' lp ∧ Ch V.heap.size none1 V V') ∧
   (∀ (V : World) p m q, Tm V → Rs V p m lw → Calls Tryz.prog 21 #[Rv sT nT dT, .slice p m q] V fun e V' => ∃ p' n' c', e = .returned (.tuple #[.slice p' n' c', .bool B]) ∧ Rs V' p' n' lp ∧ Ch V.heap.size none1 V V'))
  (hlw : lw.length = N) :
  Calls Tryz.prog 9 #[.int .i64 c0, .slice a n c] w0 (Yld w0 (.bool true)) := by
 have HT0 := Lib.hid ht0
 have HW := Lib.hid hw
 have H0 := Lib.hid h0
 have HLW := Lib.hid hlw
 have HZ := Lib.hid (show ∀ k, k < 2 → ∃ z sT nT dT B lp, [Value.int .i64 c0, Value.int .i64 c1][k]? = some (.int .i64 z) ∧ AnsM 14 #[.int .i64 z] (Rv sT nT dT) ∧ lp.length ≤ 1000 ∧
   (∀ (V : World) p m q, Tm V → Rs V p m lw → Calls Tryz.prog 19 #[Rv sT nT dT, .slice p m q] V fun e V' => ∃ p' n' c', e = .returned (.tuple #[.slice p' n' c', .bool B]) ∧ Rs V' p' n' lp ∧ Ch V.heap.size none1 V V') ∧
   (∀ (V : World) p m q, Tm V → Rs V p m lw → Calls Tryz.prog 21 #[Rv sT nT dT, .slice p m q] V fun e V' => ∃ p' n' c', e = .returned (.tuple #[.slice p' n' c', .bool B]) ∧ Rs V' p' n' lp ∧ Ch V.heap.size none1 V V') from fun k hk => by
  rcases (show k = 0 ∨ k = 1 by omega) with rfl | rfl
  ·obtain ⟨sT, nT, dT, B, lp, h1⟩ := hz c0 (.inl rfl)
   exact ⟨c0, sT, nT, dT, B, lp, rfl, h1⟩
  ·obtain ⟨sT, nT, dT, B, lp, h1⟩ := hz c1 (.inr rfl)
   exact ⟨c1, sT, nT, dT, B, lp, rfl, h1⟩)
 clear ht0 hw h0 hlw hz
 go_enter Tryz.func9, Tryz.ntmps9
 go_wp2_with fail
 refine (H0.out _ HT0.out).mono ?_
 rintro e w1 ⟨rfl, hC1⟩
 have HC1 := Lib.hid hC1
 clear hC1
 go_wp2_with fail
 refine (HW.out _ HC1.out).mono ?_
 rintro e w2 ⟨pw, nw, cw, rfl, hRw, hC2⟩
 have HC2 := Lib.hid (HC1.out.step0 hC2 (Nat.le_refl _))
 have hq : N = nw := by rw [← hRw.len, HLW.out]
 subst hq
 have HRW2 := Lib.hid hRw
 clear hC2 hRw HC1
 go_wp2_with fail
 have HBT := Lib.hid (Blk.new w2 #[.int .i64 c0, .int .i64 c1] 3)
 have HRW := Lib.hid (HRW2.out.ch (Ch.alloc0 (.cells #[.int .i64 c0, .int .i64 c1] 3 (0, 0))))
 have HC4 := Lib.hid (HC2.out.alloc (HC2.out.size) (.cells #[.int .i64 c0, .int .i64 c1] 3 (0, 0)))
 obtain ⟨V0, hV0⟩ : ∃ V, w2.alloc (.cells #[.int .i64 c0, .int .i64 c1] 3 (0, 0)) = V := ⟨_, rfl⟩
 rw [hV0] at HBT HRW HC4 ⊢
 obtain ⟨TB, hTB⟩ : ∃ A, w2.heap.size = A := ⟨_, rfl⟩
 rw [hTB] at HBT ⊢
 clear hV0 hTB HRW2 HC2
 have HT := Lib.hid (HT0.out.ch HC4.out)
 have HK0 := Lib.hid (show Kq V0 V0 [(TB, 3, [.int .i64 c0, .int .i64 c1])] from ⟨Ch.refl _ _ _, fun p hp => by obtain rfl := List.mem_singleton.1 hp; exact HBT.out⟩)
 clear HBT hc1
 go_loopw [21] (fun x wr => ∃ k : Nat, k ≤ 2 ∧ x = .int .i64 k ∧ Kq V0 wr [(TB, 3, [.int .i64 c0, .int .i64 c1])]) (fun x _ => 2 - (intOf x).toNat)
 case atStart => exact ⟨0, Nat.zero_le _, rfl, HK0.out⟩
 case round =>
  clear HK0
  obtain ⟨k, hk, rfl, hKK⟩ := hrel
  have HK := Lib.hid hKK
  clear hKK
  have hk0 : 0 ≤ (k : Int) := by omega
  by_cases hlt : k < 2
  ·have hkl : (k : Int) < 2 := by omega
   have hkd : decide ((k : Int) < 2) = true := decide_eq_true hkl
   obtain ⟨z, sT, nT, dT, B, lp, hz, ho, hlp, hs1, hs2⟩ := HZ.out k hlt
   have cz : wr.cell? ⟨TB, k, none⟩ = some (.int .i64 z) := ((HK.out.row _ mm0).cell k).trans hz
   have HO := Lib.hid ho
   have HS1 := Lib.hid hs1
   have HS2 := Lib.hid hs2
   have HLP := Lib.hid hlp
   clear hz ho hs1 hs2 hlp
   go_wp2_with fail
   clear cz
   refine (HO.out _ (HT.out.ch HK.out.ch)).mono ?_
   rintro e w3 ⟨rfl, hC⟩
   have HK3 := Lib.hid (HK.out.on hC)
   clear hC HK
   go_wp2_with fail
   refine (HS1.out _ _ _ _ (HT.out.ch HK3.out.ch) (HRW.out.ch HK3.out.ch)).mono ?_
   rintro e w4 ⟨p1, n1, q1, rfl, hR1, hC⟩
   have HK4 := Lib.hid (HK3.out.on hC)
   have HR1 := Lib.hid hR1
   clear hC HK3 hR1 HS1
   go_wp2_with fail
   refine (HO.out _ (HT.out.ch HK4.out.ch)).mono ?_
   rintro e w5 ⟨rfl, hC⟩
   have HK5 := Lib.hid (HK4.out.on hC)
   have HR5 := Lib.hid (HR1.out.ch hC)
   clear hC HK4 HR1
   go_wp2_with fail
   refine (HS2.out _ _ _ _ (HT.out.ch HK5.out.ch) (HRW.out.ch HK5.out.ch)).mono ?_
   rintro e w6 ⟨p2, n2, q2, rfl, hR2, hC⟩
   have HK6 := Lib.hid (HK5.out.on hC)
   have HR6 := Lib.hid (HR5.out.ch hC)
   have HSM := Lib.hid (show n1 = n2 ∧ (∀ q q', Calls Tryz.prog 22 #[.slice p1 n1 q, .slice p2 n1 q'] w6 (Yld w6 (.bool true))) from by
    have h := (HR6.out.len).symm.trans hR2.len
    subst h
    exact ⟨rfl, fun q q' => same4_true w6 p1 p2 n1 q q' lp HR6.out hR2 (by rw [← hR2.len]; exact HLP.out)⟩)
   obtain ⟨hnn, hsm⟩ := HSM.out
   subst hnn
   have HS := Lib.hid hsm
   clear hC HK5 HR5 hR2 HS2 HSM hsm HR6
   go_wp2_with fail
   refine (HS.out _ _).mono ?_
   rintro e w7 ⟨rfl, hC⟩
   have HK7 := Lib.hid (HK6.out.on hC)
   clear hC HK6
   go_wp2_with fail
   go_roundw
   case rel => exact ⟨k + 1, by omega, by go_num, HK7.out⟩
   case measure => simp [intOf]; omega
  ·obtain rfl : k = 2 := by omega
   go_wp2_with fail
   go_ret
   exact ⟨rfl, HC4.out.step0 HK.out.ch (Nat.le_refl _)⟩
theorem tmod_rng {c0 : Int} (_ : i64m c0) : i64m (c0.tmod 1000) := by
 have h1 := Int.tmod_lt_of_pos c0 (show (0 : Int) < 1000 by decide)
 have h2 : -1000 < c0.tmod 1000 := Int.lt_tmod_of_pos c0 (by decide)
 exact ⟨by omega, by omega⟩
set_option maxHeartbeats 3200000 in
theorem splits_core (c0 : Int) (xs : List (Int × Int × Int)) (a : Option Addr) (n c : Nat) (w : World) (hc : i64m c0) (hx : Ti w a n xs) (hn : n ≤ 9223372036854775807) (ht : Tm w) :
  Calls Tryz.prog 9 #[.int .i64 c0, .slice a n c] w (Yld w (.bool true)) := by
 have hz := weights3_len16 (xs := xs)
 have hl8 := weights3_len xs
 have hw : ∀ V, Ch w.heap.size none1 w V → Calls Tryz.prog 34 #[.slice a n c] V (Yw V (weights3 xs)) := fun V hC => Weights_any xs a n c V (hx.ch hC) hn
 obtain ⟨lw, hlw⟩ : ∃ l, weights3 xs = l := ⟨_, rfl⟩
 rw [hlw] at hz hl8 hw
 refine splits_walk w ht rfl (fun W hT => sanity4 W hT) hw (fun z hzz => ?_) rfl
 have hzr : i64m z := by
  rcases hzz with rfl | rfl
  ·exact hc
  ·exact tmod_rng hc
 obtain ⟨sT, nT, dT, iT⟩ := Is.ex ((z : Rat) * (1 / 100))
 have zT := cq_size hzr
 obtain ⟨t1, t2⟩ := zT.len iT
 have hcT := cq_cents hzr iT
 refine ⟨sT, nT, dT, splitB (some z) lw, splitL (some z) lw, C_r4Of hzr.1 hzr.2 iT, ?_, fun V p m q hT hr => split_any 16 lw p m q V hT hr (by rw [← hr.len]; omega) (by omega) (by omega) hcT (by decide) (by rw [← hr.len]; omega) hz,
  fun V p m q hT hr => rSplit_any (K := 16) V hT hr (by decide) (by decide) (by rw [← hr.len]; exact hl8) (by rw [← hr.len]; omega) hz (by omega) (by omega) hcT⟩
 cases h : splitB (some z) lw with
 | false => rw [splitL_no h]; simp
 | true => rw [prt_splitL h, prt_len, whl_len]; omega
end Go.Proofs.YtkeomlpecjjhiaaGreatDoor
