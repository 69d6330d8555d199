/- SpanMany: mathematics and the walk. -/
import Derived.Test.YtdpapnfjjmeppaaDoorJr
namespace Go.Proofs.YtdpapnfjjmeppaaDoor
open Go.RowKit Go.Shelf
theorem made_ends {xs : List (Int × Int)} {s : Spn.Sp} (h : s ∈ made xs) : s.2 ≤ 71 ∨ 3652039 ≤ s.1 := by
  unfold made at h
  obtain ⟨x, _, rfl⟩ := List.mem_map.1 h
  unfold mk
  dsimp only
  split <;> omega
theorem made_mid {xs : List (Int × Int)} {d : Int} (h0 : 75 ≤ d) (h1 : d < 3651984) : Spn.has (made xs) d = false := Spn.has_not.2 fun s hs _ h => by
  rcases made_ends hs with q | q <;> omega
theorem many_sum (xs : List (Int × Int)) : Spn.days (Spn.nf (Spn.has (made xs))) = Spn.cnt (Spn.has (made xs)) 0 75 + Spn.cnt (Spn.has (made xs)) (3652059 - ((75 : Nat) : Int)) 75 := by
  obtain ⟨M, hM⟩ : ∃ M : Nat, (M : Int) = 3651909 := ⟨3651909, rfl⟩
  rw [Spn.days_nf (Spn.dom_has (made xs)) (N := 75 + (M + 75)) (by omega), Spn.cnt_add, Spn.cnt_add]
  rw [Spn.cnt_none (s := 0 + ((75 : Nat) : Int)) (n := M) (fun d h0 h1 => made_mid (by omega) (by omega))]
  rw [show 0 + ((75 : Nat) : Int) + (M : Int) = 3652059 - ((75 : Nat) : Int) by omega]
  omega
theorem many_both (A B : List Spn.Sp) : Spn.days (Spn.nf (dUnion A B)) + Spn.days (Spn.nf (dMeet A B)) = Spn.days (Spn.nf (Spn.has A)) + Spn.days (Spn.nf (Spn.has B)) := by
  obtain ⟨N, hN⟩ : ∃ N : Nat, (N : Int) = 3652059 := ⟨3652059, rfl⟩
  rw [Spn.days_nf (dom_union A B) hN, Spn.days_nf (dom_meet A B) hN, Spn.days_nf (Spn.dom_has A) hN, Spn.days_nf (Spn.dom_has B) hN]
  exact Spn.cnt_or_and (Spn.has A) (Spn.has B) 0 N
theorem many_step (p : Int → Bool) (k : Nat) : Spn.cnt p 0 (k + 1) + Spn.cnt p (3652059 - ((k + 1 : Nat) : Int)) (k + 1) = Spn.cnt p 0 k + Spn.cnt p (3652059 - (k : Int)) k + (if p (k : Int) then 1 else 0) + (if p (3652058 - (k : Int)) then 1 else 0) := by
  rw [Spn.cnt_succ, Spn.cnt_cons, show 3652059 - ((k + 1 : Nat) : Int) = 3652058 - (k : Int) by omega, show 3652058 - (k : Int) + 1 = 3652059 - (k : Int) by omega, Int.zero_add]
  omega
theorem Has_as {d : Int} {w : World} {p : Option Addr} {n cap : Nat} {l : List Spn.Sp} {b : Bool} (hv : Rd spc 2 w p n l) (hn : n ≤ 1000000000) (h : Spn.has l d = b) :
    Calls Tryd.prog 28 #[.slice p n cap, iz d] w (Ya w (.bool b)) := by
  have := Has_any d w p n cap l hv hn
  rwa [h] at this
theorem Days_as {a : List Spn.Sp} {pa : Option Addr} {na ca : Nat} {w : World} {d : Int} (ha : Rd spc 2 w pa na a) (hna : na ≤ 4000000) (h : Spn.days (Spn.nf (Spn.has a)) = d) :
    Calls Tryd.prog 30 #[.slice pa na ca] w (Ya w (iz d)) := by
  have := Days_any a pa na ca w ha hna
  rwa [h] at this
theorem days_of {p : Int → Bool} (h : Spn.Dom p) {d : Int} (e : Spn.days (Spn.nf p) = d) : Spn.days (Spn.nf (Spn.has (Spn.nf p))) = d := by rw [Spn.nf_has (Spn.nf_spec h).1, e]
theorem days_rg {p : Int → Bool} (h : Spn.Dom p) {d : Int} (e : Spn.days (Spn.nf p) = d) : 0 ≤ d ∧ d ≤ 3652059 := by rw [← e]; exact Spn.days_range (Spn.nf_spec h).1
set_option maxRecDepth 100000 in
set_option maxHeartbeats 8000000 in
theorem many_core (xs ys : List (Int × Int)) (px py : Option Addr) (nx ny cx cy : Nat) (w : World) (hx : Ra w px nx xs) (hy : Ra w py ny ys) (hnx : nx ≤ 9223372036854775807) (hny : ny ≤ 9223372036854775807) (ht : LenIs w) :
    Calls Tryd.prog 8 #[.slice px nx cx, .slice py ny cy] w (Ya w (.bool true)) := by
  have HX := Lib.hid hx
  have HY := Lib.hid hy
  clear hx hy
  obtain ⟨DA, hDA⟩ : ∃ v, Spn.days (Spn.nf (Spn.has (made xs))) = v := ⟨_, rfl⟩
  obtain ⟨DB, hDB⟩ : ∃ v, Spn.days (Spn.nf (Spn.has (made ys))) = v := ⟨_, rfl⟩
  obtain ⟨DU, hDU⟩ : ∃ v, Spn.days (Spn.nf (dUnion (made xs) (made ys))) = v := ⟨_, rfl⟩
  obtain ⟨DM, hDM⟩ : ∃ v, Spn.days (Spn.nf (dMeet (made xs) (made ys))) = v := ⟨_, rfl⟩
  have ra := days_rg (Spn.dom_has _) hDA
  have rb := days_rg (Spn.dom_has _) hDB
  have ru := days_rg (dom_union _ _) hDU
  have rm := days_rg (dom_meet _ _) hDM
  have hsum : DU + DM = DA + DB := by rw [← hDA, ← hDB, ← hDU, ← hDM]; exact many_both _ _
  have HDM := Lib.hid hDM
  have HDU := Lib.hid hDU
  have HDB := Lib.hid hDB
  have HDA := Lib.hid hDA
  have HSUM := Lib.hid hsum
  clear hDA hDB hDU hDM hsum
  have HT := Lib.hid ht
  have HK := Lib.hid (Kr.nil w)
  clear ht
  go_enter Tryd.func8, Tryd.ntmps8
  go_wp2_with fail
  refine (sanity_any _ (len_ch HT.out HK.out.ch)).mono ?_
  rintro e w1 ⟨rfl, hC⟩
  have HK2 := Lib.hid (HK.out.on hC)
  clear hC HK
  have HK := HK2
  clear HK2
  go_wp2_with fail
  refine (Made_any xs _ _ _ _ (HX.out.ch HK.out.ch) hnx).mono ?_
  rintro e w2 ⟨p2, n2, c2, rfl, hr, hC⟩
  have HK2 := Lib.hid (HK.out.res hC hr)
  clear hC hr HK
  have HK := HK2
  clear HK2
  go_wp2_with fail
  have ha : n2 ≤ 8 := by have h1 := (show Rd spc 2 w2 (p2) n2 (made xs) from HK.out.rd (p2, n2, (made xs)) (.head _)).len; have h2 := made_len xs; omega
  refine (Made_any ys _ _ _ _ (HY.out.ch HK.out.ch) hny).mono ?_
  rintro e w3 ⟨p3, n3, c3, rfl, hr, hC⟩
  have HK2 := Lib.hid (HK.out.res hC hr)
  clear hC hr HK
  have HK := HK2
  clear HK2
  go_wp2_with fail
  have hb : n3 ≤ 8 := by have h1 := (show Rd spc 2 w3 (p3) n3 (made ys) from HK.out.rd (p3, n3, (made ys)) (.head _)).len; have h2 := made_len ys; omega
  go_loopw [8, 9] (fun n i wr => ∃ (k : Nat) (v : Int), k ≤ 75 ∧ i = .int .i64 k ∧ n = iz v ∧ (0 ≤ v ∧ v ≤ 1000) ∧ v = Spn.cnt (Spn.has (made xs)) 0 k + Spn.cnt (Spn.has (made xs)) (3652059 - (k : Int)) k ∧ Ch w3.heap.size none1 w3 wr) (fun _ i _ => 75 - (intOf i).toNat)
  case atStart => exact ⟨0, 0, by omega, rfl, rfl, by omega, rfl, Ch.refl _ _ _⟩
  case round =>
    obtain ⟨k, v, hk, rfl, rfl, hv, hV, hC⟩ := hrel
    have hvk : v ≤ 2 * k := by
      have h1 := (Spn.cnt_nonneg (Spn.has (made xs)) 0 k).2
      have h2 := (Spn.cnt_nonneg (Spn.has (made xs)) (3652059 - (k : Int)) k).2
      omega
    have HV := Lib.hid hV
    have HC0 := Lib.hid hC
    have HK3 := Lib.hid (HK.out.on hC)
    clear hV hC
    by_cases hlt : k < 75
    · have HST := Lib.hid (many_step (Spn.has (made xs)) k)
      obtain ⟨f, hf⟩ : ∃ f, 3652058 - (k : Int) = f := ⟨_, rfl⟩
      have hfr : 3651983 ≤ f ∧ f ≤ 3652058 := by omega
      obtain ⟨b1, hb1⟩ : ∃ b, Spn.has (made xs) (k : Int) = b := ⟨_, rfl⟩
      obtain ⟨b2, hb2⟩ : ∃ b, Spn.has (made xs) f = b := ⟨_, rfl⟩
      have HST2 := HST.out
      rw [hf, hb1, hb2] at HST2
      have HB1 := Lib.hid hb1
      have HB2 := Lib.hid hb2
      clear hb1 hb2 HST
      rcases b1 with _ | _ <;> rcases b2 with _ | _
      · have HS3 := Lib.hid (show v + 0 = Spn.cnt (Spn.has (made xs)) 0 (k + 1) + Spn.cnt (Spn.has (made xs)) (3652059 - ((k + 1 : Nat) : Int)) (k + 1) by rw [HST2, ← HV.out]; simp only [if_true, if_false, Bool.false_eq_true]; omega)
        clear HST2
        go_wp2_with fail
        refine (Has_as (show Rd spc 2 wr (p2) n2 (made xs) from HK3.out.rd (p2, n2, (made xs)) (.tail _ (.head _))) (by omega) HB1.out).mono ?_
        rintro e wa ⟨rfl, hC⟩
        have HKa := Lib.hid (HK3.out.on hC)
        have HCa := Lib.hid (HC0.out.step0 hC (Nat.le_refl _))
        clear hC
        go_wp2_with fail
        refine (Has_as (show Rd spc 2 wa (p2) n2 (made xs) from HKa.out.rd (p2, n2, (made xs)) (.tail _ (.head _))) (by omega) HB2.out).mono ?_
        rintro e wb ⟨rfl, hC⟩
        have HCb := Lib.hid (HCa.out.step0 hC (Nat.le_refl _))
        clear hC
        go_wp2_with fail
        go_roundw
        case rel => exact ⟨k + 1, v + 0, by omega, by go_num, by go_num, by omega, HS3.out, HCb.out⟩
        case measure => simp [intOf]; omega
      · have HS3 := Lib.hid (show v + 1 = Spn.cnt (Spn.has (made xs)) 0 (k + 1) + Spn.cnt (Spn.has (made xs)) (3652059 - ((k + 1 : Nat) : Int)) (k + 1) by rw [HST2, ← HV.out]; simp only [if_true, if_false, Bool.false_eq_true]; omega)
        clear HST2
        go_wp2_with fail
        refine (Has_as (show Rd spc 2 wr (p2) n2 (made xs) from HK3.out.rd (p2, n2, (made xs)) (.tail _ (.head _))) (by omega) HB1.out).mono ?_
        rintro e wa ⟨rfl, hC⟩
        have HKa := Lib.hid (HK3.out.on hC)
        have HCa := Lib.hid (HC0.out.step0 hC (Nat.le_refl _))
        clear hC
        go_wp2_with fail
        refine (Has_as (show Rd spc 2 wa (p2) n2 (made xs) from HKa.out.rd (p2, n2, (made xs)) (.tail _ (.head _))) (by omega) HB2.out).mono ?_
        rintro e wb ⟨rfl, hC⟩
        have HCb := Lib.hid (HCa.out.step0 hC (Nat.le_refl _))
        clear hC
        go_wp2_with fail
        go_roundw
        case rel => exact ⟨k + 1, v + 1, by omega, by go_num, by go_num, by omega, HS3.out, HCb.out⟩
        case measure => simp [intOf]; omega
      · have HS3 := Lib.hid (show v + 1 = Spn.cnt (Spn.has (made xs)) 0 (k + 1) + Spn.cnt (Spn.has (made xs)) (3652059 - ((k + 1 : Nat) : Int)) (k + 1) by rw [HST2, ← HV.out]; simp only [if_true, if_false, Bool.false_eq_true]; omega)
        clear HST2
        go_wp2_with fail
        refine (Has_as (show Rd spc 2 wr (p2) n2 (made xs) from HK3.out.rd (p2, n2, (made xs)) (.tail _ (.head _))) (by omega) HB1.out).mono ?_
        rintro e wa ⟨rfl, hC⟩
        have HKa := Lib.hid (HK3.out.on hC)
        have HCa := Lib.hid (HC0.out.step0 hC (Nat.le_refl _))
        clear hC
        go_wp2_with fail
        refine (Has_as (show Rd spc 2 wa (p2) n2 (made xs) from HKa.out.rd (p2, n2, (made xs)) (.tail _ (.head _))) (by omega) HB2.out).mono ?_
        rintro e wb ⟨rfl, hC⟩
        have HCb := Lib.hid (HCa.out.step0 hC (Nat.le_refl _))
        clear hC
        go_wp2_with fail
        go_roundw
        case rel => exact ⟨k + 1, v + 1, by omega, by go_num, by go_num, by omega, HS3.out, HCb.out⟩
        case measure => simp [intOf]; omega
      · have HS3 := Lib.hid (show v + 2 = Spn.cnt (Spn.has (made xs)) 0 (k + 1) + Spn.cnt (Spn.has (made xs)) (3652059 - ((k + 1 : Nat) : Int)) (k + 1) by rw [HST2, ← HV.out]; simp only [if_true, if_false, Bool.false_eq_true]; omega)
        clear HST2
        go_wp2_with fail
        refine (Has_as (show Rd spc 2 wr (p2) n2 (made xs) from HK3.out.rd (p2, n2, (made xs)) (.tail _ (.head _))) (by omega) HB1.out).mono ?_
        rintro e wa ⟨rfl, hC⟩
        have HKa := Lib.hid (HK3.out.on hC)
        have HCa := Lib.hid (HC0.out.step0 hC (Nat.le_refl _))
        clear hC
        go_wp2_with fail
        refine (Has_as (show Rd spc 2 wa (p2) n2 (made xs) from HKa.out.rd (p2, n2, (made xs)) (.tail _ (.head _))) (by omega) HB2.out).mono ?_
        rintro e wb ⟨rfl, hC⟩
        have HCb := Lib.hid (HCa.out.step0 hC (Nat.le_refl _))
        clear hC
        go_wp2_with fail
        go_roundw
        case rel => exact ⟨k + 1, v + 2, by omega, by go_num, by go_num, by omega, HS3.out, HCb.out⟩
        case measure => simp [intOf]; omega
    · obtain rfl : k = 75 := by omega
      obtain rfl : v = DA := by rw [HV.out, ← HDA.out, many_sum]
      clear HV HC0 hvk hk HK
      have HK := HK3
      clear HK3
      go_wp2_with fail
      refine (Days_as (show Rd spc 2 wr (p2) n2 (made xs) from HK.out.rd (p2, n2, (made xs)) (.tail _ (.head _))) (by omega) HDA.out).mono ?_
      rintro e w51 ⟨rfl, hC⟩
      have HK2 := Lib.hid (HK.out.on hC)
      clear hC HK
      have HK := HK2
      clear HK2
      go_wp2_with fail
      refine (Union_as (show Rd spc 2 w51 (p2) n2 (made xs) from HK.out.rd (p2, n2, (made xs)) (.tail _ (.head _))) (show Rd spc 2 w51 (p3) n3 (made ys) from HK.out.rd (p3, n3, (made ys)) (.head _)) (by omega) (by omega) rfl).mono ?_
      rintro e w52 ⟨p52, n52, c52, rfl, hr, hC⟩
      have HK2 := Lib.hid (HK.out.res hC hr)
      clear hC hr HK
      have HK := HK2
      clear HK2
      go_wp2_with fail
      have hqu : n52 ≤ 4000000 := by rw [← (show Rd spc 2 w52 (p52) n52 (Spn.nf (dUnion (made xs) (made ys))) from HK.out.rd (p52, n52, (Spn.nf (dUnion (made xs) (made ys)))) (.head _)).len]; exact nf_len (dom_union _ _)
      refine (Days_as (show Rd spc 2 w52 (p52) n52 (Spn.nf (dUnion (made xs) (made ys))) from HK.out.rd (p52, n52, (Spn.nf (dUnion (made xs) (made ys)))) (.head _)) (by omega) (days_of (dom_union _ _) HDU.out)).mono ?_
      rintro e w53 ⟨rfl, hC⟩
      have HK2 := Lib.hid (HK.out.on hC)
      clear hC HK
      have HK := HK2
      clear HK2
      go_wp2_with fail
      refine (Meet_as (show Rd spc 2 w53 (p2) n2 (made xs) from HK.out.rd (p2, n2, (made xs)) (.tail _ (.tail _ (.head _)))) (show Rd spc 2 w53 (p3) n3 (made ys) from HK.out.rd (p3, n3, (made ys)) (.tail _ (.head _))) (by omega) (by omega) rfl).mono ?_
      rintro e w54 ⟨p54, n54, c54, rfl, hr, hC⟩
      have HK2 := Lib.hid (HK.out.res hC hr)
      clear hC hr HK
      have HK := HK2
      clear HK2
      go_wp2_with fail
      have hqm : n54 ≤ 4000000 := by rw [← (show Rd spc 2 w54 (p54) n54 (Spn.nf (dMeet (made xs) (made ys))) from HK.out.rd (p54, n54, (Spn.nf (dMeet (made xs) (made ys)))) (.head _)).len]; exact nf_len (dom_meet _ _)
      refine (Days_as (show Rd spc 2 w54 (p54) n54 (Spn.nf (dMeet (made xs) (made ys))) from HK.out.rd (p54, n54, (Spn.nf (dMeet (made xs) (made ys)))) (.head _)) (by omega) (days_of (dom_meet _ _) HDM.out)).mono ?_
      rintro e w55 ⟨rfl, hC⟩
      have HK2 := Lib.hid (HK.out.on hC)
      clear hC HK
      have HK := HK2
      clear HK2
      go_wp2_with fail
      refine (Days_as (show Rd spc 2 w55 (p2) n2 (made xs) from HK.out.rd (p2, n2, (made xs)) (.tail _ (.tail _ (.tail _ (.head _))))) (by omega) HDA.out).mono ?_
      rintro e w56 ⟨rfl, hC⟩
      have HK2 := Lib.hid (HK.out.on hC)
      clear hC HK
      have HK := HK2
      clear HK2
      go_wp2_with fail
      refine (Days_as (show Rd spc 2 w56 (p3) n3 (made ys) from HK.out.rd (p3, n3, (made ys)) (.tail _ (.tail _ (.head _)))) (by omega) HDB.out).mono ?_
      rintro e w57 ⟨rfl, hC⟩
      have HK2 := Lib.hid (HK.out.on hC)
      clear hC HK
      have HK := HK2
      clear HK2
      go_wp2_with fail
      go_ret
      exact ⟨by rw [HSUM.out]; simp, HK.out.ch⟩
end Go.Proofs.YtdpapnfjjmeppaaDoor
