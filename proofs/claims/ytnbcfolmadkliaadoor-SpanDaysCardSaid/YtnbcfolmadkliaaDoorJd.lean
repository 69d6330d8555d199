/- SpanDays: the walk. -/
import Derived.Test.YtnbcfolmadkliaaDoorSz
namespace Go.Proofs.YtnbcfolmadkliaaDoor
open Go.RowKit Go.Shelf
theorem has_nf {p : Int → Bool} (h : Spn.Dom p) (d : Int) {b : Bool} (e : p d = b) : Spn.has (Spn.nf p) d = b := by rw [(Spn.nf_spec h).2 d, e]
set_option maxRecDepth 100000 in
set_option maxHeartbeats 8000000 in
theorem days_core (xs ys : List (Int × Int)) (px py : Option Addr) (nx ny cx cy : Nat) (d0 : Int) (w : World) (hx : Ra w px nx xs) (hy : Ra w py ny ys) (hnx : nx ≤ 9223372036854775807) (hny : ny ≤ 9223372036854775807) (hd0 : -9223372036854775808 ≤ d0 ∧ d0 ≤ 9223372036854775807) (ht : LenIs w) :
    Calls Tryd.prog 3 #[.slice px nx cx, .slice py ny cy, iz d0] w (Ya w (.bool true)) := by
  have HX := Lib.hid hx
  have HY := Lib.hid hy
  obtain ⟨hd1, hd2⟩ := hd0
  have HM1 := Lib.hid (fun W => Mod_any d0 75 (by omega) (by omega) W)
  have HM2 := Lib.hid (fun W => Mod_any d0 20 (by omega) (by omega) W)
  have hr1 : 0 ≤ d0 % 75 ∧ d0 % 75 < 75 := by omega
  have hr2 : 0 ≤ d0 % 20 ∧ d0 % 20 < 20 := by omega
  obtain ⟨u, hu⟩ : ∃ q, d0 % 75 = q := ⟨_, rfl⟩
  obtain ⟨r, hr⟩ : ∃ q, d0 % 20 = q := ⟨_, rfl⟩
  rw [hu] at HM1 hr1
  rw [hr] at HM2 hr2
  clear hu hr hx hy
  obtain ⟨v, hv⟩ : ∃ v, 3652058 - r = v := ⟨_, rfl⟩
  have hvr : 3652038 ≤ v ∧ v ≤ 3652058 := by omega
  have HT := Lib.hid ht
  have HK := Lib.hid (Kr.nil w)
  clear ht
  go_enter Tryd.func3, Tryd.ntmps3
  go_wp2_with fail
  refine (sanity_any _ (len_ch HT.out HK.out.ch)).mono ?_
  rintro e w1 ⟨rfl, hC⟩
  have HK2 := Lib.hid (HK.out.on hC)
  clear hC HK
  have HK := HK2
  clear HK2
  go_wp2_with fail
  refine (Made_any xs _ _ _ _ (HX.out.ch HK.out.ch) hnx).mono ?_
  rintro e w2 ⟨p2, n2, c2, rfl, hr, hC⟩
  have HK2 := Lib.hid (HK.out.res hC hr)
  clear hC hr HK
  have HK := HK2
  clear HK2
  go_wp2_with fail
  have ha : n2 ≤ 8 := by have h1 := (show Rd spc 2 w2 (p2) n2 (made xs) from HK.out.rd (p2, n2, (made xs)) (.head _)).len; have h2 := made_len xs; omega
  refine (Made_any ys _ _ _ _ (HY.out.ch HK.out.ch) hny).mono ?_
  rintro e w3 ⟨p3, n3, c3, rfl, hr, hC⟩
  have HK2 := Lib.hid (HK.out.res hC hr)
  clear hC hr HK
  have HK := HK2
  clear HK2
  go_wp2_with fail
  have hb : n3 ≤ 8 := by have h1 := (show Rd spc 2 w3 (p3) n3 (made ys) from HK.out.rd (p3, n3, (made ys)) (.head _)).len; have h2 := made_len ys; omega
  refine (HM1.out _).mono ?_
  rintro e wq1 ⟨rfl, rfl⟩
  go_wp2_with fail
  refine (HM2.out _).mono ?_
  rintro e wq2 ⟨rfl, rfl⟩
  go_wp2_with fail
  have HBK := Lib.hid (Blk.new w3 #[iz d0, iz u, iz v] 3)
  have HCW := Lib.hid ((Ch.refl w3.heap.size none1 w3).alloc (Nat.le_refl _) (.cells #[iz d0, iz u, iz v] 3))
  obtain ⟨V, hV⟩ : ∃ V, w3.alloc (.cells #[iz d0, iz u, iz v] 3 (0, 0)) = V := ⟨_, rfl⟩
  rw [hV] at HBK HCW ⊢
  obtain ⟨g, hA⟩ : ∃ A, w3.heap.size = A := ⟨_, rfl⟩
  rw [hA] at HBK ⊢
  clear hV hA
  have HK2 := Lib.hid (HK.out.on HCW.out)
  have HI := Lib.hid (show ∀ i : Nat, i < 3 → ∃ d : Int, (-9223372036854775808 ≤ d ∧ d ≤ 9223372036854775807) ∧ ∀ W', Ch V.heap.size none1 V W' → W'.cell? ⟨g, i, none⟩ = some (iz d) ∧ Rd spc 2 W' p2 n2 (made xs) ∧ Rd spc 2 W' p3 n3 (made ys) from by
    intro i hi
    have hab : ∀ W', Ch V.heap.size none1 V W' → Rd spc 2 W' p2 n2 (made xs) ∧ Rd spc 2 W' p3 n3 (made ys) := fun W' hC => ⟨(show Rd spc 2 V p2 n2 (made xs) from HK2.out.rd (p2, n2, (made xs)) (.tail _ (.head _))).ch hC, (show Rd spc 2 V p3 n3 (made ys) from HK2.out.rd (p3, n3, (made ys)) (.head _)).ch hC⟩
    rcases (show i = 0 ∨ i = 1 ∨ i = 2 by omega) with rfl | rfl | rfl
    · exact ⟨d0, by omega, fun W' hC => ⟨by rw [hC.cell (p := ⟨g, 0, none⟩) HBK.out.lt (fun q => q)]; exact HBK.out.cell 0, hab W' hC⟩⟩
    · exact ⟨u, by omega, fun W' hC => ⟨by rw [hC.cell (p := ⟨g, 1, none⟩) HBK.out.lt (fun q => q)]; exact HBK.out.cell 1, hab W' hC⟩⟩
    · exact ⟨v, by omega, fun W' hC => ⟨by rw [hC.cell (p := ⟨g, 2, none⟩) HBK.out.lt (fun q => q)]; exact HBK.out.cell 2, hab W' hC⟩⟩)
  have HFIN := Lib.hid (show ∀ W', Ch V.heap.size none1 V W' → Ch w.heap.size none1 w W' from fun W' hC => (HK2.out.on hC).ch)
  clear HK HK2 HBK HCW
  go_loopw [11] (fun i wr => ∃ k : Nat, k ≤ 3 ∧ i = .int .i64 k ∧ Ch V.heap.size none1 V wr) (fun i _ => 3 - (intOf i).toNat)
  case atStart => exact ⟨0, Nat.zero_le _, rfl, Ch.refl _ _ _⟩
  case round =>
    obtain ⟨k, hk, rfl, hC⟩ := hrel
    have HC2 := Lib.hid hC
    clear hC
    by_cases hlt : k < 3
    · obtain ⟨d, hdb, hF⟩ := HI.out k hlt
      have HF := Lib.hid hF
      clear hF
      have hki : 0 ≤ (k : Int) ∧ (k : Int) < 3 := by omega
      obtain ⟨b1, hb1⟩ : ∃ b, Spn.has (made xs) d = b := ⟨_, rfl⟩
      obtain ⟨b2, hb2⟩ : ∃ b, Spn.has (made ys) d = b := ⟨_, rfl⟩
      have HB1 := Lib.hid hb1
      have HB2 := Lib.hid hb2
      clear hb1 hb2
      rcases b1 with _ | _ <;> rcases b2 with _ | _
      · obtain ⟨cs, _, _⟩ := HF.out _ HC2.out
        go_wp2_with fail
        refine (Has_as (HF.out _ HC2.out).2.1 (by omega) HB1.out).mono ?_
        rintro e wa ⟨rfl, hCq⟩
        have HC3 := Lib.hid (HC2.out.step0 hCq (Nat.le_refl _))
        clear hCq HC2
        have HC2 := HC3
        clear HC3
        clear cs
        obtain ⟨cs, _, _⟩ := HF.out _ HC2.out
        go_wp2_with fail
        refine (Has_as (HF.out _ HC2.out).2.2 (by omega) HB2.out).mono ?_
        rintro e wa ⟨rfl, hCq⟩
        have HC3 := Lib.hid (HC2.out.step0 hCq (Nat.le_refl _))
        clear hCq HC2
        have HC2 := HC3
        clear HC3
        clear cs
        obtain ⟨cs, _, _⟩ := HF.out _ HC2.out
        go_wp2_with fail
        clear cs
        have HCD := Lib.hid HC2.out.drew
        clear HC2
        have HC2 := HCD
        clear HCD
        refine wp_region_held_drew (S := fun w' => w'.cell? ⟨g, k, none⟩ = some (iz d)) (by kernel_rfl) ?_ (fun hHeld => ?_)
        · (try dsimp only); exact (HF.out _ HC2.out).1
        refine tk 0 (v := ?_) hHeld ?_ ?_
        rotate_left 1
        · intro _ hw; (try dsimp only at hw); go_simp; try with_reducible rfl
        (try simp only [Act.put, List.setIfInBounds_toArray, List.set_cons_zero, List.set_cons_succ])
        refine tk 2 (v := ?_) hHeld ?_ ?_
        rotate_left 1
        · intro _ hw; (try dsimp only at hw); go_simp; try with_reducible rfl
        (try simp only [Act.put, List.setIfInBounds_toArray, List.set_cons_zero, List.set_cons_succ])
        refine tk 3 (v := ?_) hHeld ?_ ?_
        rotate_left 1
        · intro _ hw; (try dsimp only at hw); go_simp; try with_reducible rfl
        (try simp only [Act.put, List.setIfInBounds_toArray, List.set_cons_zero, List.set_cons_succ])
        refine tk 4 (v := ?_) hHeld ?_ ?_
        rotate_left 1
        · intro _ hw; (try dsimp only at hw); go_simp; try with_reducible rfl
        (try simp only [Act.put, List.setIfInBounds_toArray, List.set_cons_zero, List.set_cons_succ])
        refine tk 5 (v := ?_) hHeld ?_ ?_
        rotate_left 1
        · intro _ hw; (try dsimp only at hw); go_simp; try with_reducible rfl
        (try simp only [Act.put, List.setIfInBounds_toArray, List.set_cons_zero, List.set_cons_succ])
        refine tk 7 (v := ?_) hHeld ?_ ?_
        rotate_left 1
        · intro _ hw; (try dsimp only at hw); go_simp; try with_reducible rfl
        (try simp only [Act.put, List.setIfInBounds_toArray, List.set_cons_zero, List.set_cons_succ])
        refine wpAnyH_ready (rs := [1]) (by kernel_rfl) (by simp) ?_
        refine AllReadyH.cons (at_list rfl) (fun K hK => ?_) AllReadyH.nil
        go_simp
        go_at_call 11
        (with_reducible refine (Norm_any _ _ _ _ _ (HF.out _ HC2.out).2.1 (by omega)).mono ?_)
        rintro e wq ⟨pz, nz, cz, rfl, hr, hCq⟩
        have HC3 := Lib.hid (HC2.out.step0 hCq (Nat.le_refl _))
        clear hCq HC2
        have HC2 := HC3
        clear HC3
        have hnz : nz ≤ 4000000 := by rw [← hr.len]; exact nf_len (Spn.dom_has (made xs))
        have HRZ := Lib.hid hr
        have HHZ := Lib.hid (has_nf (Spn.dom_has (made xs)) d (b := false) HB1.out)
        clear hr
        clear hHeld
        first | (refine hK.out _ _ ?_ (fun hHeld => ?_)) | (go_wp2_with fail; refine hK.out _ _ ?_ (fun hHeld => ?_))
        · (try dsimp only); exact (HF.out _ HC2.out).1
        clear hK K
        (try simp only [Act.put, List.setIfInBounds_toArray, List.set_cons_zero, List.set_cons_succ])
        refine wpAnyH_ready (rs := [6]) (by kernel_rfl) (by simp) ?_
        refine AllReadyH.cons (at_list rfl) (fun K hK => ?_) AllReadyH.nil
        go_simp
        go_at_call 10
        (with_reducible refine (Has_as HRZ.out (by omega) HHZ.out).mono ?_)
        rintro e wq ⟨rfl, hCq⟩
        have HC3 := Lib.hid (HC2.out.step0 hCq (Nat.le_refl _))
        clear hCq HC2
        have HC2 := HC3
        clear HC3
        clear HRZ HHZ hnz
        clear hHeld
        first | (refine hK.out _ _ ?_ (fun hHeld => ?_)) | (go_wp2_with fail; refine hK.out _ _ ?_ (fun hHeld => ?_))
        · (try dsimp only); exact (HF.out _ HC2.out).1
        clear hK K
        (try simp only [Act.put, List.setIfInBounds_toArray, List.set_cons_zero, List.set_cons_succ])
        refine tk 8 (v := ?_) hHeld ?_ ?_
        rotate_left 1
        · intro _ hw; (try dsimp only at hw); go_simp; try with_reducible rfl
        (try simp only [Act.put, List.setIfInBounds_toArray, List.set_cons_zero, List.set_cons_succ])
        refine tk 9 (v := ?_) hHeld ?_ ?_
        rotate_left 1
        · intro _ hw; (try dsimp only at hw); go_simp; try with_reducible rfl
        (try simp only [Act.put, List.setIfInBounds_toArray, List.set_cons_zero, List.set_cons_succ])
        refine tk 10 (v := ?_) hHeld ?_ ?_
        rotate_left 1
        · intro _ hw; (try dsimp only at hw); go_simp; try with_reducible rfl
        (try simp only [Act.put, List.setIfInBounds_toArray, List.set_cons_zero, List.set_cons_succ])
        refine tk 11 (v := ?_) hHeld ?_ ?_
        rotate_left 1
        · intro _ hw; (try dsimp only at hw); go_simp; try with_reducible rfl
        (try simp only [Act.put, List.setIfInBounds_toArray, List.set_cons_zero, List.set_cons_succ])
        refine tk 13 (v := ?_) hHeld ?_ ?_
        rotate_left 1
        · intro _ hw; (try dsimp only at hw); go_simp; try with_reducible rfl
        (try simp only [Act.put, List.setIfInBounds_toArray, List.set_cons_zero, List.set_cons_succ])
        refine tk 14 (v := ?_) hHeld ?_ ?_
        rotate_left 1
        · intro _ hw; (try dsimp only at hw); go_simp; try with_reducible rfl
        (try simp only [Act.put, List.setIfInBounds_toArray, List.set_cons_zero, List.set_cons_succ])
        refine tk 15 (v := ?_) hHeld ?_ ?_
        rotate_left 1
        · intro _ hw; (try dsimp only at hw); go_simp; try with_reducible rfl
        (try simp only [Act.put, List.setIfInBounds_toArray, List.set_cons_zero, List.set_cons_succ])
        refine tk 16 (v := ?_) hHeld ?_ ?_
        rotate_left 1
        · intro _ hw; (try dsimp only at hw); go_simp; try with_reducible rfl
        (try simp only [Act.put, List.setIfInBounds_toArray, List.set_cons_zero, List.set_cons_succ])
        refine tk 18 (v := ?_) hHeld ?_ ?_
        rotate_left 1
        · intro _ hw; (try dsimp only at hw); go_simp; try with_reducible rfl
        (try simp only [Act.put, List.setIfInBounds_toArray, List.set_cons_zero, List.set_cons_succ])
        refine wpAnyH_ready (rs := [12]) (by kernel_rfl) (by simp) ?_
        refine AllReadyH.cons (at_list rfl) (fun K hK => ?_) AllReadyH.nil
        go_simp
        go_at_call 12
        (with_reducible refine (Union_any _ _ _ _ _ _ _ _ _ (HF.out _ HC2.out).2.1 (HF.out _ HC2.out).2.2 (by omega) (by omega)).mono ?_)
        rintro e wq ⟨pz, nz, cz, rfl, hr, hCq⟩
        have HC3 := Lib.hid (HC2.out.step0 hCq (Nat.le_refl _))
        clear hCq HC2
        have HC2 := HC3
        clear HC3
        have hnz : nz ≤ 4000000 := by rw [← hr.len]; exact nf_len (dom_union (made xs) (made ys))
        have HRZ := Lib.hid hr
        have HHZ := Lib.hid (has_nf (dom_union (made xs) (made ys)) d (b := false) (by show (Spn.has (made xs) d || Spn.has (made ys) d) = _; rw [HB1.out, HB2.out]; rfl))
        clear hr
        clear hHeld
        first | (refine hK.out _ _ ?_ (fun hHeld => ?_)) | (go_wp2_with fail; refine hK.out _ _ ?_ (fun hHeld => ?_))
        · (try dsimp only); exact (HF.out _ HC2.out).1
        clear hK K
        (try simp only [Act.put, List.setIfInBounds_toArray, List.set_cons_zero, List.set_cons_succ])
        refine wpAnyH_ready (rs := [17]) (by kernel_rfl) (by simp) ?_
        refine AllReadyH.cons (at_list rfl) (fun K hK => ?_) AllReadyH.nil
        go_simp
        go_at_call 10
        (with_reducible refine (Has_as HRZ.out (by omega) HHZ.out).mono ?_)
        rintro e wq ⟨rfl, hCq⟩
        have HC3 := Lib.hid (HC2.out.step0 hCq (Nat.le_refl _))
        clear hCq HC2
        have HC2 := HC3
        clear HC3
        clear HRZ HHZ hnz
        clear hHeld
        first | (refine hK.out _ _ ?_ (fun hHeld => ?_)) | (go_wp2_with fail; refine hK.out _ _ ?_ (fun hHeld => ?_))
        · (try dsimp only); exact (HF.out _ HC2.out).1
        clear hK K
        (try simp only [Act.put, List.setIfInBounds_toArray, List.set_cons_zero, List.set_cons_succ])
        refine tk 19 (v := ?_) hHeld ?_ ?_
        rotate_left 1
        · intro _ hw; (try dsimp only at hw); go_simp; try with_reducible rfl
        (try simp only [Act.put, List.setIfInBounds_toArray, List.set_cons_zero, List.set_cons_succ])
        refine tk 20 (v := ?_) hHeld ?_ ?_
        rotate_left 1
        · intro _ hw; (try dsimp only at hw); go_simp; try with_reducible rfl
        (try simp only [Act.put, List.setIfInBounds_toArray, List.set_cons_zero, List.set_cons_succ])
        refine tk 21 (v := ?_) hHeld ?_ ?_
        rotate_left 1
        · intro _ hw; (try dsimp only at hw); go_simp; try with_reducible rfl
        (try simp only [Act.put, List.setIfInBounds_toArray, List.set_cons_zero, List.set_cons_succ])
        refine tk 22 (v := ?_) hHeld ?_ ?_
        rotate_left 1
        · intro _ hw; (try dsimp only at hw); go_simp; try with_reducible rfl
        (try simp only [Act.put, List.setIfInBounds_toArray, List.set_cons_zero, List.set_cons_succ])
        refine tk 23 (v := ?_) hHeld ?_ ?_
        rotate_left 1
        · intro _ hw; (try dsimp only at hw); go_simp; try with_reducible rfl
        (try simp only [Act.put, List.setIfInBounds_toArray, List.set_cons_zero, List.set_cons_succ])
        refine tk 24 (v := ?_) hHeld ?_ ?_
        rotate_left 1
        · intro _ hw; (try dsimp only at hw); go_simp; try with_reducible rfl
        (try simp only [Act.put, List.setIfInBounds_toArray, List.set_cons_zero, List.set_cons_succ])
        refine tk 25 (v := ?_) hHeld ?_ ?_
        rotate_left 1
        · intro _ hw; (try dsimp only at hw); go_simp; try with_reducible rfl
        (try simp only [Act.put, List.setIfInBounds_toArray, List.set_cons_zero, List.set_cons_succ])
        refine tk 26 (v := ?_) hHeld ?_ ?_
        rotate_left 1
        · intro _ hw; (try dsimp only at hw); go_simp; try with_reducible rfl
        (try simp only [Act.put, List.setIfInBounds_toArray, List.set_cons_zero, List.set_cons_succ])
        refine tk 28 (v := ?_) hHeld ?_ ?_
        rotate_left 1
        · intro _ hw; (try dsimp only at hw); go_simp; try with_reducible rfl
        (try simp only [Act.put, List.setIfInBounds_toArray, List.set_cons_zero, List.set_cons_succ])
        refine tk 29 (v := ?_) hHeld ?_ ?_
        rotate_left 1
        · intro _ hw; (try dsimp only at hw); go_simp; try with_reducible rfl
        (try simp only [Act.put, List.setIfInBounds_toArray, List.set_cons_zero, List.set_cons_succ])
        refine tk 30 (v := ?_) hHeld ?_ ?_
        rotate_left 1
        · intro _ hw; (try dsimp only at hw); go_simp; try with_reducible rfl
        (try simp only [Act.put, List.setIfInBounds_toArray, List.set_cons_zero, List.set_cons_succ])
        refine tk 31 (v := ?_) hHeld ?_ ?_
        rotate_left 1
        · intro _ hw; (try dsimp only at hw); go_simp; try with_reducible rfl
        (try simp only [Act.put, List.setIfInBounds_toArray, List.set_cons_zero, List.set_cons_succ])
        refine tk 33 (v := ?_) hHeld ?_ ?_
        rotate_left 1
        · intro _ hw; (try dsimp only at hw); go_simp; try with_reducible rfl
        (try simp only [Act.put, List.setIfInBounds_toArray, List.set_cons_zero, List.set_cons_succ])
        refine wpAnyH_ready (rs := [27]) (by kernel_rfl) (by simp) ?_
        refine AllReadyH.cons (at_list rfl) (fun K hK => ?_) AllReadyH.nil
        go_simp
        go_at_call 13
        (with_reducible refine (Meet_any _ _ _ _ _ _ _ _ _ (HF.out _ HC2.out).2.1 (HF.out _ HC2.out).2.2 (by omega) (by omega)).mono ?_)
        rintro e wq ⟨pz, nz, cz, rfl, hr, hCq⟩
        have HC3 := Lib.hid (HC2.out.step0 hCq (Nat.le_refl _))
        clear hCq HC2
        have HC2 := HC3
        clear HC3
        have hnz : nz ≤ 4000000 := by rw [← hr.len]; exact nf_len (dom_meet (made xs) (made ys))
        have HRZ := Lib.hid hr
        have HHZ := Lib.hid (has_nf (dom_meet (made xs) (made ys)) d (b := false) (by show (Spn.has (made xs) d && Spn.has (made ys) d) = _; rw [HB1.out, HB2.out]; rfl))
        clear hr
        clear hHeld
        first | (refine hK.out _ _ ?_ (fun hHeld => ?_)) | (go_wp2_with fail; refine hK.out _ _ ?_ (fun hHeld => ?_))
        · (try dsimp only); exact (HF.out _ HC2.out).1
        clear hK K
        (try simp only [Act.put, List.setIfInBounds_toArray, List.set_cons_zero, List.set_cons_succ])
        refine wpAnyH_ready (rs := [32]) (by kernel_rfl) (by simp) ?_
        refine AllReadyH.cons (at_list rfl) (fun K hK => ?_) AllReadyH.nil
        go_simp
        go_at_call 10
        (with_reducible refine (Has_as HRZ.out (by omega) HHZ.out).mono ?_)
        rintro e wq ⟨rfl, hCq⟩
        have HC3 := Lib.hid (HC2.out.step0 hCq (Nat.le_refl _))
        clear hCq HC2
        have HC2 := HC3
        clear HC3
        clear HRZ HHZ hnz
        clear hHeld
        first | (refine hK.out _ _ ?_ (fun hHeld => ?_)) | (go_wp2_with fail; refine hK.out _ _ ?_ (fun hHeld => ?_))
        · (try dsimp only); exact (HF.out _ HC2.out).1
        clear hK K
        (try simp only [Act.put, List.setIfInBounds_toArray, List.set_cons_zero, List.set_cons_succ])
        refine tk 34 (v := ?_) hHeld ?_ ?_
        rotate_left 1
        · intro _ hw; (try dsimp only at hw); go_simp; try with_reducible rfl
        (try simp only [Act.put, List.setIfInBounds_toArray, List.set_cons_zero, List.set_cons_succ])
        refine sk 35 hHeld ?_
        (try simp only [Act.put, List.setIfInBounds_toArray, List.set_cons_zero, List.set_cons_succ])
        refine tk 36 (v := ?_) hHeld ?_ ?_
        rotate_left 1
        · intro _ hw; (try dsimp only at hw); go_simp; try with_reducible rfl
        (try simp only [Act.put, List.setIfInBounds_toArray, List.set_cons_zero, List.set_cons_succ])
        refine tk 37 (v := ?_) hHeld ?_ ?_
        rotate_left 1
        · intro _ hw; (try dsimp only at hw); go_simp; try with_reducible rfl
        (try simp only [Act.put, List.setIfInBounds_toArray, List.set_cons_zero, List.set_cons_succ])
        refine tk 38 (v := ?_) hHeld ?_ ?_
        rotate_left 1
        · intro _ hw; (try dsimp only at hw); go_simp; try with_reducible rfl
        (try simp only [Act.put, List.setIfInBounds_toArray, List.set_cons_zero, List.set_cons_succ])
        refine tk 39 (v := ?_) hHeld ?_ ?_
        rotate_left 1
        · intro _ hw; (try dsimp only at hw); go_simp; try with_reducible rfl
        (try simp only [Act.put, List.setIfInBounds_toArray, List.set_cons_zero, List.set_cons_succ])
        refine tk 40 (v := ?_) hHeld ?_ ?_
        rotate_left 1
        · intro _ hw; (try dsimp only at hw); go_simp; try with_reducible rfl
        (try simp only [Act.put, List.setIfInBounds_toArray, List.set_cons_zero, List.set_cons_succ])
        refine tk 41 (v := ?_) hHeld ?_ ?_
        rotate_left 1
        · intro _ hw; (try dsimp only at hw); go_simp; try with_reducible rfl
        (try simp only [Act.put, List.setIfInBounds_toArray, List.set_cons_zero, List.set_cons_succ])
        refine tk 43 (v := ?_) hHeld ?_ ?_
        rotate_left 1
        · intro _ hw; (try dsimp only at hw); go_simp; try with_reducible rfl
        (try simp only [Act.put, List.setIfInBounds_toArray, List.set_cons_zero, List.set_cons_succ])
        refine tk 44 (v := ?_) hHeld ?_ ?_
        rotate_left 1
        · intro _ hw; (try dsimp only at hw); go_simp; try with_reducible rfl
        (try simp only [Act.put, List.setIfInBounds_toArray, List.set_cons_zero, List.set_cons_succ])
        refine tk 45 (v := ?_) hHeld ?_ ?_
        rotate_left 1
        · intro _ hw; (try dsimp only at hw); go_simp; try with_reducible rfl
        (try simp only [Act.put, List.setIfInBounds_toArray, List.set_cons_zero, List.set_cons_succ])
        refine tk 46 (v := ?_) hHeld ?_ ?_
        rotate_left 1
        · intro _ hw; (try dsimp only at hw); go_simp; try with_reducible rfl
        (try simp only [Act.put, List.setIfInBounds_toArray, List.set_cons_zero, List.set_cons_succ])
        refine tk 48 (v := ?_) hHeld ?_ ?_
        rotate_left 1
        · intro _ hw; (try dsimp only at hw); go_simp; try with_reducible rfl
        (try simp only [Act.put, List.setIfInBounds_toArray, List.set_cons_zero, List.set_cons_succ])
        refine wpAnyH_ready (rs := [42]) (by kernel_rfl) (by simp) ?_
        refine AllReadyH.cons (at_list rfl) (fun K hK => ?_) AllReadyH.nil
        go_simp
        go_at_call 14
        (with_reducible refine (Less_any _ _ _ _ _ _ _ _ _ (HF.out _ HC2.out).2.1 (HF.out _ HC2.out).2.2 (by omega) (by omega)).mono ?_)
        rintro e wq ⟨pz, nz, cz, rfl, hr, hCq⟩
        have HC3 := Lib.hid (HC2.out.step0 hCq (Nat.le_refl _))
        clear hCq HC2
        have HC2 := HC3
        clear HC3
        have hnz : nz ≤ 4000000 := by rw [← hr.len]; exact nf_len (dom_less (made xs) (made ys))
        have HRZ := Lib.hid hr
        have HHZ := Lib.hid (has_nf (dom_less (made xs) (made ys)) d (b := false) (by show (Spn.has (made xs) d && !Spn.has (made ys) d) = _; rw [HB1.out, HB2.out]; rfl))
        clear hr
        clear hHeld
        first | (refine hK.out _ _ ?_ (fun hHeld => ?_)) | (go_wp2_with fail; refine hK.out _ _ ?_ (fun hHeld => ?_))
        · (try dsimp only); exact (HF.out _ HC2.out).1
        clear hK K
        (try simp only [Act.put, List.setIfInBounds_toArray, List.set_cons_zero, List.set_cons_succ])
        refine wpAnyH_ready (rs := [47]) (by kernel_rfl) (by simp) ?_
        refine AllReadyH.cons (at_list rfl) (fun K hK => ?_) AllReadyH.nil
        go_simp
        go_at_call 10
        (with_reducible refine (Has_as HRZ.out (by omega) HHZ.out).mono ?_)
        rintro e wq ⟨rfl, hCq⟩
        have HC3 := Lib.hid (HC2.out.step0 hCq (Nat.le_refl _))
        clear hCq HC2
        have HC2 := HC3
        clear HC3
        clear HRZ HHZ hnz
        clear hHeld
        first | (refine hK.out _ _ ?_ (fun hHeld => ?_)) | (go_wp2_with fail; refine hK.out _ _ ?_ (fun hHeld => ?_))
        · (try dsimp only); exact (HF.out _ HC2.out).1
        clear hK K
        (try simp only [Act.put, List.setIfInBounds_toArray, List.set_cons_zero, List.set_cons_succ])
        refine tk 49 (v := ?_) hHeld ?_ ?_
        rotate_left 1
        · intro _ hw; (try dsimp only at hw); go_simp; try with_reducible rfl
        (try simp only [Act.put, List.setIfInBounds_toArray, List.set_cons_zero, List.set_cons_succ])
        refine sk 50 hHeld ?_
        (try simp only [Act.put, List.setIfInBounds_toArray, List.set_cons_zero, List.set_cons_succ])
        refine sk 51 hHeld ?_
        (try simp only [Act.put, List.setIfInBounds_toArray, List.set_cons_zero, List.set_cons_succ])
        refine tk 52 (v := ?_) hHeld ?_ ?_
        rotate_left 1
        · intro _ hw; (try dsimp only at hw); go_simp; try with_reducible rfl
        (try simp only [Act.put, List.setIfInBounds_toArray, List.set_cons_zero, List.set_cons_succ])
        refine tk 53 (v := ?_) hHeld ?_ ?_
        rotate_left 1
        · intro _ hw; (try dsimp only at hw); go_simp; try with_reducible rfl
        (try simp only [Act.put, List.setIfInBounds_toArray, List.set_cons_zero, List.set_cons_succ])
        refine tk 54 (v := ?_) hHeld ?_ ?_
        rotate_left 1
        · intro _ hw; (try dsimp only at hw); go_simp; try with_reducible rfl
        (try simp only [Act.put, List.setIfInBounds_toArray, List.set_cons_zero, List.set_cons_succ])
        refine wpAnyH_done (by kernel_rfl) ?_ _
        clear hHeld
        go_wp2_with fail
        go_roundw
        case rel => exact ⟨k + 1, by omega, by go_num, HC2.out⟩
        case measure => simp [intOf] <;> omega
      · obtain ⟨cs, _, _⟩ := HF.out _ HC2.out
        go_wp2_with fail
        refine (Has_as (HF.out _ HC2.out).2.1 (by omega) HB1.out).mono ?_
        rintro e wa ⟨rfl, hCq⟩
        have HC3 := Lib.hid (HC2.out.step0 hCq (Nat.le_refl _))
        clear hCq HC2
        have HC2 := HC3
        clear HC3
        clear cs
        obtain ⟨cs, _, _⟩ := HF.out _ HC2.out
        go_wp2_with fail
        refine (Has_as (HF.out _ HC2.out).2.2 (by omega) HB2.out).mono ?_
        rintro e wa ⟨rfl, hCq⟩
        have HC3 := Lib.hid (HC2.out.step0 hCq (Nat.le_refl _))
        clear hCq HC2
        have HC2 := HC3
        clear HC3
        clear cs
        obtain ⟨cs, _, _⟩ := HF.out _ HC2.out
        go_wp2_with fail
        clear cs
        have HCD := Lib.hid HC2.out.drew
        clear HC2
        have HC2 := HCD
        clear HCD
        refine wp_region_held_drew (S := fun w' => w'.cell? ⟨g, k, none⟩ = some (iz d)) (by kernel_rfl) ?_ (fun hHeld => ?_)
        · (try dsimp only); exact (HF.out _ HC2.out).1
        refine tk 0 (v := ?_) hHeld ?_ ?_
        rotate_left 1
        · intro _ hw; (try dsimp only at hw); go_simp; try with_reducible rfl
        (try simp only [Act.put, List.setIfInBounds_toArray, List.set_cons_zero, List.set_cons_succ])
        refine tk 2 (v := ?_) hHeld ?_ ?_
        rotate_left 1
        · intro _ hw; (try dsimp only at hw); go_simp; try with_reducible rfl
        (try simp only [Act.put, List.setIfInBounds_toArray, List.set_cons_zero, List.set_cons_succ])
        refine tk 3 (v := ?_) hHeld ?_ ?_
        rotate_left 1
        · intro _ hw; (try dsimp only at hw); go_simp; try with_reducible rfl
        (try simp only [Act.put, List.setIfInBounds_toArray, List.set_cons_zero, List.set_cons_succ])
        refine tk 4 (v := ?_) hHeld ?_ ?_
        rotate_left 1
        · intro _ hw; (try dsimp only at hw); go_simp; try with_reducible rfl
        (try simp only [Act.put, List.setIfInBounds_toArray, List.set_cons_zero, List.set_cons_succ])
        refine tk 5 (v := ?_) hHeld ?_ ?_
        rotate_left 1
        · intro _ hw; (try dsimp only at hw); go_simp; try with_reducible rfl
        (try simp only [Act.put, List.setIfInBounds_toArray, List.set_cons_zero, List.set_cons_succ])
        refine tk 7 (v := ?_) hHeld ?_ ?_
        rotate_left 1
        · intro _ hw; (try dsimp only at hw); go_simp; try with_reducible rfl
        (try simp only [Act.put, List.setIfInBounds_toArray, List.set_cons_zero, List.set_cons_succ])
        refine wpAnyH_ready (rs := [1]) (by kernel_rfl) (by simp) ?_
        refine AllReadyH.cons (at_list rfl) (fun K hK => ?_) AllReadyH.nil
        go_simp
        go_at_call 11
        (with_reducible refine (Norm_any _ _ _ _ _ (HF.out _ HC2.out).2.1 (by omega)).mono ?_)
        rintro e wq ⟨pz, nz, cz, rfl, hr, hCq⟩
        have HC3 := Lib.hid (HC2.out.step0 hCq (Nat.le_refl _))
        clear hCq HC2
        have HC2 := HC3
        clear HC3
        have hnz : nz ≤ 4000000 := by rw [← hr.len]; exact nf_len (Spn.dom_has (made xs))
        have HRZ := Lib.hid hr
        have HHZ := Lib.hid (has_nf (Spn.dom_has (made xs)) d (b := false) HB1.out)
        clear hr
        clear hHeld
        first | (refine hK.out _ _ ?_ (fun hHeld => ?_)) | (go_wp2_with fail; refine hK.out _ _ ?_ (fun hHeld => ?_))
        · (try dsimp only); exact (HF.out _ HC2.out).1
        clear hK K
        (try simp only [Act.put, List.setIfInBounds_toArray, List.set_cons_zero, List.set_cons_succ])
        refine wpAnyH_ready (rs := [6]) (by kernel_rfl) (by simp) ?_
        refine AllReadyH.cons (at_list rfl) (fun K hK => ?_) AllReadyH.nil
        go_simp
        go_at_call 10
        (with_reducible refine (Has_as HRZ.out (by omega) HHZ.out).mono ?_)
        rintro e wq ⟨rfl, hCq⟩
        have HC3 := Lib.hid (HC2.out.step0 hCq (Nat.le_refl _))
        clear hCq HC2
        have HC2 := HC3
        clear HC3
        clear HRZ HHZ hnz
        clear hHeld
        first | (refine hK.out _ _ ?_ (fun hHeld => ?_)) | (go_wp2_with fail; refine hK.out _ _ ?_ (fun hHeld => ?_))
        · (try dsimp only); exact (HF.out _ HC2.out).1
        clear hK K
        (try simp only [Act.put, List.setIfInBounds_toArray, List.set_cons_zero, List.set_cons_succ])
        refine tk 8 (v := ?_) hHeld ?_ ?_
        rotate_left 1
        · intro _ hw; (try dsimp only at hw); go_simp; try with_reducible rfl
        (try simp only [Act.put, List.setIfInBounds_toArray, List.set_cons_zero, List.set_cons_succ])
        refine tk 9 (v := ?_) hHeld ?_ ?_
        rotate_left 1
        · intro _ hw; (try dsimp only at hw); go_simp; try with_reducible rfl
        (try simp only [Act.put, List.setIfInBounds_toArray, List.set_cons_zero, List.set_cons_succ])
        refine tk 10 (v := ?_) hHeld ?_ ?_
        rotate_left 1
        · intro _ hw; (try dsimp only at hw); go_simp; try with_reducible rfl
        (try simp only [Act.put, List.setIfInBounds_toArray, List.set_cons_zero, List.set_cons_succ])
        refine tk 11 (v := ?_) hHeld ?_ ?_
        rotate_left 1
        · intro _ hw; (try dsimp only at hw); go_simp; try with_reducible rfl
        (try simp only [Act.put, List.setIfInBounds_toArray, List.set_cons_zero, List.set_cons_succ])
        refine tk 13 (v := ?_) hHeld ?_ ?_
        rotate_left 1
        · intro _ hw; (try dsimp only at hw); go_simp; try with_reducible rfl
        (try simp only [Act.put, List.setIfInBounds_toArray, List.set_cons_zero, List.set_cons_succ])
        refine tk 14 (v := ?_) hHeld ?_ ?_
        rotate_left 1
        · intro _ hw; (try dsimp only at hw); go_simp; try with_reducible rfl
        (try simp only [Act.put, List.setIfInBounds_toArray, List.set_cons_zero, List.set_cons_succ])
        refine tk 15 (v := ?_) hHeld ?_ ?_
        rotate_left 1
        · intro _ hw; (try dsimp only at hw); go_simp; try with_reducible rfl
        (try simp only [Act.put, List.setIfInBounds_toArray, List.set_cons_zero, List.set_cons_succ])
        refine tk 16 (v := ?_) hHeld ?_ ?_
        rotate_left 1
        · intro _ hw; (try dsimp only at hw); go_simp; try with_reducible rfl
        (try simp only [Act.put, List.setIfInBounds_toArray, List.set_cons_zero, List.set_cons_succ])
        refine tk 18 (v := ?_) hHeld ?_ ?_
        rotate_left 1
        · intro _ hw; (try dsimp only at hw); go_simp; try with_reducible rfl
        (try simp only [Act.put, List.setIfInBounds_toArray, List.set_cons_zero, List.set_cons_succ])
        refine wpAnyH_ready (rs := [12]) (by kernel_rfl) (by simp) ?_
        refine AllReadyH.cons (at_list rfl) (fun K hK => ?_) AllReadyH.nil
        go_simp
        go_at_call 12
        (with_reducible refine (Union_any _ _ _ _ _ _ _ _ _ (HF.out _ HC2.out).2.1 (HF.out _ HC2.out).2.2 (by omega) (by omega)).mono ?_)
        rintro e wq ⟨pz, nz, cz, rfl, hr, hCq⟩
        have HC3 := Lib.hid (HC2.out.step0 hCq (Nat.le_refl _))
        clear hCq HC2
        have HC2 := HC3
        clear HC3
        have hnz : nz ≤ 4000000 := by rw [← hr.len]; exact nf_len (dom_union (made xs) (made ys))
        have HRZ := Lib.hid hr
        have HHZ := Lib.hid (has_nf (dom_union (made xs) (made ys)) d (b := true) (by show (Spn.has (made xs) d || Spn.has (made ys) d) = _; rw [HB1.out, HB2.out]; rfl))
        clear hr
        clear hHeld
        first | (refine hK.out _ _ ?_ (fun hHeld => ?_)) | (go_wp2_with fail; refine hK.out _ _ ?_ (fun hHeld => ?_))
        · (try dsimp only); exact (HF.out _ HC2.out).1
        clear hK K
        (try simp only [Act.put, List.setIfInBounds_toArray, List.set_cons_zero, List.set_cons_succ])
        refine wpAnyH_ready (rs := [17]) (by kernel_rfl) (by simp) ?_
        refine AllReadyH.cons (at_list rfl) (fun K hK => ?_) AllReadyH.nil
        go_simp
        go_at_call 10
        (with_reducible refine (Has_as HRZ.out (by omega) HHZ.out).mono ?_)
        rintro e wq ⟨rfl, hCq⟩
        have HC3 := Lib.hid (HC2.out.step0 hCq (Nat.le_refl _))
        clear hCq HC2
        have HC2 := HC3
        clear HC3
        clear HRZ HHZ hnz
        clear hHeld
        first | (refine hK.out _ _ ?_ (fun hHeld => ?_)) | (go_wp2_with fail; refine hK.out _ _ ?_ (fun hHeld => ?_))
        · (try dsimp only); exact (HF.out _ HC2.out).1
        clear hK K
        (try simp only [Act.put, List.setIfInBounds_toArray, List.set_cons_zero, List.set_cons_succ])
        refine tk 19 (v := ?_) hHeld ?_ ?_
        rotate_left 1
        · intro _ hw; (try dsimp only at hw); go_simp; try with_reducible rfl
        (try simp only [Act.put, List.setIfInBounds_toArray, List.set_cons_zero, List.set_cons_succ])
        refine tk 20 (v := ?_) hHeld ?_ ?_
        rotate_left 1
        · intro _ hw; (try dsimp only at hw); go_simp; try with_reducible rfl
        (try simp only [Act.put, List.setIfInBounds_toArray, List.set_cons_zero, List.set_cons_succ])
        refine tk 21 (v := ?_) hHeld ?_ ?_
        rotate_left 1
        · intro _ hw; (try dsimp only at hw); go_simp; try with_reducible rfl
        (try simp only [Act.put, List.setIfInBounds_toArray, List.set_cons_zero, List.set_cons_succ])
        refine tk 22 (v := ?_) hHeld ?_ ?_
        rotate_left 1
        · intro _ hw; (try dsimp only at hw); go_simp; try with_reducible rfl
        (try simp only [Act.put, List.setIfInBounds_toArray, List.set_cons_zero, List.set_cons_succ])
        refine tk 23 (v := ?_) hHeld ?_ ?_
        rotate_left 1
        · intro _ hw; (try dsimp only at hw); go_simp; try with_reducible rfl
        (try simp only [Act.put, List.setIfInBounds_toArray, List.set_cons_zero, List.set_cons_succ])
        refine tk 24 (v := ?_) hHeld ?_ ?_
        rotate_left 1
        · intro _ hw; (try dsimp only at hw); go_simp; try with_reducible rfl
        (try simp only [Act.put, List.setIfInBounds_toArray, List.set_cons_zero, List.set_cons_succ])
        refine tk 25 (v := ?_) hHeld ?_ ?_
        rotate_left 1
        · intro _ hw; (try dsimp only at hw); go_simp; try with_reducible rfl
        (try simp only [Act.put, List.setIfInBounds_toArray, List.set_cons_zero, List.set_cons_succ])
        refine tk 26 (v := ?_) hHeld ?_ ?_
        rotate_left 1
        · intro _ hw; (try dsimp only at hw); go_simp; try with_reducible rfl
        (try simp only [Act.put, List.setIfInBounds_toArray, List.set_cons_zero, List.set_cons_succ])
        refine tk 28 (v := ?_) hHeld ?_ ?_
        rotate_left 1
        · intro _ hw; (try dsimp only at hw); go_simp; try with_reducible rfl
        (try simp only [Act.put, List.setIfInBounds_toArray, List.set_cons_zero, List.set_cons_succ])
        refine tk 29 (v := ?_) hHeld ?_ ?_
        rotate_left 1
        · intro _ hw; (try dsimp only at hw); go_simp; try with_reducible rfl
        (try simp only [Act.put, List.setIfInBounds_toArray, List.set_cons_zero, List.set_cons_succ])
        refine tk 30 (v := ?_) hHeld ?_ ?_
        rotate_left 1
        · intro _ hw; (try dsimp only at hw); go_simp; try with_reducible rfl
        (try simp only [Act.put, List.setIfInBounds_toArray, List.set_cons_zero, List.set_cons_succ])
        refine tk 31 (v := ?_) hHeld ?_ ?_
        rotate_left 1
        · intro _ hw; (try dsimp only at hw); go_simp; try with_reducible rfl
        (try simp only [Act.put, List.setIfInBounds_toArray, List.set_cons_zero, List.set_cons_succ])
        refine tk 33 (v := ?_) hHeld ?_ ?_
        rotate_left 1
        · intro _ hw; (try dsimp only at hw); go_simp; try with_reducible rfl
        (try simp only [Act.put, List.setIfInBounds_toArray, List.set_cons_zero, List.set_cons_succ])
        refine wpAnyH_ready (rs := [27]) (by kernel_rfl) (by simp) ?_
        refine AllReadyH.cons (at_list rfl) (fun K hK => ?_) AllReadyH.nil
        go_simp
        go_at_call 13
        (with_reducible refine (Meet_any _ _ _ _ _ _ _ _ _ (HF.out _ HC2.out).2.1 (HF.out _ HC2.out).2.2 (by omega) (by omega)).mono ?_)
        rintro e wq ⟨pz, nz, cz, rfl, hr, hCq⟩
        have HC3 := Lib.hid (HC2.out.step0 hCq (Nat.le_refl _))
        clear hCq HC2
        have HC2 := HC3
        clear HC3
        have hnz : nz ≤ 4000000 := by rw [← hr.len]; exact nf_len (dom_meet (made xs) (made ys))
        have HRZ := Lib.hid hr
        have HHZ := Lib.hid (has_nf (dom_meet (made xs) (made ys)) d (b := false) (by show (Spn.has (made xs) d && Spn.has (made ys) d) = _; rw [HB1.out, HB2.out]; rfl))
        clear hr
        clear hHeld
        first | (refine hK.out _ _ ?_ (fun hHeld => ?_)) | (go_wp2_with fail; refine hK.out _ _ ?_ (fun hHeld => ?_))
        · (try dsimp only); exact (HF.out _ HC2.out).1
        clear hK K
        (try simp only [Act.put, List.setIfInBounds_toArray, List.set_cons_zero, List.set_cons_succ])
        refine wpAnyH_ready (rs := [32]) (by kernel_rfl) (by simp) ?_
        refine AllReadyH.cons (at_list rfl) (fun K hK => ?_) AllReadyH.nil
        go_simp
        go_at_call 10
        (with_reducible refine (Has_as HRZ.out (by omega) HHZ.out).mono ?_)
        rintro e wq ⟨rfl, hCq⟩
        have HC3 := Lib.hid (HC2.out.step0 hCq (Nat.le_refl _))
        clear hCq HC2
        have HC2 := HC3
        clear HC3
        clear HRZ HHZ hnz
        clear hHeld
        first | (refine hK.out _ _ ?_ (fun hHeld => ?_)) | (go_wp2_with fail; refine hK.out _ _ ?_ (fun hHeld => ?_))
        · (try dsimp only); exact (HF.out _ HC2.out).1
        clear hK K
        (try simp only [Act.put, List.setIfInBounds_toArray, List.set_cons_zero, List.set_cons_succ])
        refine tk 34 (v := ?_) hHeld ?_ ?_
        rotate_left 1
        · intro _ hw; (try dsimp only at hw); go_simp; try with_reducible rfl
        (try simp only [Act.put, List.setIfInBounds_toArray, List.set_cons_zero, List.set_cons_succ])
        refine sk 35 hHeld ?_
        (try simp only [Act.put, List.setIfInBounds_toArray, List.set_cons_zero, List.set_cons_succ])
        refine tk 36 (v := ?_) hHeld ?_ ?_
        rotate_left 1
        · intro _ hw; (try dsimp only at hw); go_simp; try with_reducible rfl
        (try simp only [Act.put, List.setIfInBounds_toArray, List.set_cons_zero, List.set_cons_succ])
        refine tk 37 (v := ?_) hHeld ?_ ?_
        rotate_left 1
        · intro _ hw; (try dsimp only at hw); go_simp; try with_reducible rfl
        (try simp only [Act.put, List.setIfInBounds_toArray, List.set_cons_zero, List.set_cons_succ])
        refine tk 38 (v := ?_) hHeld ?_ ?_
        rotate_left 1
        · intro _ hw; (try dsimp only at hw); go_simp; try with_reducible rfl
        (try simp only [Act.put, List.setIfInBounds_toArray, List.set_cons_zero, List.set_cons_succ])
        refine tk 39 (v := ?_) hHeld ?_ ?_
        rotate_left 1
        · intro _ hw; (try dsimp only at hw); go_simp; try with_reducible rfl
        (try simp only [Act.put, List.setIfInBounds_toArray, List.set_cons_zero, List.set_cons_succ])
        refine tk 40 (v := ?_) hHeld ?_ ?_
        rotate_left 1
        · intro _ hw; (try dsimp only at hw); go_simp; try with_reducible rfl
        (try simp only [Act.put, List.setIfInBounds_toArray, List.set_cons_zero, List.set_cons_succ])
        refine tk 41 (v := ?_) hHeld ?_ ?_
        rotate_left 1
        · intro _ hw; (try dsimp only at hw); go_simp; try with_reducible rfl
        (try simp only [Act.put, List.setIfInBounds_toArray, List.set_cons_zero, List.set_cons_succ])
        refine tk 43 (v := ?_) hHeld ?_ ?_
        rotate_left 1
        · intro _ hw; (try dsimp only at hw); go_simp; try with_reducible rfl
        (try simp only [Act.put, List.setIfInBounds_toArray, List.set_cons_zero, List.set_cons_succ])
        refine tk 44 (v := ?_) hHeld ?_ ?_
        rotate_left 1
        · intro _ hw; (try dsimp only at hw); go_simp; try with_reducible rfl
        (try simp only [Act.put, List.setIfInBounds_toArray, List.set_cons_zero, List.set_cons_succ])
        refine tk 45 (v := ?_) hHeld ?_ ?_
        rotate_left 1
        · intro _ hw; (try dsimp only at hw); go_simp; try with_reducible rfl
        (try simp only [Act.put, List.setIfInBounds_toArray, List.set_cons_zero, List.set_cons_succ])
        refine tk 46 (v := ?_) hHeld ?_ ?_
        rotate_left 1
        · intro _ hw; (try dsimp only at hw); go_simp; try with_reducible rfl
        (try simp only [Act.put, List.setIfInBounds_toArray, List.set_cons_zero, List.set_cons_succ])
        refine tk 48 (v := ?_) hHeld ?_ ?_
        rotate_left 1
        · intro _ hw; (try dsimp only at hw); go_simp; try with_reducible rfl
        (try simp only [Act.put, List.setIfInBounds_toArray, List.set_cons_zero, List.set_cons_succ])
        refine wpAnyH_ready (rs := [42]) (by kernel_rfl) (by simp) ?_
        refine AllReadyH.cons (at_list rfl) (fun K hK => ?_) AllReadyH.nil
        go_simp
        go_at_call 14
        (with_reducible refine (Less_any _ _ _ _ _ _ _ _ _ (HF.out _ HC2.out).2.1 (HF.out _ HC2.out).2.2 (by omega) (by omega)).mono ?_)
        rintro e wq ⟨pz, nz, cz, rfl, hr, hCq⟩
        have HC3 := Lib.hid (HC2.out.step0 hCq (Nat.le_refl _))
        clear hCq HC2
        have HC2 := HC3
        clear HC3
        have hnz : nz ≤ 4000000 := by rw [← hr.len]; exact nf_len (dom_less (made xs) (made ys))
        have HRZ := Lib.hid hr
        have HHZ := Lib.hid (has_nf (dom_less (made xs) (made ys)) d (b := false) (by show (Spn.has (made xs) d && !Spn.has (made ys) d) = _; rw [HB1.out, HB2.out]; rfl))
        clear hr
        clear hHeld
        first | (refine hK.out _ _ ?_ (fun hHeld => ?_)) | (go_wp2_with fail; refine hK.out _ _ ?_ (fun hHeld => ?_))
        · (try dsimp only); exact (HF.out _ HC2.out).1
        clear hK K
        (try simp only [Act.put, List.setIfInBounds_toArray, List.set_cons_zero, List.set_cons_succ])
        refine wpAnyH_ready (rs := [47]) (by kernel_rfl) (by simp) ?_
        refine AllReadyH.cons (at_list rfl) (fun K hK => ?_) AllReadyH.nil
        go_simp
        go_at_call 10
        (with_reducible refine (Has_as HRZ.out (by omega) HHZ.out).mono ?_)
        rintro e wq ⟨rfl, hCq⟩
        have HC3 := Lib.hid (HC2.out.step0 hCq (Nat.le_refl _))
        clear hCq HC2
        have HC2 := HC3
        clear HC3
        clear HRZ HHZ hnz
        clear hHeld
        first | (refine hK.out _ _ ?_ (fun hHeld => ?_)) | (go_wp2_with fail; refine hK.out _ _ ?_ (fun hHeld => ?_))
        · (try dsimp only); exact (HF.out _ HC2.out).1
        clear hK K
        (try simp only [Act.put, List.setIfInBounds_toArray, List.set_cons_zero, List.set_cons_succ])
        refine tk 49 (v := ?_) hHeld ?_ ?_
        rotate_left 1
        · intro _ hw; (try dsimp only at hw); go_simp; try with_reducible rfl
        (try simp only [Act.put, List.setIfInBounds_toArray, List.set_cons_zero, List.set_cons_succ])
        refine sk 50 hHeld ?_
        (try simp only [Act.put, List.setIfInBounds_toArray, List.set_cons_zero, List.set_cons_succ])
        refine sk 51 hHeld ?_
        (try simp only [Act.put, List.setIfInBounds_toArray, List.set_cons_zero, List.set_cons_succ])
        refine tk 52 (v := ?_) hHeld ?_ ?_
        rotate_left 1
        · intro _ hw; (try dsimp only at hw); go_simp; try with_reducible rfl
        (try simp only [Act.put, List.setIfInBounds_toArray, List.set_cons_zero, List.set_cons_succ])
        refine tk 53 (v := ?_) hHeld ?_ ?_
        rotate_left 1
        · intro _ hw; (try dsimp only at hw); go_simp; try with_reducible rfl
        (try simp only [Act.put, List.setIfInBounds_toArray, List.set_cons_zero, List.set_cons_succ])
        refine tk 54 (v := ?_) hHeld ?_ ?_
        rotate_left 1
        · intro _ hw; (try dsimp only at hw); go_simp; try with_reducible rfl
        (try simp only [Act.put, List.setIfInBounds_toArray, List.set_cons_zero, List.set_cons_succ])
        refine wpAnyH_done (by kernel_rfl) ?_ _
        clear hHeld
        go_wp2_with fail
        go_roundw
        case rel => exact ⟨k + 1, by omega, by go_num, HC2.out⟩
        case measure => simp [intOf] <;> omega
      · obtain ⟨cs, _, _⟩ := HF.out _ HC2.out
        go_wp2_with fail
        refine (Has_as (HF.out _ HC2.out).2.1 (by omega) HB1.out).mono ?_
        rintro e wa ⟨rfl, hCq⟩
        have HC3 := Lib.hid (HC2.out.step0 hCq (Nat.le_refl _))
        clear hCq HC2
        have HC2 := HC3
        clear HC3
        clear cs
        obtain ⟨cs, _, _⟩ := HF.out _ HC2.out
        go_wp2_with fail
        refine (Has_as (HF.out _ HC2.out).2.2 (by omega) HB2.out).mono ?_
        rintro e wa ⟨rfl, hCq⟩
        have HC3 := Lib.hid (HC2.out.step0 hCq (Nat.le_refl _))
        clear hCq HC2
        have HC2 := HC3
        clear HC3
        clear cs
        obtain ⟨cs, _, _⟩ := HF.out _ HC2.out
        go_wp2_with fail
        clear cs
        have HCD := Lib.hid HC2.out.drew
        clear HC2
        have HC2 := HCD
        clear HCD
        refine wp_region_held_drew (S := fun w' => w'.cell? ⟨g, k, none⟩ = some (iz d)) (by kernel_rfl) ?_ (fun hHeld => ?_)
        · (try dsimp only); exact (HF.out _ HC2.out).1
        refine tk 0 (v := ?_) hHeld ?_ ?_
        rotate_left 1
        · intro _ hw; (try dsimp only at hw); go_simp; try with_reducible rfl
        (try simp only [Act.put, List.setIfInBounds_toArray, List.set_cons_zero, List.set_cons_succ])
        refine tk 2 (v := ?_) hHeld ?_ ?_
        rotate_left 1
        · intro _ hw; (try dsimp only at hw); go_simp; try with_reducible rfl
        (try simp only [Act.put, List.setIfInBounds_toArray, List.set_cons_zero, List.set_cons_succ])
        refine tk 3 (v := ?_) hHeld ?_ ?_
        rotate_left 1
        · intro _ hw; (try dsimp only at hw); go_simp; try with_reducible rfl
        (try simp only [Act.put, List.setIfInBounds_toArray, List.set_cons_zero, List.set_cons_succ])
        refine tk 4 (v := ?_) hHeld ?_ ?_
        rotate_left 1
        · intro _ hw; (try dsimp only at hw); go_simp; try with_reducible rfl
        (try simp only [Act.put, List.setIfInBounds_toArray, List.set_cons_zero, List.set_cons_succ])
        refine tk 5 (v := ?_) hHeld ?_ ?_
        rotate_left 1
        · intro _ hw; (try dsimp only at hw); go_simp; try with_reducible rfl
        (try simp only [Act.put, List.setIfInBounds_toArray, List.set_cons_zero, List.set_cons_succ])
        refine tk 7 (v := ?_) hHeld ?_ ?_
        rotate_left 1
        · intro _ hw; (try dsimp only at hw); go_simp; try with_reducible rfl
        (try simp only [Act.put, List.setIfInBounds_toArray, List.set_cons_zero, List.set_cons_succ])
        refine wpAnyH_ready (rs := [1]) (by kernel_rfl) (by simp) ?_
        refine AllReadyH.cons (at_list rfl) (fun K hK => ?_) AllReadyH.nil
        go_simp
        go_at_call 11
        (with_reducible refine (Norm_any _ _ _ _ _ (HF.out _ HC2.out).2.1 (by omega)).mono ?_)
        rintro e wq ⟨pz, nz, cz, rfl, hr, hCq⟩
        have HC3 := Lib.hid (HC2.out.step0 hCq (Nat.le_refl _))
        clear hCq HC2
        have HC2 := HC3
        clear HC3
        have hnz : nz ≤ 4000000 := by rw [← hr.len]; exact nf_len (Spn.dom_has (made xs))
        have HRZ := Lib.hid hr
        have HHZ := Lib.hid (has_nf (Spn.dom_has (made xs)) d (b := true) HB1.out)
        clear hr
        clear hHeld
        first | (refine hK.out _ _ ?_ (fun hHeld => ?_)) | (go_wp2_with fail; refine hK.out _ _ ?_ (fun hHeld => ?_))
        · (try dsimp only); exact (HF.out _ HC2.out).1
        clear hK K
        (try simp only [Act.put, List.setIfInBounds_toArray, List.set_cons_zero, List.set_cons_succ])
        refine wpAnyH_ready (rs := [6]) (by kernel_rfl) (by simp) ?_
        refine AllReadyH.cons (at_list rfl) (fun K hK => ?_) AllReadyH.nil
        go_simp
        go_at_call 10
        (with_reducible refine (Has_as HRZ.out (by omega) HHZ.out).mono ?_)
        rintro e wq ⟨rfl, hCq⟩
        have HC3 := Lib.hid (HC2.out.step0 hCq (Nat.le_refl _))
        clear hCq HC2
        have HC2 := HC3
        clear HC3
        clear HRZ HHZ hnz
        clear hHeld
        first | (refine hK.out _ _ ?_ (fun hHeld => ?_)) | (go_wp2_with fail; refine hK.out _ _ ?_ (fun hHeld => ?_))
        · (try dsimp only); exact (HF.out _ HC2.out).1
        clear hK K
        (try simp only [Act.put, List.setIfInBounds_toArray, List.set_cons_zero, List.set_cons_succ])
        refine tk 8 (v := ?_) hHeld ?_ ?_
        rotate_left 1
        · intro _ hw; (try dsimp only at hw); go_simp; try with_reducible rfl
        (try simp only [Act.put, List.setIfInBounds_toArray, List.set_cons_zero, List.set_cons_succ])
        refine tk 9 (v := ?_) hHeld ?_ ?_
        rotate_left 1
        · intro _ hw; (try dsimp only at hw); go_simp; try with_reducible rfl
        (try simp only [Act.put, List.setIfInBounds_toArray, List.set_cons_zero, List.set_cons_succ])
        refine tk 10 (v := ?_) hHeld ?_ ?_
        rotate_left 1
        · intro _ hw; (try dsimp only at hw); go_simp; try with_reducible rfl
        (try simp only [Act.put, List.setIfInBounds_toArray, List.set_cons_zero, List.set_cons_succ])
        refine tk 11 (v := ?_) hHeld ?_ ?_
        rotate_left 1
        · intro _ hw; (try dsimp only at hw); go_simp; try with_reducible rfl
        (try simp only [Act.put, List.setIfInBounds_toArray, List.set_cons_zero, List.set_cons_succ])
        refine tk 13 (v := ?_) hHeld ?_ ?_
        rotate_left 1
        · intro _ hw; (try dsimp only at hw); go_simp; try with_reducible rfl
        (try simp only [Act.put, List.setIfInBounds_toArray, List.set_cons_zero, List.set_cons_succ])
        refine tk 14 (v := ?_) hHeld ?_ ?_
        rotate_left 1
        · intro _ hw; (try dsimp only at hw); go_simp; try with_reducible rfl
        (try simp only [Act.put, List.setIfInBounds_toArray, List.set_cons_zero, List.set_cons_succ])
        refine tk 15 (v := ?_) hHeld ?_ ?_
        rotate_left 1
        · intro _ hw; (try dsimp only at hw); go_simp; try with_reducible rfl
        (try simp only [Act.put, List.setIfInBounds_toArray, List.set_cons_zero, List.set_cons_succ])
        refine tk 16 (v := ?_) hHeld ?_ ?_
        rotate_left 1
        · intro _ hw; (try dsimp only at hw); go_simp; try with_reducible rfl
        (try simp only [Act.put, List.setIfInBounds_toArray, List.set_cons_zero, List.set_cons_succ])
        refine tk 18 (v := ?_) hHeld ?_ ?_
        rotate_left 1
        · intro _ hw; (try dsimp only at hw); go_simp; try with_reducible rfl
        (try simp only [Act.put, List.setIfInBounds_toArray, List.set_cons_zero, List.set_cons_succ])
        refine wpAnyH_ready (rs := [12]) (by kernel_rfl) (by simp) ?_
        refine AllReadyH.cons (at_list rfl) (fun K hK => ?_) AllReadyH.nil
        go_simp
        go_at_call 12
        (with_reducible refine (Union_any _ _ _ _ _ _ _ _ _ (HF.out _ HC2.out).2.1 (HF.out _ HC2.out).2.2 (by omega) (by omega)).mono ?_)
        rintro e wq ⟨pz, nz, cz, rfl, hr, hCq⟩
        have HC3 := Lib.hid (HC2.out.step0 hCq (Nat.le_refl _))
        clear hCq HC2
        have HC2 := HC3
        clear HC3
        have hnz : nz ≤ 4000000 := by rw [← hr.len]; exact nf_len (dom_union (made xs) (made ys))
        have HRZ := Lib.hid hr
        have HHZ := Lib.hid (has_nf (dom_union (made xs) (made ys)) d (b := true) (by show (Spn.has (made xs) d || Spn.has (made ys) d) = _; rw [HB1.out, HB2.out]; rfl))
        clear hr
        clear hHeld
        first | (refine hK.out _ _ ?_ (fun hHeld => ?_)) | (go_wp2_with fail; refine hK.out _ _ ?_ (fun hHeld => ?_))
        · (try dsimp only); exact (HF.out _ HC2.out).1
        clear hK K
        (try simp only [Act.put, List.setIfInBounds_toArray, List.set_cons_zero, List.set_cons_succ])
        refine wpAnyH_ready (rs := [17]) (by kernel_rfl) (by simp) ?_
        refine AllReadyH.cons (at_list rfl) (fun K hK => ?_) AllReadyH.nil
        go_simp
        go_at_call 10
        (with_reducible refine (Has_as HRZ.out (by omega) HHZ.out).mono ?_)
        rintro e wq ⟨rfl, hCq⟩
        have HC3 := Lib.hid (HC2.out.step0 hCq (Nat.le_refl _))
        clear hCq HC2
        have HC2 := HC3
        clear HC3
        clear HRZ HHZ hnz
        clear hHeld
        first | (refine hK.out _ _ ?_ (fun hHeld => ?_)) | (go_wp2_with fail; refine hK.out _ _ ?_ (fun hHeld => ?_))
        · (try dsimp only); exact (HF.out _ HC2.out).1
        clear hK K
        (try simp only [Act.put, List.setIfInBounds_toArray, List.set_cons_zero, List.set_cons_succ])
        refine tk 19 (v := ?_) hHeld ?_ ?_
        rotate_left 1
        · intro _ hw; (try dsimp only at hw); go_simp; try with_reducible rfl
        (try simp only [Act.put, List.setIfInBounds_toArray, List.set_cons_zero, List.set_cons_succ])
        refine sk 20 hHeld ?_
        (try simp only [Act.put, List.setIfInBounds_toArray, List.set_cons_zero, List.set_cons_succ])
        refine tk 21 (v := ?_) hHeld ?_ ?_
        rotate_left 1
        · intro _ hw; (try dsimp only at hw); go_simp; try with_reducible rfl
        (try simp only [Act.put, List.setIfInBounds_toArray, List.set_cons_zero, List.set_cons_succ])
        refine tk 22 (v := ?_) hHeld ?_ ?_
        rotate_left 1
        · intro _ hw; (try dsimp only at hw); go_simp; try with_reducible rfl
        (try simp only [Act.put, List.setIfInBounds_toArray, List.set_cons_zero, List.set_cons_succ])
        refine tk 23 (v := ?_) hHeld ?_ ?_
        rotate_left 1
        · intro _ hw; (try dsimp only at hw); go_simp; try with_reducible rfl
        (try simp only [Act.put, List.setIfInBounds_toArray, List.set_cons_zero, List.set_cons_succ])
        refine tk 24 (v := ?_) hHeld ?_ ?_
        rotate_left 1
        · intro _ hw; (try dsimp only at hw); go_simp; try with_reducible rfl
        (try simp only [Act.put, List.setIfInBounds_toArray, List.set_cons_zero, List.set_cons_succ])
        refine tk 25 (v := ?_) hHeld ?_ ?_
        rotate_left 1
        · intro _ hw; (try dsimp only at hw); go_simp; try with_reducible rfl
        (try simp only [Act.put, List.setIfInBounds_toArray, List.set_cons_zero, List.set_cons_succ])
        refine tk 26 (v := ?_) hHeld ?_ ?_
        rotate_left 1
        · intro _ hw; (try dsimp only at hw); go_simp; try with_reducible rfl
        (try simp only [Act.put, List.setIfInBounds_toArray, List.set_cons_zero, List.set_cons_succ])
        refine tk 28 (v := ?_) hHeld ?_ ?_
        rotate_left 1
        · intro _ hw; (try dsimp only at hw); go_simp; try with_reducible rfl
        (try simp only [Act.put, List.setIfInBounds_toArray, List.set_cons_zero, List.set_cons_succ])
        refine tk 29 (v := ?_) hHeld ?_ ?_
        rotate_left 1
        · intro _ hw; (try dsimp only at hw); go_simp; try with_reducible rfl
        (try simp only [Act.put, List.setIfInBounds_toArray, List.set_cons_zero, List.set_cons_succ])
        refine tk 30 (v := ?_) hHeld ?_ ?_
        rotate_left 1
        · intro _ hw; (try dsimp only at hw); go_simp; try with_reducible rfl
        (try simp only [Act.put, List.setIfInBounds_toArray, List.set_cons_zero, List.set_cons_succ])
        refine tk 31 (v := ?_) hHeld ?_ ?_
        rotate_left 1
        · intro _ hw; (try dsimp only at hw); go_simp; try with_reducible rfl
        (try simp only [Act.put, List.setIfInBounds_toArray, List.set_cons_zero, List.set_cons_succ])
        refine tk 33 (v := ?_) hHeld ?_ ?_
        rotate_left 1
        · intro _ hw; (try dsimp only at hw); go_simp; try with_reducible rfl
        (try simp only [Act.put, List.setIfInBounds_toArray, List.set_cons_zero, List.set_cons_succ])
        refine wpAnyH_ready (rs := [27]) (by kernel_rfl) (by simp) ?_
        refine AllReadyH.cons (at_list rfl) (fun K hK => ?_) AllReadyH.nil
        go_simp
        go_at_call 13
        (with_reducible refine (Meet_any _ _ _ _ _ _ _ _ _ (HF.out _ HC2.out).2.1 (HF.out _ HC2.out).2.2 (by omega) (by omega)).mono ?_)
        rintro e wq ⟨pz, nz, cz, rfl, hr, hCq⟩
        have HC3 := Lib.hid (HC2.out.step0 hCq (Nat.le_refl _))
        clear hCq HC2
        have HC2 := HC3
        clear HC3
        have hnz : nz ≤ 4000000 := by rw [← hr.len]; exact nf_len (dom_meet (made xs) (made ys))
        have HRZ := Lib.hid hr
        have HHZ := Lib.hid (has_nf (dom_meet (made xs) (made ys)) d (b := false) (by show (Spn.has (made xs) d && Spn.has (made ys) d) = _; rw [HB1.out, HB2.out]; rfl))
        clear hr
        clear hHeld
        first | (refine hK.out _ _ ?_ (fun hHeld => ?_)) | (go_wp2_with fail; refine hK.out _ _ ?_ (fun hHeld => ?_))
        · (try dsimp only); exact (HF.out _ HC2.out).1
        clear hK K
        (try simp only [Act.put, List.setIfInBounds_toArray, List.set_cons_zero, List.set_cons_succ])
        refine wpAnyH_ready (rs := [32]) (by kernel_rfl) (by simp) ?_
        refine AllReadyH.cons (at_list rfl) (fun K hK => ?_) AllReadyH.nil
        go_simp
        go_at_call 10
        (with_reducible refine (Has_as HRZ.out (by omega) HHZ.out).mono ?_)
        rintro e wq ⟨rfl, hCq⟩
        have HC3 := Lib.hid (HC2.out.step0 hCq (Nat.le_refl _))
        clear hCq HC2
        have HC2 := HC3
        clear HC3
        clear HRZ HHZ hnz
        clear hHeld
        first | (refine hK.out _ _ ?_ (fun hHeld => ?_)) | (go_wp2_with fail; refine hK.out _ _ ?_ (fun hHeld => ?_))
        · (try dsimp only); exact (HF.out _ HC2.out).1
        clear hK K
        (try simp only [Act.put, List.setIfInBounds_toArray, List.set_cons_zero, List.set_cons_succ])
        refine tk 34 (v := ?_) hHeld ?_ ?_
        rotate_left 1
        · intro _ hw; (try dsimp only at hw); go_simp; try with_reducible rfl
        (try simp only [Act.put, List.setIfInBounds_toArray, List.set_cons_zero, List.set_cons_succ])
        refine tk 35 (v := ?_) hHeld ?_ ?_
        rotate_left 1
        · intro _ hw; (try dsimp only at hw); go_simp; try with_reducible rfl
        (try simp only [Act.put, List.setIfInBounds_toArray, List.set_cons_zero, List.set_cons_succ])
        refine tk 36 (v := ?_) hHeld ?_ ?_
        rotate_left 1
        · intro _ hw; (try dsimp only at hw); go_simp; try with_reducible rfl
        (try simp only [Act.put, List.setIfInBounds_toArray, List.set_cons_zero, List.set_cons_succ])
        refine tk 37 (v := ?_) hHeld ?_ ?_
        rotate_left 1
        · intro _ hw; (try dsimp only at hw); go_simp; try with_reducible rfl
        (try simp only [Act.put, List.setIfInBounds_toArray, List.set_cons_zero, List.set_cons_succ])
        refine tk 38 (v := ?_) hHeld ?_ ?_
        rotate_left 1
        · intro _ hw; (try dsimp only at hw); go_simp; try with_reducible rfl
        (try simp only [Act.put, List.setIfInBounds_toArray, List.set_cons_zero, List.set_cons_succ])
        refine tk 39 (v := ?_) hHeld ?_ ?_
        rotate_left 1
        · intro _ hw; (try dsimp only at hw); go_simp; try with_reducible rfl
        (try simp only [Act.put, List.setIfInBounds_toArray, List.set_cons_zero, List.set_cons_succ])
        refine tk 40 (v := ?_) hHeld ?_ ?_
        rotate_left 1
        · intro _ hw; (try dsimp only at hw); go_simp; try with_reducible rfl
        (try simp only [Act.put, List.setIfInBounds_toArray, List.set_cons_zero, List.set_cons_succ])
        refine tk 41 (v := ?_) hHeld ?_ ?_
        rotate_left 1
        · intro _ hw; (try dsimp only at hw); go_simp; try with_reducible rfl
        (try simp only [Act.put, List.setIfInBounds_toArray, List.set_cons_zero, List.set_cons_succ])
        refine tk 43 (v := ?_) hHeld ?_ ?_
        rotate_left 1
        · intro _ hw; (try dsimp only at hw); go_simp; try with_reducible rfl
        (try simp only [Act.put, List.setIfInBounds_toArray, List.set_cons_zero, List.set_cons_succ])
        refine tk 44 (v := ?_) hHeld ?_ ?_
        rotate_left 1
        · intro _ hw; (try dsimp only at hw); go_simp; try with_reducible rfl
        (try simp only [Act.put, List.setIfInBounds_toArray, List.set_cons_zero, List.set_cons_succ])
        refine tk 45 (v := ?_) hHeld ?_ ?_
        rotate_left 1
        · intro _ hw; (try dsimp only at hw); go_simp; try with_reducible rfl
        (try simp only [Act.put, List.setIfInBounds_toArray, List.set_cons_zero, List.set_cons_succ])
        refine tk 46 (v := ?_) hHeld ?_ ?_
        rotate_left 1
        · intro _ hw; (try dsimp only at hw); go_simp; try with_reducible rfl
        (try simp only [Act.put, List.setIfInBounds_toArray, List.set_cons_zero, List.set_cons_succ])
        refine tk 48 (v := ?_) hHeld ?_ ?_
        rotate_left 1
        · intro _ hw; (try dsimp only at hw); go_simp; try with_reducible rfl
        (try simp only [Act.put, List.setIfInBounds_toArray, List.set_cons_zero, List.set_cons_succ])
        refine wpAnyH_ready (rs := [42]) (by kernel_rfl) (by simp) ?_
        refine AllReadyH.cons (at_list rfl) (fun K hK => ?_) AllReadyH.nil
        go_simp
        go_at_call 14
        (with_reducible refine (Less_any _ _ _ _ _ _ _ _ _ (HF.out _ HC2.out).2.1 (HF.out _ HC2.out).2.2 (by omega) (by omega)).mono ?_)
        rintro e wq ⟨pz, nz, cz, rfl, hr, hCq⟩
        have HC3 := Lib.hid (HC2.out.step0 hCq (Nat.le_refl _))
        clear hCq HC2
        have HC2 := HC3
        clear HC3
        have hnz : nz ≤ 4000000 := by rw [← hr.len]; exact nf_len (dom_less (made xs) (made ys))
        have HRZ := Lib.hid hr
        have HHZ := Lib.hid (has_nf (dom_less (made xs) (made ys)) d (b := true) (by show (Spn.has (made xs) d && !Spn.has (made ys) d) = _; rw [HB1.out, HB2.out]; rfl))
        clear hr
        clear hHeld
        first | (refine hK.out _ _ ?_ (fun hHeld => ?_)) | (go_wp2_with fail; refine hK.out _ _ ?_ (fun hHeld => ?_))
        · (try dsimp only); exact (HF.out _ HC2.out).1
        clear hK K
        (try simp only [Act.put, List.setIfInBounds_toArray, List.set_cons_zero, List.set_cons_succ])
        refine wpAnyH_ready (rs := [47]) (by kernel_rfl) (by simp) ?_
        refine AllReadyH.cons (at_list rfl) (fun K hK => ?_) AllReadyH.nil
        go_simp
        go_at_call 10
        (with_reducible refine (Has_as HRZ.out (by omega) HHZ.out).mono ?_)
        rintro e wq ⟨rfl, hCq⟩
        have HC3 := Lib.hid (HC2.out.step0 hCq (Nat.le_refl _))
        clear hCq HC2
        have HC2 := HC3
        clear HC3
        clear HRZ HHZ hnz
        clear hHeld
        first | (refine hK.out _ _ ?_ (fun hHeld => ?_)) | (go_wp2_with fail; refine hK.out _ _ ?_ (fun hHeld => ?_))
        · (try dsimp only); exact (HF.out _ HC2.out).1
        clear hK K
        (try simp only [Act.put, List.setIfInBounds_toArray, List.set_cons_zero, List.set_cons_succ])
        refine tk 49 (v := ?_) hHeld ?_ ?_
        rotate_left 1
        · intro _ hw; (try dsimp only at hw); go_simp; try with_reducible rfl
        (try simp only [Act.put, List.setIfInBounds_toArray, List.set_cons_zero, List.set_cons_succ])
        refine tk 50 (v := ?_) hHeld ?_ ?_
        rotate_left 1
        · intro _ hw; (try dsimp only at hw); go_simp; try with_reducible rfl
        (try simp only [Act.put, List.setIfInBounds_toArray, List.set_cons_zero, List.set_cons_succ])
        refine tk 51 (v := ?_) hHeld ?_ ?_
        rotate_left 1
        · intro _ hw; (try dsimp only at hw); go_simp; try with_reducible rfl
        (try simp only [Act.put, List.setIfInBounds_toArray, List.set_cons_zero, List.set_cons_succ])
        refine tk 52 (v := ?_) hHeld ?_ ?_
        rotate_left 1
        · intro _ hw; (try dsimp only at hw); go_simp; try with_reducible rfl
        (try simp only [Act.put, List.setIfInBounds_toArray, List.set_cons_zero, List.set_cons_succ])
        refine tk 53 (v := ?_) hHeld ?_ ?_
        rotate_left 1
        · intro _ hw; (try dsimp only at hw); go_simp; try with_reducible rfl
        (try simp only [Act.put, List.setIfInBounds_toArray, List.set_cons_zero, List.set_cons_succ])
        refine tk 54 (v := ?_) hHeld ?_ ?_
        rotate_left 1
        · intro _ hw; (try dsimp only at hw); go_simp; try with_reducible rfl
        (try simp only [Act.put, List.setIfInBounds_toArray, List.set_cons_zero, List.set_cons_succ])
        refine wpAnyH_done (by kernel_rfl) ?_ _
        clear hHeld
        go_wp2_with fail
        go_roundw
        case rel => exact ⟨k + 1, by omega, by go_num, HC2.out⟩
        case measure => simp [intOf] <;> omega
      · obtain ⟨cs, _, _⟩ := HF.out _ HC2.out
        go_wp2_with fail
        refine (Has_as (HF.out _ HC2.out).2.1 (by omega) HB1.out).mono ?_
        rintro e wa ⟨rfl, hCq⟩
        have HC3 := Lib.hid (HC2.out.step0 hCq (Nat.le_refl _))
        clear hCq HC2
        have HC2 := HC3
        clear HC3
        clear cs
        obtain ⟨cs, _, _⟩ := HF.out _ HC2.out
        go_wp2_with fail
        refine (Has_as (HF.out _ HC2.out).2.2 (by omega) HB2.out).mono ?_
        rintro e wa ⟨rfl, hCq⟩
        have HC3 := Lib.hid (HC2.out.step0 hCq (Nat.le_refl _))
        clear hCq HC2
        have HC2 := HC3
        clear HC3
        clear cs
        obtain ⟨cs, _, _⟩ := HF.out _ HC2.out
        go_wp2_with fail
        clear cs
        have HCD := Lib.hid HC2.out.drew
        clear HC2
        have HC2 := HCD
        clear HCD
        refine wp_region_held_drew (S := fun w' => w'.cell? ⟨g, k, none⟩ = some (iz d)) (by kernel_rfl) ?_ (fun hHeld => ?_)
        · (try dsimp only); exact (HF.out _ HC2.out).1
        refine tk 0 (v := ?_) hHeld ?_ ?_
        rotate_left 1
        · intro _ hw; (try dsimp only at hw); go_simp; try with_reducible rfl
        (try simp only [Act.put, List.setIfInBounds_toArray, List.set_cons_zero, List.set_cons_succ])
        refine tk 2 (v := ?_) hHeld ?_ ?_
        rotate_left 1
        · intro _ hw; (try dsimp only at hw); go_simp; try with_reducible rfl
        (try simp only [Act.put, List.setIfInBounds_toArray, List.set_cons_zero, List.set_cons_succ])
        refine tk 3 (v := ?_) hHeld ?_ ?_
        rotate_left 1
        · intro _ hw; (try dsimp only at hw); go_simp; try with_reducible rfl
        (try simp only [Act.put, List.setIfInBounds_toArray, List.set_cons_zero, List.set_cons_succ])
        refine tk 4 (v := ?_) hHeld ?_ ?_
        rotate_left 1
        · intro _ hw; (try dsimp only at hw); go_simp; try with_reducible rfl
        (try simp only [Act.put, List.setIfInBounds_toArray, List.set_cons_zero, List.set_cons_succ])
        refine tk 5 (v := ?_) hHeld ?_ ?_
        rotate_left 1
        · intro _ hw; (try dsimp only at hw); go_simp; try with_reducible rfl
        (try simp only [Act.put, List.setIfInBounds_toArray, List.set_cons_zero, List.set_cons_succ])
        refine tk 7 (v := ?_) hHeld ?_ ?_
        rotate_left 1
        · intro _ hw; (try dsimp only at hw); go_simp; try with_reducible rfl
        (try simp only [Act.put, List.setIfInBounds_toArray, List.set_cons_zero, List.set_cons_succ])
        refine wpAnyH_ready (rs := [1]) (by kernel_rfl) (by simp) ?_
        refine AllReadyH.cons (at_list rfl) (fun K hK => ?_) AllReadyH.nil
        go_simp
        go_at_call 11
        (with_reducible refine (Norm_any _ _ _ _ _ (HF.out _ HC2.out).2.1 (by omega)).mono ?_)
        rintro e wq ⟨pz, nz, cz, rfl, hr, hCq⟩
        have HC3 := Lib.hid (HC2.out.step0 hCq (Nat.le_refl _))
        clear hCq HC2
        have HC2 := HC3
        clear HC3
        have hnz : nz ≤ 4000000 := by rw [← hr.len]; exact nf_len (Spn.dom_has (made xs))
        have HRZ := Lib.hid hr
        have HHZ := Lib.hid (has_nf (Spn.dom_has (made xs)) d (b := true) HB1.out)
        clear hr
        clear hHeld
        first | (refine hK.out _ _ ?_ (fun hHeld => ?_)) | (go_wp2_with fail; refine hK.out _ _ ?_ (fun hHeld => ?_))
        · (try dsimp only); exact (HF.out _ HC2.out).1
        clear hK K
        (try simp only [Act.put, List.setIfInBounds_toArray, List.set_cons_zero, List.set_cons_succ])
        refine wpAnyH_ready (rs := [6]) (by kernel_rfl) (by simp) ?_
        refine AllReadyH.cons (at_list rfl) (fun K hK => ?_) AllReadyH.nil
        go_simp
        go_at_call 10
        (with_reducible refine (Has_as HRZ.out (by omega) HHZ.out).mono ?_)
        rintro e wq ⟨rfl, hCq⟩
        have HC3 := Lib.hid (HC2.out.step0 hCq (Nat.le_refl _))
        clear hCq HC2
        have HC2 := HC3
        clear HC3
        clear HRZ HHZ hnz
        clear hHeld
        first | (refine hK.out _ _ ?_ (fun hHeld => ?_)) | (go_wp2_with fail; refine hK.out _ _ ?_ (fun hHeld => ?_))
        · (try dsimp only); exact (HF.out _ HC2.out).1
        clear hK K
        (try simp only [Act.put, List.setIfInBounds_toArray, List.set_cons_zero, List.set_cons_succ])
        refine tk 8 (v := ?_) hHeld ?_ ?_
        rotate_left 1
        · intro _ hw; (try dsimp only at hw); go_simp; try with_reducible rfl
        (try simp only [Act.put, List.setIfInBounds_toArray, List.set_cons_zero, List.set_cons_succ])
        refine tk 9 (v := ?_) hHeld ?_ ?_
        rotate_left 1
        · intro _ hw; (try dsimp only at hw); go_simp; try with_reducible rfl
        (try simp only [Act.put, List.setIfInBounds_toArray, List.set_cons_zero, List.set_cons_succ])
        refine tk 10 (v := ?_) hHeld ?_ ?_
        rotate_left 1
        · intro _ hw; (try dsimp only at hw); go_simp; try with_reducible rfl
        (try simp only [Act.put, List.setIfInBounds_toArray, List.set_cons_zero, List.set_cons_succ])
        refine tk 11 (v := ?_) hHeld ?_ ?_
        rotate_left 1
        · intro _ hw; (try dsimp only at hw); go_simp; try with_reducible rfl
        (try simp only [Act.put, List.setIfInBounds_toArray, List.set_cons_zero, List.set_cons_succ])
        refine tk 13 (v := ?_) hHeld ?_ ?_
        rotate_left 1
        · intro _ hw; (try dsimp only at hw); go_simp; try with_reducible rfl
        (try simp only [Act.put, List.setIfInBounds_toArray, List.set_cons_zero, List.set_cons_succ])
        refine tk 14 (v := ?_) hHeld ?_ ?_
        rotate_left 1
        · intro _ hw; (try dsimp only at hw); go_simp; try with_reducible rfl
        (try simp only [Act.put, List.setIfInBounds_toArray, List.set_cons_zero, List.set_cons_succ])
        refine tk 15 (v := ?_) hHeld ?_ ?_
        rotate_left 1
        · intro _ hw; (try dsimp only at hw); go_simp; try with_reducible rfl
        (try simp only [Act.put, List.setIfInBounds_toArray, List.set_cons_zero, List.set_cons_succ])
        refine tk 16 (v := ?_) hHeld ?_ ?_
        rotate_left 1
        · intro _ hw; (try dsimp only at hw); go_simp; try with_reducible rfl
        (try simp only [Act.put, List.setIfInBounds_toArray, List.set_cons_zero, List.set_cons_succ])
        refine tk 18 (v := ?_) hHeld ?_ ?_
        rotate_left 1
        · intro _ hw; (try dsimp only at hw); go_simp; try with_reducible rfl
        (try simp only [Act.put, List.setIfInBounds_toArray, List.set_cons_zero, List.set_cons_succ])
        refine wpAnyH_ready (rs := [12]) (by kernel_rfl) (by simp) ?_
        refine AllReadyH.cons (at_list rfl) (fun K hK => ?_) AllReadyH.nil
        go_simp
        go_at_call 12
        (with_reducible refine (Union_any _ _ _ _ _ _ _ _ _ (HF.out _ HC2.out).2.1 (HF.out _ HC2.out).2.2 (by omega) (by omega)).mono ?_)
        rintro e wq ⟨pz, nz, cz, rfl, hr, hCq⟩
        have HC3 := Lib.hid (HC2.out.step0 hCq (Nat.le_refl _))
        clear hCq HC2
        have HC2 := HC3
        clear HC3
        have hnz : nz ≤ 4000000 := by rw [← hr.len]; exact nf_len (dom_union (made xs) (made ys))
        have HRZ := Lib.hid hr
        have HHZ := Lib.hid (has_nf (dom_union (made xs) (made ys)) d (b := true) (by show (Spn.has (made xs) d || Spn.has (made ys) d) = _; rw [HB1.out, HB2.out]; rfl))
        clear hr
        clear hHeld
        first | (refine hK.out _ _ ?_ (fun hHeld => ?_)) | (go_wp2_with fail; refine hK.out _ _ ?_ (fun hHeld => ?_))
        · (try dsimp only); exact (HF.out _ HC2.out).1
        clear hK K
        (try simp only [Act.put, List.setIfInBounds_toArray, List.set_cons_zero, List.set_cons_succ])
        refine wpAnyH_ready (rs := [17]) (by kernel_rfl) (by simp) ?_
        refine AllReadyH.cons (at_list rfl) (fun K hK => ?_) AllReadyH.nil
        go_simp
        go_at_call 10
        (with_reducible refine (Has_as HRZ.out (by omega) HHZ.out).mono ?_)
        rintro e wq ⟨rfl, hCq⟩
        have HC3 := Lib.hid (HC2.out.step0 hCq (Nat.le_refl _))
        clear hCq HC2
        have HC2 := HC3
        clear HC3
        clear HRZ HHZ hnz
        clear hHeld
        first | (refine hK.out _ _ ?_ (fun hHeld => ?_)) | (go_wp2_with fail; refine hK.out _ _ ?_ (fun hHeld => ?_))
        · (try dsimp only); exact (HF.out _ HC2.out).1
        clear hK K
        (try simp only [Act.put, List.setIfInBounds_toArray, List.set_cons_zero, List.set_cons_succ])
        refine tk 19 (v := ?_) hHeld ?_ ?_
        rotate_left 1
        · intro _ hw; (try dsimp only at hw); go_simp; try with_reducible rfl
        (try simp only [Act.put, List.setIfInBounds_toArray, List.set_cons_zero, List.set_cons_succ])
        refine sk 20 hHeld ?_
        (try simp only [Act.put, List.setIfInBounds_toArray, List.set_cons_zero, List.set_cons_succ])
        refine tk 21 (v := ?_) hHeld ?_ ?_
        rotate_left 1
        · intro _ hw; (try dsimp only at hw); go_simp; try with_reducible rfl
        (try simp only [Act.put, List.setIfInBounds_toArray, List.set_cons_zero, List.set_cons_succ])
        refine tk 22 (v := ?_) hHeld ?_ ?_
        rotate_left 1
        · intro _ hw; (try dsimp only at hw); go_simp; try with_reducible rfl
        (try simp only [Act.put, List.setIfInBounds_toArray, List.set_cons_zero, List.set_cons_succ])
        refine tk 23 (v := ?_) hHeld ?_ ?_
        rotate_left 1
        · intro _ hw; (try dsimp only at hw); go_simp; try with_reducible rfl
        (try simp only [Act.put, List.setIfInBounds_toArray, List.set_cons_zero, List.set_cons_succ])
        refine tk 24 (v := ?_) hHeld ?_ ?_
        rotate_left 1
        · intro _ hw; (try dsimp only at hw); go_simp; try with_reducible rfl
        (try simp only [Act.put, List.setIfInBounds_toArray, List.set_cons_zero, List.set_cons_succ])
        refine tk 25 (v := ?_) hHeld ?_ ?_
        rotate_left 1
        · intro _ hw; (try dsimp only at hw); go_simp; try with_reducible rfl
        (try simp only [Act.put, List.setIfInBounds_toArray, List.set_cons_zero, List.set_cons_succ])
        refine tk 26 (v := ?_) hHeld ?_ ?_
        rotate_left 1
        · intro _ hw; (try dsimp only at hw); go_simp; try with_reducible rfl
        (try simp only [Act.put, List.setIfInBounds_toArray, List.set_cons_zero, List.set_cons_succ])
        refine tk 28 (v := ?_) hHeld ?_ ?_
        rotate_left 1
        · intro _ hw; (try dsimp only at hw); go_simp; try with_reducible rfl
        (try simp only [Act.put, List.setIfInBounds_toArray, List.set_cons_zero, List.set_cons_succ])
        refine tk 29 (v := ?_) hHeld ?_ ?_
        rotate_left 1
        · intro _ hw; (try dsimp only at hw); go_simp; try with_reducible rfl
        (try simp only [Act.put, List.setIfInBounds_toArray, List.set_cons_zero, List.set_cons_succ])
        refine tk 30 (v := ?_) hHeld ?_ ?_
        rotate_left 1
        · intro _ hw; (try dsimp only at hw); go_simp; try with_reducible rfl
        (try simp only [Act.put, List.setIfInBounds_toArray, List.set_cons_zero, List.set_cons_succ])
        refine tk 31 (v := ?_) hHeld ?_ ?_
        rotate_left 1
        · intro _ hw; (try dsimp only at hw); go_simp; try with_reducible rfl
        (try simp only [Act.put, List.setIfInBounds_toArray, List.set_cons_zero, List.set_cons_succ])
        refine tk 33 (v := ?_) hHeld ?_ ?_
        rotate_left 1
        · intro _ hw; (try dsimp only at hw); go_simp; try with_reducible rfl
        (try simp only [Act.put, List.setIfInBounds_toArray, List.set_cons_zero, List.set_cons_succ])
        refine wpAnyH_ready (rs := [27]) (by kernel_rfl) (by simp) ?_
        refine AllReadyH.cons (at_list rfl) (fun K hK => ?_) AllReadyH.nil
        go_simp
        go_at_call 13
        (with_reducible refine (Meet_any _ _ _ _ _ _ _ _ _ (HF.out _ HC2.out).2.1 (HF.out _ HC2.out).2.2 (by omega) (by omega)).mono ?_)
        rintro e wq ⟨pz, nz, cz, rfl, hr, hCq⟩
        have HC3 := Lib.hid (HC2.out.step0 hCq (Nat.le_refl _))
        clear hCq HC2
        have HC2 := HC3
        clear HC3
        have hnz : nz ≤ 4000000 := by rw [← hr.len]; exact nf_len (dom_meet (made xs) (made ys))
        have HRZ := Lib.hid hr
        have HHZ := Lib.hid (has_nf (dom_meet (made xs) (made ys)) d (b := true) (by show (Spn.has (made xs) d && Spn.has (made ys) d) = _; rw [HB1.out, HB2.out]; rfl))
        clear hr
        clear hHeld
        first | (refine hK.out _ _ ?_ (fun hHeld => ?_)) | (go_wp2_with fail; refine hK.out _ _ ?_ (fun hHeld => ?_))
        · (try dsimp only); exact (HF.out _ HC2.out).1
        clear hK K
        (try simp only [Act.put, List.setIfInBounds_toArray, List.set_cons_zero, List.set_cons_succ])
        refine wpAnyH_ready (rs := [32]) (by kernel_rfl) (by simp) ?_
        refine AllReadyH.cons (at_list rfl) (fun K hK => ?_) AllReadyH.nil
        go_simp
        go_at_call 10
        (with_reducible refine (Has_as HRZ.out (by omega) HHZ.out).mono ?_)
        rintro e wq ⟨rfl, hCq⟩
        have HC3 := Lib.hid (HC2.out.step0 hCq (Nat.le_refl _))
        clear hCq HC2
        have HC2 := HC3
        clear HC3
        clear HRZ HHZ hnz
        clear hHeld
        first | (refine hK.out _ _ ?_ (fun hHeld => ?_)) | (go_wp2_with fail; refine hK.out _ _ ?_ (fun hHeld => ?_))
        · (try dsimp only); exact (HF.out _ HC2.out).1
        clear hK K
        (try simp only [Act.put, List.setIfInBounds_toArray, List.set_cons_zero, List.set_cons_succ])
        refine tk 34 (v := ?_) hHeld ?_ ?_
        rotate_left 1
        · intro _ hw; (try dsimp only at hw); go_simp; try with_reducible rfl
        (try simp only [Act.put, List.setIfInBounds_toArray, List.set_cons_zero, List.set_cons_succ])
        refine tk 35 (v := ?_) hHeld ?_ ?_
        rotate_left 1
        · intro _ hw; (try dsimp only at hw); go_simp; try with_reducible rfl
        (try simp only [Act.put, List.setIfInBounds_toArray, List.set_cons_zero, List.set_cons_succ])
        refine tk 36 (v := ?_) hHeld ?_ ?_
        rotate_left 1
        · intro _ hw; (try dsimp only at hw); go_simp; try with_reducible rfl
        (try simp only [Act.put, List.setIfInBounds_toArray, List.set_cons_zero, List.set_cons_succ])
        refine tk 37 (v := ?_) hHeld ?_ ?_
        rotate_left 1
        · intro _ hw; (try dsimp only at hw); go_simp; try with_reducible rfl
        (try simp only [Act.put, List.setIfInBounds_toArray, List.set_cons_zero, List.set_cons_succ])
        refine tk 38 (v := ?_) hHeld ?_ ?_
        rotate_left 1
        · intro _ hw; (try dsimp only at hw); go_simp; try with_reducible rfl
        (try simp only [Act.put, List.setIfInBounds_toArray, List.set_cons_zero, List.set_cons_succ])
        refine tk 39 (v := ?_) hHeld ?_ ?_
        rotate_left 1
        · intro _ hw; (try dsimp only at hw); go_simp; try with_reducible rfl
        (try simp only [Act.put, List.setIfInBounds_toArray, List.set_cons_zero, List.set_cons_succ])
        refine tk 40 (v := ?_) hHeld ?_ ?_
        rotate_left 1
        · intro _ hw; (try dsimp only at hw); go_simp; try with_reducible rfl
        (try simp only [Act.put, List.setIfInBounds_toArray, List.set_cons_zero, List.set_cons_succ])
        refine tk 41 (v := ?_) hHeld ?_ ?_
        rotate_left 1
        · intro _ hw; (try dsimp only at hw); go_simp; try with_reducible rfl
        (try simp only [Act.put, List.setIfInBounds_toArray, List.set_cons_zero, List.set_cons_succ])
        refine tk 43 (v := ?_) hHeld ?_ ?_
        rotate_left 1
        · intro _ hw; (try dsimp only at hw); go_simp; try with_reducible rfl
        (try simp only [Act.put, List.setIfInBounds_toArray, List.set_cons_zero, List.set_cons_succ])
        refine tk 44 (v := ?_) hHeld ?_ ?_
        rotate_left 1
        · intro _ hw; (try dsimp only at hw); go_simp; try with_reducible rfl
        (try simp only [Act.put, List.setIfInBounds_toArray, List.set_cons_zero, List.set_cons_succ])
        refine tk 45 (v := ?_) hHeld ?_ ?_
        rotate_left 1
        · intro _ hw; (try dsimp only at hw); go_simp; try with_reducible rfl
        (try simp only [Act.put, List.setIfInBounds_toArray, List.set_cons_zero, List.set_cons_succ])
        refine tk 46 (v := ?_) hHeld ?_ ?_
        rotate_left 1
        · intro _ hw; (try dsimp only at hw); go_simp; try with_reducible rfl
        (try simp only [Act.put, List.setIfInBounds_toArray, List.set_cons_zero, List.set_cons_succ])
        refine tk 48 (v := ?_) hHeld ?_ ?_
        rotate_left 1
        · intro _ hw; (try dsimp only at hw); go_simp; try with_reducible rfl
        (try simp only [Act.put, List.setIfInBounds_toArray, List.set_cons_zero, List.set_cons_succ])
        refine wpAnyH_ready (rs := [42]) (by kernel_rfl) (by simp) ?_
        refine AllReadyH.cons (at_list rfl) (fun K hK => ?_) AllReadyH.nil
        go_simp
        go_at_call 14
        (with_reducible refine (Less_any _ _ _ _ _ _ _ _ _ (HF.out _ HC2.out).2.1 (HF.out _ HC2.out).2.2 (by omega) (by omega)).mono ?_)
        rintro e wq ⟨pz, nz, cz, rfl, hr, hCq⟩
        have HC3 := Lib.hid (HC2.out.step0 hCq (Nat.le_refl _))
        clear hCq HC2
        have HC2 := HC3
        clear HC3
        have hnz : nz ≤ 4000000 := by rw [← hr.len]; exact nf_len (dom_less (made xs) (made ys))
        have HRZ := Lib.hid hr
        have HHZ := Lib.hid (has_nf (dom_less (made xs) (made ys)) d (b := false) (by show (Spn.has (made xs) d && !Spn.has (made ys) d) = _; rw [HB1.out, HB2.out]; rfl))
        clear hr
        clear hHeld
        first | (refine hK.out _ _ ?_ (fun hHeld => ?_)) | (go_wp2_with fail; refine hK.out _ _ ?_ (fun hHeld => ?_))
        · (try dsimp only); exact (HF.out _ HC2.out).1
        clear hK K
        (try simp only [Act.put, List.setIfInBounds_toArray, List.set_cons_zero, List.set_cons_succ])
        refine wpAnyH_ready (rs := [47]) (by kernel_rfl) (by simp) ?_
        refine AllReadyH.cons (at_list rfl) (fun K hK => ?_) AllReadyH.nil
        go_simp
        go_at_call 10
        (with_reducible refine (Has_as HRZ.out (by omega) HHZ.out).mono ?_)
        rintro e wq ⟨rfl, hCq⟩
        have HC3 := Lib.hid (HC2.out.step0 hCq (Nat.le_refl _))
        clear hCq HC2
        have HC2 := HC3
        clear HC3
        clear HRZ HHZ hnz
        clear hHeld
        first | (refine hK.out _ _ ?_ (fun hHeld => ?_)) | (go_wp2_with fail; refine hK.out _ _ ?_ (fun hHeld => ?_))
        · (try dsimp only); exact (HF.out _ HC2.out).1
        clear hK K
        (try simp only [Act.put, List.setIfInBounds_toArray, List.set_cons_zero, List.set_cons_succ])
        refine tk 49 (v := ?_) hHeld ?_ ?_
        rotate_left 1
        · intro _ hw; (try dsimp only at hw); go_simp; try with_reducible rfl
        (try simp only [Act.put, List.setIfInBounds_toArray, List.set_cons_zero, List.set_cons_succ])
        refine tk 50 (v := ?_) hHeld ?_ ?_
        rotate_left 1
        · intro _ hw; (try dsimp only at hw); go_simp; try with_reducible rfl
        (try simp only [Act.put, List.setIfInBounds_toArray, List.set_cons_zero, List.set_cons_succ])
        refine tk 51 (v := ?_) hHeld ?_ ?_
        rotate_left 1
        · intro _ hw; (try dsimp only at hw); go_simp; try with_reducible rfl
        (try simp only [Act.put, List.setIfInBounds_toArray, List.set_cons_zero, List.set_cons_succ])
        refine tk 52 (v := ?_) hHeld ?_ ?_
        rotate_left 1
        · intro _ hw; (try dsimp only at hw); go_simp; try with_reducible rfl
        (try simp only [Act.put, List.setIfInBounds_toArray, List.set_cons_zero, List.set_cons_succ])
        refine tk 53 (v := ?_) hHeld ?_ ?_
        rotate_left 1
        · intro _ hw; (try dsimp only at hw); go_simp; try with_reducible rfl
        (try simp only [Act.put, List.setIfInBounds_toArray, List.set_cons_zero, List.set_cons_succ])
        refine tk 54 (v := ?_) hHeld ?_ ?_
        rotate_left 1
        · intro _ hw; (try dsimp only at hw); go_simp; try with_reducible rfl
        (try simp only [Act.put, List.setIfInBounds_toArray, List.set_cons_zero, List.set_cons_succ])
        refine wpAnyH_done (by kernel_rfl) ?_ _
        clear hHeld
        go_wp2_with fail
        go_roundw
        case rel => exact ⟨k + 1, by omega, by go_num, HC2.out⟩
        case measure => simp [intOf] <;> omega
    · obtain rfl : k = 3 := by omega
      clear hlt hk
      go_wp2_with fail
      go_ret
      exact ⟨rfl, HFIN.out _ HC2.out⟩
end Go.Proofs.YtnbcfolmadkliaaDoor
