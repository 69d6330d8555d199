/- SpanNormal: mathematics and the walk. -/
import Derived.Test.YtnbcfolmadkliaaDoorSz
namespace Go.Proofs.YtnbcfolmadkliaaDoor
open Go.RowKit Go.Shelf
theorem nrm_step {L : List Spn.Sp} (h : Spn.Nrm L) {j : Nat} {s t : Spn.Sp} (hs : L[j]? = some s) (ht : L[j + 1]? = some t) : s.2 < t.1 := by
  obtain ⟨h1, rfl⟩ := List.getElem?_eq_some_iff.1 hs
  obtain ⟨h2, rfl⟩ := List.getElem?_eq_some_iff.1 ht
  exact List.pairwise_iff_getElem.1 h.2 j (j + 1) h1 h2 (Nat.lt_succ_self j)
theorem Right_yes {x y : Int} (w : World) (h : Spn.rt (x, y) = true) : Calls Tryd.prog 15 #[SpV x y] w (Ya w (.bool true)) := by
  refine (Right_any x y w).mono ?_
  rintro e w' ⟨rfl, rfl⟩
  exact ⟨by rw [h], (Ch.refl _ _ w).alloc (Nat.le_refl _) _⟩
theorem Norm_nrm {L : List Spn.Sp} {p : Option Addr} {n c : Nat} {w : World} (h : Rd spc 2 w p n L) (hn : n ≤ 4000000) (hN : Spn.Nrm L) :
    Calls Tryd.prog 11 #[.slice p n c] w (Ys w L) := by
  have := Norm_any L p n c w h hn
  rwa [Spn.nf_has hN] at this
theorem Same_yes {l : List Spn.Sp} {p p' : Option Addr} {n n' c c' : Nat} {w : World} (h : Rd spc 2 w p n l) (h' : Rd spc 2 w p' n' l) (hn : n ≤ 4000000) :
    Calls Tryd.prog 16 #[.slice p n c, .slice p' n' c'] w (Ya w (.bool true)) := by
  refine (Same_eq l p p' n n' c c' w h h' (by omega)).mono ?_
  rintro e w' ⟨rfl, q, rfl⟩
  exact ⟨rfl, (Ch.refl _ _ w).drewN q⟩
set_option maxRecDepth 100000 in
set_option maxHeartbeats 8000000 in
theorem normal_core (xs ys : List (Int × Int)) (px py : Option Addr) (nx ny cx cy : Nat) (w : World) (hx : Ra w px nx xs) (hy : Ra w py ny ys) (hnx : nx ≤ 9223372036854775807) (hny : ny ≤ 9223372036854775807) (ht : LenIs w) :
    Calls Tryd.prog 4 #[.slice px nx cx, .slice py ny cy] w (Ya w (.bool true)) := by
  have HX := Lib.hid hx
  have HY := Lib.hid hy
  clear hx hy
  have HT := Lib.hid ht
  have HK := Lib.hid (Kr.nil w)
  clear ht
  go_enter Tryd.func4, Tryd.ntmps4
  go_wp2_with fail
  refine (sanity_any _ (len_ch HT.out HK.out.ch)).mono ?_
  rintro e w1 ⟨rfl, hC⟩
  have HK2 := Lib.hid (HK.out.on hC)
  clear hC HK
  have HK := HK2
  clear HK2
  go_wp2_with fail
  refine (Made_any xs _ _ _ _ (HX.out.ch HK.out.ch) hnx).mono ?_
  rintro e w2 ⟨p2, n2, c2, rfl, hr, hC⟩
  have HK2 := Lib.hid (HK.out.res hC hr)
  clear hC hr HK
  have HK := HK2
  clear HK2
  go_wp2_with fail
  have ha : n2 ≤ 8 := by have h1 := (show Rd spc 2 w2 (p2) n2 (made xs) from HK.out.rd (p2, n2, (made xs)) (.head _)).len; have h2 := made_len xs; omega
  refine (Made_any ys _ _ _ _ (HY.out.ch HK.out.ch) hny).mono ?_
  rintro e w3 ⟨p3, n3, c3, rfl, hr, hC⟩
  have HK2 := Lib.hid (HK.out.res hC hr)
  clear hC hr HK
  have HK := HK2
  clear HK2
  go_wp2_with fail
  have hb : n3 ≤ 8 := by have h1 := (show Rd spc 2 w3 (p3) n3 (made ys) from HK.out.rd (p3, n3, (made ys)) (.head _)).len; have h2 := made_len ys; omega
  refine (Norm_any _ _ _ _ _ (show Rd spc 2 w3 (p2) n2 (made xs) from HK.out.rd (p2, n2, (made xs)) (.tail _ (.head _))) (by omega)).mono ?_
  rintro e w4 ⟨p4, n4, c4, rfl, hr, hC⟩
  have HK2 := Lib.hid (HK.out.res hC hr)
  clear hC hr HK
  have HK := HK2
  clear HK2
  go_wp2_with fail
  refine (Union_any _ _ _ _ _ _ _ _ _ (show Rd spc 2 w4 (p2) n2 (made xs) from HK.out.rd (p2, n2, (made xs)) (.tail _ (.tail _ (.head _)))) (show Rd spc 2 w4 (p3) n3 (made ys) from HK.out.rd (p3, n3, (made ys)) (.tail _ (.head _))) (by omega) (by omega)).mono ?_
  rintro e w5 ⟨p5, n5, c5, rfl, hr, hC⟩
  have HK2 := Lib.hid (HK.out.res hC hr)
  clear hC hr HK
  have HK := HK2
  clear HK2
  go_wp2_with fail
  refine (Meet_any _ _ _ _ _ _ _ _ _ (show Rd spc 2 w5 (p2) n2 (made xs) from HK.out.rd (p2, n2, (made xs)) (.tail _ (.tail _ (.tail _ (.head _))))) (show Rd spc 2 w5 (p3) n3 (made ys) from HK.out.rd (p3, n3, (made ys)) (.tail _ (.tail _ (.head _)))) (by omega) (by omega)).mono ?_
  rintro e w6 ⟨p6, n6, c6, rfl, hr, hC⟩
  have HK2 := Lib.hid (HK.out.res hC hr)
  clear hC hr HK
  have HK := HK2
  clear HK2
  go_wp2_with fail
  refine (Less_any _ _ _ _ _ _ _ _ _ (show Rd spc 2 w6 (p2) n2 (made xs) from HK.out.rd (p2, n2, (made xs)) (.tail _ (.tail _ (.tail _ (.tail _ (.head _)))))) (show Rd spc 2 w6 (p3) n3 (made ys) from HK.out.rd (p3, n3, (made ys)) (.tail _ (.tail _ (.tail _ (.head _))))) (by omega) (by omega)).mono ?_
  rintro e w7 ⟨p7, n7, c7, rfl, hr, hC⟩
  have HK2 := Lib.hid (HK.out.res hC hr)
  clear hC hr HK
  have HK := HK2
  clear HK2
  go_wp2_with fail
  have HBK := Lib.hid (Blk.new w7 #[.slice p4 n4 c4, .slice p5 n5 c5, .slice p6 n6 c6, .slice p7 n7 c7] 24)
  have HCW := Lib.hid ((Ch.refl w7.heap.size none1 w7).alloc (Nat.le_refl _) (.cells #[.slice p4 n4 c4, .slice p5 n5 c5, .slice p6 n6 c6, .slice p7 n7 c7] 24))
  obtain ⟨V, hV⟩ : ∃ V, w7.alloc (.cells #[.slice p4 n4 c4, .slice p5 n5 c5, .slice p6 n6 c6, .slice p7 n7 c7] 24 (0, 0)) = V := ⟨_, rfl⟩
  rw [hV] at HBK HCW ⊢
  obtain ⟨g, hA⟩ : ∃ A, w7.heap.size = A := ⟨_, rfl⟩
  rw [hA] at HBK ⊢
  clear hV hA
  have HK2 := Lib.hid (HK.out.on HCW.out)
  have HI := Lib.hid (show ∀ i : Nat, i < 4 → ∃ (p : Option Addr) (n c : Nat) (L : List Spn.Sp), (∀ W', Ch V.heap.size none1 V W' → W'.cell? ⟨g, i, none⟩ = some (.slice p n c) ∧ Rd spc 2 W' p n L) ∧ Spn.Nrm L ∧ n ≤ 4000000 from by
    intro i hi
    rcases (show i = 0 ∨ i = 1 ∨ i = 2 ∨ i = 3 by omega) with rfl | rfl | rfl | rfl
    · exact ⟨p4, n4, c4, (Spn.nf (Spn.has (made xs))), fun W' hC => ⟨by rw [hC.cell (p := ⟨g, 0, none⟩) HBK.out.lt (fun q => q)]; exact HBK.out.cell 0, (show Rd spc 2 V (p4) n4 (Spn.nf (Spn.has (made xs))) from HK2.out.rd (p4, n4, (Spn.nf (Spn.has (made xs)))) (.tail _ (.tail _ (.tail _ (.head _))))).ch hC⟩, (Spn.nf_spec (Spn.dom_has (made xs))).1, by rw [← (show Rd spc 2 w7 (p4) n4 (Spn.nf (Spn.has (made xs))) from HK.out.rd (p4, n4, (Spn.nf (Spn.has (made xs)))) (.tail _ (.tail _ (.tail _ (.head _))))).len]; exact nf_len (Spn.dom_has (made xs))⟩
    · exact ⟨p5, n5, c5, (Spn.nf (dUnion (made xs) (made ys))), fun W' hC => ⟨by rw [hC.cell (p := ⟨g, 1, none⟩) HBK.out.lt (fun q => q)]; exact HBK.out.cell 1, (show Rd spc 2 V (p5) n5 (Spn.nf (dUnion (made xs) (made ys))) from HK2.out.rd (p5, n5, (Spn.nf (dUnion (made xs) (made ys)))) (.tail _ (.tail _ (.head _)))).ch hC⟩, (Spn.nf_spec (dom_union (made xs) (made ys))).1, by rw [← (show Rd spc 2 w7 (p5) n5 (Spn.nf (dUnion (made xs) (made ys))) from HK.out.rd (p5, n5, (Spn.nf (dUnion (made xs) (made ys)))) (.tail _ (.tail _ (.head _)))).len]; exact nf_len (dom_union (made xs) (made ys))⟩
    · exact ⟨p6, n6, c6, (Spn.nf (dMeet (made xs) (made ys))), fun W' hC => ⟨by rw [hC.cell (p := ⟨g, 2, none⟩) HBK.out.lt (fun q => q)]; exact HBK.out.cell 2, (show Rd spc 2 V (p6) n6 (Spn.nf (dMeet (made xs) (made ys))) from HK2.out.rd (p6, n6, (Spn.nf (dMeet (made xs) (made ys)))) (.tail _ (.head _))).ch hC⟩, (Spn.nf_spec (dom_meet (made xs) (made ys))).1, by rw [← (show Rd spc 2 w7 (p6) n6 (Spn.nf (dMeet (made xs) (made ys))) from HK.out.rd (p6, n6, (Spn.nf (dMeet (made xs) (made ys)))) (.tail _ (.head _))).len]; exact nf_len (dom_meet (made xs) (made ys))⟩
    · exact ⟨p7, n7, c7, (Spn.nf (dLess (made xs) (made ys))), fun W' hC => ⟨by rw [hC.cell (p := ⟨g, 3, none⟩) HBK.out.lt (fun q => q)]; exact HBK.out.cell 3, (show Rd spc 2 V (p7) n7 (Spn.nf (dLess (made xs) (made ys))) from HK2.out.rd (p7, n7, (Spn.nf (dLess (made xs) (made ys)))) (.head _)).ch hC⟩, (Spn.nf_spec (dom_less (made xs) (made ys))).1, by rw [← (show Rd spc 2 w7 (p7) n7 (Spn.nf (dLess (made xs) (made ys))) from HK.out.rd (p7, n7, (Spn.nf (dLess (made xs) (made ys)))) (.head _)).len]; exact nf_len (dom_less (made xs) (made ys))⟩)
  have HFIN := Lib.hid (show ∀ W', Ch V.heap.size none1 V W' → Ch w.heap.size none1 w W' from fun W' hC => (HK2.out.on hC).ch)
  clear HK HK2 HBK HCW
  go_loopw [9] (fun i wr => ∃ k : Nat, k ≤ 4 ∧ i = .int .i64 k ∧ Ch V.heap.size none1 V wr) (fun i _ => 4 - (intOf i).toNat)
  case atStart => exact ⟨0, Nat.zero_le _, rfl, Ch.refl _ _ _⟩
  case round =>
    obtain ⟨k, hk, rfl, hC⟩ := hrel
    have HC := Lib.hid hC
    clear hC
    by_cases hlt : k < 4
    · obtain ⟨p, n, c, L, hF, hN, hn⟩ := HI.out k hlt
      have HF := Lib.hid hF
      have HN := Lib.hid hN
      clear hF hN
      have hdk : decide ((k : Int) < 4) = true := decide_eq_true (by omega)
      go_wp2_with fail
      go_loopw [10] (fun i wi => ∃ j : Nat, j ≤ n ∧ i = .int .i64 j ∧ Ch V.heap.size none1 V wi) (fun i _ => n - (intOf i).toNat)
      case atStart => exact ⟨0, Nat.zero_le _, rfl, HC.out⟩
      case round =>
        obtain ⟨j, hj, rfl, hC2⟩ := hrel
        have HC2 := Lib.hid hC2
        clear hC2 HC
        have hki : 0 ≤ (k : Int) ∧ (k : Int) < 4 := by omega
        by_cases hlt2 : j < n
        · have hji : 0 ≤ (j : Int) ∧ (j : Int) < (n : Int) := by omega
          obtain ⟨g2, o2, rfl, hg⟩ := (HF.out _ HC2.out).2.addr (by omega)
          have hlen := (HF.out _ HC2.out).2.len
          obtain ⟨⟨x, y⟩, ht⟩ : ∃ t, L[j]? = some t := ⟨L[j]'(by rw [hlen]; exact hlt2), List.getElem?_eq_getElem _⟩
          have HR := Lib.hid (HN.out.1 _ (List.mem_of_getElem? ht))
          obtain ⟨cs, _⟩ := HF.out _ HC2.out
          by_cases hj0 : j = 0
          · subst hj0
            have HFX := Lib.hid (show ∀ W', Ch V.heap.size none1 V W' → W'.cell? ⟨g, k, none⟩ = some (.slice (some ⟨g2, o2, none⟩) n c) ∧ W'.cell? ⟨g2, o2, none⟩ = some (iz x) ∧ W'.cell? ⟨g2, o2 + 1, none⟩ = some (iz y) from fun W' hC => ⟨(HF.out W' hC).1, by have := (HF.out W' hC).2.sp ht; simpa using this⟩)
            clear ht
            go_wp2_with fail
            clear cs
            have HCD := Lib.hid HC2.out.drew
            clear HC2
            have HC2 := HCD
            clear HCD
            refine wp_region_held_drew (S := fun w' => w'.cell? ⟨g, k, none⟩ = some (.slice (some ⟨g2, o2, none⟩) n c) ∧ w'.cell? ⟨g2, o2, none⟩ = some (iz x) ∧ w'.cell? ⟨g2, o2 + 1, none⟩ = some (iz y)) (by kernel_rfl) ?_ (fun hHeld => ?_)
            · (try dsimp only); exact HFX.out _ HC2.out
            refine tk 0 (v := ?_) hHeld ?_ ?_
            rotate_left 1
            · intro _ hw; (try dsimp only at hw); go_simp; try with_reducible rfl
            (try simp only [Act.put, List.setIfInBounds_toArray, List.set_cons_zero, List.set_cons_succ])
            refine tk 1 (v := ?_) hHeld ?_ ?_
            rotate_left 1
            · intro _ hw; (try dsimp only at hw); go_simp; try with_reducible rfl
            (try simp only [Act.put, List.setIfInBounds_toArray, List.set_cons_zero, List.set_cons_succ])
            refine tk 2 (v := ?_) hHeld ?_ ?_
            rotate_left 1
            · intro _ hw; (try dsimp only at hw); go_simp; try with_reducible rfl
            (try simp only [Act.put, List.setIfInBounds_toArray, List.set_cons_zero, List.set_cons_succ])
            refine tk 3 (v := ?_) hHeld ?_ ?_
            rotate_left 1
            · intro _ hw; (try dsimp only at hw); go_simp; try with_reducible rfl
            (try simp only [Act.put, List.setIfInBounds_toArray, List.set_cons_zero, List.set_cons_succ])
            refine tk 4 (v := ?_) hHeld ?_ ?_
            rotate_left 1
            · intro _ hw; (try dsimp only at hw); go_simp; try with_reducible rfl
            (try simp only [Act.put, List.setIfInBounds_toArray, List.set_cons_zero, List.set_cons_succ])
            refine tk 5 (v := ?_) hHeld ?_ ?_
            rotate_left 1
            · intro _ hw; (try dsimp only at hw); go_simp; try with_reducible rfl
            (try simp only [Act.put, List.setIfInBounds_toArray, List.set_cons_zero, List.set_cons_succ])
            refine tk 6 (v := ?_) hHeld ?_ ?_
            rotate_left 1
            · intro _ hw; (try dsimp only at hw); go_simp; try with_reducible rfl
            (try simp only [Act.put, List.setIfInBounds_toArray, List.set_cons_zero, List.set_cons_succ])
            refine wpAnyH_ready (rs := [7]) (by kernel_rfl) (by simp) ?_
            refine AllReadyH.cons (at_list rfl) (fun K hK => ?_) AllReadyH.nil
            go_simp
            go_at_call 15
            (with_reducible refine (Right_yes _ HR.out).mono ?_)
            rintro e wq ⟨rfl, hCq⟩
            have HC3 := Lib.hid (HC2.out.step0 hCq (Nat.le_refl _))
            clear hCq HC2
            have HC2 := HC3
            clear HC3
            clear hHeld
            first | (refine hK.out _ _ ?_ (fun hHeld => ?_)) | (go_wp2_with fail; refine hK.out _ _ ?_ (fun hHeld => ?_))
            · (try dsimp only); exact HFX.out _ HC2.out
            clear hK K
            (try simp only [Act.put, List.setIfInBounds_toArray, List.set_cons_zero, List.set_cons_succ])
            refine tk 8 (v := ?_) hHeld ?_ ?_
            rotate_left 1
            · intro _ hw; (try dsimp only at hw); go_simp; try with_reducible rfl
            (try simp only [Act.put, List.setIfInBounds_toArray, List.set_cons_zero, List.set_cons_succ])
            refine tk 9 (v := ?_) hHeld ?_ ?_
            rotate_left 1
            · intro _ hw; (try dsimp only at hw); go_simp; try with_reducible rfl
            (try simp only [Act.put, List.setIfInBounds_toArray, List.set_cons_zero, List.set_cons_succ])
            refine tk 10 (v := ?_) hHeld ?_ ?_
            rotate_left 1
            · intro _ hw; (try dsimp only at hw); go_simp; try with_reducible rfl
            (try simp only [Act.put, List.setIfInBounds_toArray, List.set_cons_zero, List.set_cons_succ])
            refine tk 11 (v := ?_) hHeld ?_ ?_
            rotate_left 1
            · intro _ hw; (try dsimp only at hw); go_simp; try with_reducible rfl
            (try simp only [Act.put, List.setIfInBounds_toArray, List.set_cons_zero, List.set_cons_succ])
            refine tk 12 (v := ?_) hHeld ?_ ?_
            rotate_left 1
            · intro _ hw; (try dsimp only at hw); go_simp; try with_reducible rfl
            (try simp only [Act.put, List.setIfInBounds_toArray, List.set_cons_zero, List.set_cons_succ])
            refine sk 13 hHeld ?_
            (try simp only [Act.put, List.setIfInBounds_toArray, List.set_cons_zero, List.set_cons_succ])
            refine sk 14 hHeld ?_
            (try simp only [Act.put, List.setIfInBounds_toArray, List.set_cons_zero, List.set_cons_succ])
            refine sk 15 hHeld ?_
            (try simp only [Act.put, List.setIfInBounds_toArray, List.set_cons_zero, List.set_cons_succ])
            refine sk 16 hHeld ?_
            (try simp only [Act.put, List.setIfInBounds_toArray, List.set_cons_zero, List.set_cons_succ])
            refine sk 17 hHeld ?_
            (try simp only [Act.put, List.setIfInBounds_toArray, List.set_cons_zero, List.set_cons_succ])
            refine sk 18 hHeld ?_
            (try simp only [Act.put, List.setIfInBounds_toArray, List.set_cons_zero, List.set_cons_succ])
            refine sk 19 hHeld ?_
            (try simp only [Act.put, List.setIfInBounds_toArray, List.set_cons_zero, List.set_cons_succ])
            refine sk 20 hHeld ?_
            (try simp only [Act.put, List.setIfInBounds_toArray, List.set_cons_zero, List.set_cons_succ])
            refine sk 21 hHeld ?_
            (try simp only [Act.put, List.setIfInBounds_toArray, List.set_cons_zero, List.set_cons_succ])
            refine sk 22 hHeld ?_
            (try simp only [Act.put, List.setIfInBounds_toArray, List.set_cons_zero, List.set_cons_succ])
            refine sk 23 hHeld ?_
            (try simp only [Act.put, List.setIfInBounds_toArray, List.set_cons_zero, List.set_cons_succ])
            refine sk 24 hHeld ?_
            (try simp only [Act.put, List.setIfInBounds_toArray, List.set_cons_zero, List.set_cons_succ])
            refine sk 25 hHeld ?_
            (try simp only [Act.put, List.setIfInBounds_toArray, List.set_cons_zero, List.set_cons_succ])
            refine sk 26 hHeld ?_
            (try simp only [Act.put, List.setIfInBounds_toArray, List.set_cons_zero, List.set_cons_succ])
            refine sk 27 hHeld ?_
            (try simp only [Act.put, List.setIfInBounds_toArray, List.set_cons_zero, List.set_cons_succ])
            refine sk 28 hHeld ?_
            (try simp only [Act.put, List.setIfInBounds_toArray, List.set_cons_zero, List.set_cons_succ])
            refine sk 29 hHeld ?_
            (try simp only [Act.put, List.setIfInBounds_toArray, List.set_cons_zero, List.set_cons_succ])
            refine sk 30 hHeld ?_
            (try simp only [Act.put, List.setIfInBounds_toArray, List.set_cons_zero, List.set_cons_succ])
            refine tk 31 (v := ?_) hHeld ?_ ?_
            rotate_left 1
            · intro _ hw; (try dsimp only at hw); go_simp; try with_reducible rfl
            (try simp only [Act.put, List.setIfInBounds_toArray, List.set_cons_zero, List.set_cons_succ])
            refine tk 32 (v := ?_) hHeld ?_ ?_
            rotate_left 1
            · intro _ hw; (try dsimp only at hw); go_simp; try with_reducible rfl
            (try simp only [Act.put, List.setIfInBounds_toArray, List.set_cons_zero, List.set_cons_succ])
            refine wpAnyH_done (by kernel_rfl) ?_ _
            clear hHeld
            go_wp2_with fail
            go_roundw
            case rel => first | exact ⟨0 + 1, by omega, by go_num, HC2.out⟩ | ((repeat apply Exists.intro); exact ⟨⟨0 + 1, by omega, by go_num, HC2.out⟩, rfl⟩)
            case measure => simp [intOf] <;> omega
          
          · obtain ⟨i, hi⟩ : ∃ i, j = i + 1 := ⟨j - 1, by omega⟩
            obtain ⟨⟨x0, y0⟩, ht0⟩ : ∃ t, L[i]? = some t := ⟨L[i]'(by rw [hlen]; omega), List.getElem?_eq_getElem _⟩
            have hord := nrm_step HN.out ht0 (by rw [← hi]; exact ht)
            simp only at hord
            have HFX := Lib.hid (show ∀ W', Ch V.heap.size none1 V W' → W'.cell? ⟨g, k, none⟩ = some (.slice (some ⟨g2, o2, none⟩) n c) ∧ W'.cell? ⟨g2, o2 + j * 2, none⟩ = some (iz x) ∧ W'.cell? ⟨g2, o2 + j * 2 + 1, none⟩ = some (iz y) ∧ W'.cell? ⟨g2, o2 + i * 2 + 1, none⟩ = some (iz y0) from fun W' hC => ⟨(HF.out W' hC).1, ((HF.out W' hC).2.sp ht).1, ((HF.out W' hC).2.sp ht).2, ((HF.out W' hC).2.sp ht0).2⟩)
            have hj2 : (j : Int) - 1 = (i : Int) := by omega
            have hj3 : 0 ≤ (i : Int) ∧ (i : Int) < (n : Int) := by omega
            have hj4 : (0 : Int) < (j : Int) := by omega
            have hj5 : decide ((0 : Int) < (j : Int)) = true := decide_eq_true hj4
            have hj6 : 0 < j := by omega
            have hwi : IntKind.i64.wrap (i : Int) = (i : Int) := IntWalk.i64_in _ (by omega)
            clear hj0 hi
            clear ht ht0
            go_wp2_with fail
            clear cs
            have HCD := Lib.hid HC2.out.drew
            clear HC2
            have HC2 := HCD
            clear HCD
            refine wp_region_held_drew (S := fun w' => w'.cell? ⟨g, k, none⟩ = some (.slice (some ⟨g2, o2, none⟩) n c) ∧ w'.cell? ⟨g2, o2 + j * 2, none⟩ = some (iz x) ∧ w'.cell? ⟨g2, o2 + j * 2 + 1, none⟩ = some (iz y) ∧ w'.cell? ⟨g2, o2 + i * 2 + 1, none⟩ = some (iz y0)) (by kernel_rfl) ?_ (fun hHeld => ?_)
            · (try dsimp only); exact HFX.out _ HC2.out
            refine tk 0 (v := ?_) hHeld ?_ ?_
            rotate_left 1
            · intro _ hw; (try dsimp only at hw); go_simp; try with_reducible rfl
            (try simp only [Act.put, List.setIfInBounds_toArray, List.set_cons_zero, List.set_cons_succ])
            refine tk 1 (v := ?_) hHeld ?_ ?_
            rotate_left 1
            · intro _ hw; (try dsimp only at hw); go_simp; try with_reducible rfl
            (try simp only [Act.put, List.setIfInBounds_toArray, List.set_cons_zero, List.set_cons_succ])
            refine tk 2 (v := ?_) hHeld ?_ ?_
            rotate_left 1
            · intro _ hw; (try dsimp only at hw); go_simp; try with_reducible rfl
            (try simp only [Act.put, List.setIfInBounds_toArray, List.set_cons_zero, List.set_cons_succ])
            refine tk 3 (v := ?_) hHeld ?_ ?_
            rotate_left 1
            · intro _ hw; (try dsimp only at hw); go_simp; try with_reducible rfl
            (try simp only [Act.put, List.setIfInBounds_toArray, List.set_cons_zero, List.set_cons_succ])
            refine tk 4 (v := ?_) hHeld ?_ ?_
            rotate_left 1
            · intro _ hw; (try dsimp only at hw); go_simp; try with_reducible rfl
            (try simp only [Act.put, List.setIfInBounds_toArray, List.set_cons_zero, List.set_cons_succ])
            refine tk 5 (v := ?_) hHeld ?_ ?_
            rotate_left 1
            · intro _ hw; (try dsimp only at hw); go_simp; try with_reducible rfl
            (try simp only [Act.put, List.setIfInBounds_toArray, List.set_cons_zero, List.set_cons_succ])
            refine tk 6 (v := ?_) hHeld ?_ ?_
            rotate_left 1
            · intro _ hw; (try dsimp only at hw); go_simp; try with_reducible rfl
            (try simp only [Act.put, List.setIfInBounds_toArray, List.set_cons_zero, List.set_cons_succ])
            refine wpAnyH_ready (rs := [7]) (by kernel_rfl) (by simp) ?_
            refine AllReadyH.cons (at_list rfl) (fun K hK => ?_) AllReadyH.nil
            go_simp
            go_at_call 15
            (with_reducible refine (Right_yes _ HR.out).mono ?_)
            rintro e wq ⟨rfl, hCq⟩
            have HC3 := Lib.hid (HC2.out.step0 hCq (Nat.le_refl _))
            clear hCq HC2
            have HC2 := HC3
            clear HC3
            clear hHeld
            first | (refine hK.out _ _ ?_ (fun hHeld => ?_)) | (go_wp2_with fail; refine hK.out _ _ ?_ (fun hHeld => ?_))
            · (try dsimp only); exact HFX.out _ HC2.out
            clear hK K
            (try simp only [Act.put, List.setIfInBounds_toArray, List.set_cons_zero, List.set_cons_succ])
            refine tk 8 (v := ?_) hHeld ?_ ?_
            rotate_left 1
            · intro _ hw; (try dsimp only at hw); go_simp; try with_reducible rfl
            (try simp only [Act.put, List.setIfInBounds_toArray, List.set_cons_zero, List.set_cons_succ])
            refine tk 9 (v := ?_) hHeld ?_ ?_
            rotate_left 1
            · intro _ hw; (try dsimp only at hw); go_simp; try with_reducible rfl
            (try simp only [Act.put, List.setIfInBounds_toArray, List.set_cons_zero, List.set_cons_succ])
            refine tk 10 (v := ?_) hHeld ?_ ?_
            rotate_left 1
            · intro _ hw; (try dsimp only at hw); go_simp; try with_reducible rfl
            (try simp only [Act.put, List.setIfInBounds_toArray, List.set_cons_zero, List.set_cons_succ])
            refine tk 11 (v := ?_) hHeld ?_ ?_
            rotate_left 1
            · intro _ hw; (try dsimp only at hw); go_simp; try with_reducible rfl
            (try simp only [Act.put, List.setIfInBounds_toArray, List.set_cons_zero, List.set_cons_succ])
            refine tk 12 (v := ?_) hHeld ?_ ?_
            rotate_left 1
            · intro _ hw; (try dsimp only at hw); go_simp; try with_reducible rfl
            (try simp only [Act.put, List.setIfInBounds_toArray, List.set_cons_zero, List.set_cons_succ])
            refine tk 13 (v := ?_) hHeld ?_ ?_
            rotate_left 1
            · intro _ hw; (try dsimp only at hw); go_simp; try with_reducible rfl
            (try simp only [Act.put, List.setIfInBounds_toArray, List.set_cons_zero, List.set_cons_succ])
            refine tk 14 (v := ?_) hHeld ?_ ?_
            rotate_left 1
            · intro _ hw; (try dsimp only at hw); go_simp; try with_reducible rfl
            (try simp only [Act.put, List.setIfInBounds_toArray, List.set_cons_zero, List.set_cons_succ])
            refine tk 15 (v := ?_) hHeld ?_ ?_
            rotate_left 1
            · intro _ hw; (try dsimp only at hw); go_simp; try with_reducible rfl
            (try simp only [Act.put, List.setIfInBounds_toArray, List.set_cons_zero, List.set_cons_succ])
            refine tk 16 (v := ?_) hHeld ?_ ?_
            rotate_left 1
            · intro _ hw; (try dsimp only at hw); go_simp; try with_reducible rfl
            (try simp only [Act.put, List.setIfInBounds_toArray, List.set_cons_zero, List.set_cons_succ])
            refine tk 17 (v := ?_) hHeld ?_ ?_
            rotate_left 1
            · intro _ hw; (try dsimp only at hw); go_simp; try with_reducible rfl
            (try simp only [Act.put, List.setIfInBounds_toArray, List.set_cons_zero, List.set_cons_succ])
            refine tk 18 (v := ?_) hHeld ?_ ?_
            rotate_left 1
            · intro _ hw; (try dsimp only at hw); go_simp; try with_reducible rfl
            (try simp only [Act.put, List.setIfInBounds_toArray, List.set_cons_zero, List.set_cons_succ])
            refine tk 19 (v := ?_) hHeld ?_ ?_
            rotate_left 1
            · intro _ hw; (try dsimp only at hw); go_simp; try with_reducible rfl
            (try simp only [Act.put, List.setIfInBounds_toArray, List.set_cons_zero, List.set_cons_succ])
            refine tk 20 (v := ?_) hHeld ?_ ?_
            rotate_left 1
            · intro _ hw; (try dsimp only at hw); go_simp; try with_reducible rfl
            (try simp only [Act.put, List.setIfInBounds_toArray, List.set_cons_zero, List.set_cons_succ])
            refine tk 21 (v := ?_) hHeld ?_ ?_
            rotate_left 1
            · intro _ hw; (try dsimp only at hw); go_simp; try with_reducible rfl
            (try simp only [Act.put, List.setIfInBounds_toArray, List.set_cons_zero, List.set_cons_succ])
            refine tk 22 (v := ?_) hHeld ?_ ?_
            rotate_left 1
            · intro _ hw; (try dsimp only at hw); go_simp; try with_reducible rfl
            (try simp only [Act.put, List.setIfInBounds_toArray, List.set_cons_zero, List.set_cons_succ])
            refine tk 23 (v := ?_) hHeld ?_ ?_
            rotate_left 1
            · intro _ hw; (try dsimp only at hw); go_simp; try with_reducible rfl
            (try simp only [Act.put, List.setIfInBounds_toArray, List.set_cons_zero, List.set_cons_succ])
            refine tk 24 (v := ?_) hHeld ?_ ?_
            rotate_left 1
            · intro _ hw; (try dsimp only at hw); go_simp; try with_reducible rfl
            (try simp only [Act.put, List.setIfInBounds_toArray, List.set_cons_zero, List.set_cons_succ])
            refine tk 25 (v := ?_) hHeld ?_ ?_
            rotate_left 1
            · intro _ hw; (try dsimp only at hw); go_simp; try with_reducible rfl
            (try simp only [Act.put, List.setIfInBounds_toArray, List.set_cons_zero, List.set_cons_succ])
            refine tk 26 (v := ?_) hHeld ?_ ?_
            rotate_left 1
            · intro _ hw; (try dsimp only at hw); go_simp; try with_reducible rfl
            (try simp only [Act.put, List.setIfInBounds_toArray, List.set_cons_zero, List.set_cons_succ])
            refine tk 27 (v := ?_) hHeld ?_ ?_
            rotate_left 1
            · intro _ hw; (try dsimp only at hw); go_simp; try with_reducible rfl
            (try simp only [Act.put, List.setIfInBounds_toArray, List.set_cons_zero, List.set_cons_succ])
            refine tk 28 (v := ?_) hHeld ?_ ?_
            rotate_left 1
            · intro _ hw; (try dsimp only at hw); go_simp; try with_reducible rfl
            (try simp only [Act.put, List.setIfInBounds_toArray, List.set_cons_zero, List.set_cons_succ])
            refine tk 29 (v := ?_) hHeld ?_ ?_
            rotate_left 1
            · intro _ hw; (try dsimp only at hw); go_simp; try with_reducible rfl
            (try simp only [Act.put, List.setIfInBounds_toArray, List.set_cons_zero, List.set_cons_succ])
            refine tk 30 (v := ?_) hHeld ?_ ?_
            rotate_left 1
            · intro _ hw; (try dsimp only at hw); go_simp; try with_reducible rfl
            (try simp only [Act.put, List.setIfInBounds_toArray, List.set_cons_zero, List.set_cons_succ])
            refine tk 31 (v := ?_) hHeld ?_ ?_
            rotate_left 1
            · intro _ hw; (try dsimp only at hw); go_simp; try with_reducible rfl
            (try simp only [Act.put, List.setIfInBounds_toArray, List.set_cons_zero, List.set_cons_succ])
            refine tk 32 (v := ?_) hHeld ?_ ?_
            rotate_left 1
            · intro _ hw; (try dsimp only at hw); go_simp; try with_reducible rfl
            (try simp only [Act.put, List.setIfInBounds_toArray, List.set_cons_zero, List.set_cons_succ])
            refine wpAnyH_done (by kernel_rfl) ?_ _
            clear hHeld
            go_wp2_with fail
            go_roundw
            case rel => first | exact ⟨j + 1, by omega, by go_num, HC2.out⟩ | ((repeat apply Exists.intro); exact ⟨⟨j + 1, by omega, by go_num, HC2.out⟩, rfl⟩)
            case measure => simp [intOf] <;> omega
        · obtain rfl : j = n := by omega
          obtain ⟨cs, _⟩ := HF.out _ HC2.out
          go_wp2_with fail
          clear cs
          have HCD := Lib.hid HC2.out.drew
          clear HC2
          have HC2 := HCD
          clear HCD
          refine wp_region_held_drew (S := fun w' => w'.cell? ⟨g, k, none⟩ = some (.slice p j c)) (by kernel_rfl) ?_ (fun hHeld => ?_)
          · (try dsimp only); exact (HF.out _ HC2.out).1
          refine tk 0 (v := ?_) hHeld ?_ ?_
          rotate_left 1
          · intro _ hw; (try dsimp only at hw); go_simp; try with_reducible rfl
          (try simp only [Act.put, List.setIfInBounds_toArray, List.set_cons_zero, List.set_cons_succ])
          refine tk 1 (v := ?_) hHeld ?_ ?_
          rotate_left 1
          · intro _ hw; (try dsimp only at hw); go_simp; try with_reducible rfl
          (try simp only [Act.put, List.setIfInBounds_toArray, List.set_cons_zero, List.set_cons_succ])
          refine tk 2 (v := ?_) hHeld ?_ ?_
          rotate_left 1
          · intro _ hw; (try dsimp only at hw); go_simp; try with_reducible rfl
          (try simp only [Act.put, List.setIfInBounds_toArray, List.set_cons_zero, List.set_cons_succ])
          refine tk 3 (v := ?_) hHeld ?_ ?_
          rotate_left 1
          · intro _ hw; (try dsimp only at hw); go_simp; try with_reducible rfl
          (try simp only [Act.put, List.setIfInBounds_toArray, List.set_cons_zero, List.set_cons_succ])
          refine tk 5 (v := ?_) hHeld ?_ ?_
          rotate_left 1
          · intro _ hw; (try dsimp only at hw); go_simp; try with_reducible rfl
          (try simp only [Act.put, List.setIfInBounds_toArray, List.set_cons_zero, List.set_cons_succ])
          refine tk 6 (v := ?_) hHeld ?_ ?_
          rotate_left 1
          · intro _ hw; (try dsimp only at hw); go_simp; try with_reducible rfl
          (try simp only [Act.put, List.setIfInBounds_toArray, List.set_cons_zero, List.set_cons_succ])
          refine tk 7 (v := ?_) hHeld ?_ ?_
          rotate_left 1
          · intro _ hw; (try dsimp only at hw); go_simp; try with_reducible rfl
          (try simp only [Act.put, List.setIfInBounds_toArray, List.set_cons_zero, List.set_cons_succ])
          refine tk 8 (v := ?_) hHeld ?_ ?_
          rotate_left 1
          · intro _ hw; (try dsimp only at hw); go_simp; try with_reducible rfl
          (try simp only [Act.put, List.setIfInBounds_toArray, List.set_cons_zero, List.set_cons_succ])
          refine wpAnyH_ready (rs := [4]) (by kernel_rfl) (by simp) ?_
          refine AllReadyH.cons (at_list rfl) (fun K hK => ?_) AllReadyH.nil
          go_simp
          go_at_call 11
          (with_reducible refine (Norm_nrm (HF.out _ HC2.out).2 hn HN.out).mono ?_)
          rintro e wq ⟨pz, nz, cz, rfl, hr, hCq⟩
          have HC3 := Lib.hid (HC2.out.step0 hCq (Nat.le_refl _))
          have HRZ := Lib.hid hr
          have hnz : nz ≤ 4000000 := by rw [← hr.len, (HF.out _ HC2.out).2.len]; exact hn
          clear hCq hr HC2
          have HC2 := HC3
          clear HC3
          clear hHeld
          first | (refine hK.out _ _ ?_ (fun hHeld => ?_)) | (go_wp2_with fail; refine hK.out _ _ ?_ (fun hHeld => ?_))
          · (try dsimp only); exact (HF.out _ HC2.out).1
          clear hK K
          (try simp only [Act.put, List.setIfInBounds_toArray, List.set_cons_zero, List.set_cons_succ])
          refine wpAnyH_ready (rs := [9]) (by kernel_rfl) (by simp) ?_
          refine AllReadyH.cons (at_list rfl) (fun K hK => ?_) AllReadyH.nil
          go_simp
          go_at_call 16
          (with_reducible refine (Same_yes HRZ.out (HF.out _ HC2.out).2 hnz).mono ?_)
          rintro e wq ⟨rfl, hCq⟩
          have HC3 := Lib.hid (HC2.out.step0 hCq (Nat.le_refl _))
          clear hCq HC2
          have HC2 := HC3
          clear HC3
          clear hHeld
          first | (refine hK.out _ _ ?_ (fun hHeld => ?_)) | (go_wp2_with fail; refine hK.out _ _ ?_ (fun hHeld => ?_))
          · (try dsimp only); exact (HF.out _ HC2.out).1
          clear hK K
          (try simp only [Act.put, List.setIfInBounds_toArray, List.set_cons_zero, List.set_cons_succ])
          refine tk 10 (v := ?_) hHeld ?_ ?_
          rotate_left 1
          · intro _ hw; (try dsimp only at hw); go_simp; try with_reducible rfl
          (try simp only [Act.put, List.setIfInBounds_toArray, List.set_cons_zero, List.set_cons_succ])
          refine wpAnyH_done (by kernel_rfl) ?_ _
          clear hHeld
          go_wp2_with fail
          go_roundw
          case rel => first | exact ⟨k + 1, by omega, by go_num, HC2.out⟩ | ((repeat apply Exists.intro); exact ⟨⟨k + 1, by omega, by go_num, HC2.out⟩, rfl⟩)
          case measure => simp [intOf] <;> omega
    · obtain rfl : k = 4 := by omega
      clear hlt hk
      go_wp2_with fail
      go_ret
      exact ⟨rfl, HFIN.out _ HC.out⟩
end Go.Proofs.YtnbcfolmadkliaaDoor
