/- NatGcds: the walks. -/
import Derived.Test.YtcghnkdfhiancaaDoorGf
import Derived.Test.YtcghnkdfhiancaaDoorTf
namespace Go.Proofs.YtcghnkdfhiancaaDoor
open Go.RowKit
theorem BS.cut {w : World} {p : Option Addr} {n cap : Nat} {l : List UInt8} (h : BS w (.slice p n cap) l) (k m : Nat) (hm : m = min n k) : BS w (.slice p m cap) (l.take k) := by
  obtain ⟨p', cap', hv, h1, h2, h3, h4⟩ := h
  simp only [Value.slice.injEq] at hv
  obtain ⟨rfl, rfl, rfl⟩ := hv
  have hl : (l.take k).length = m := by rw [List.length_take, hm, Nat.min_comm]
  refine ⟨p, cap, by rw [hl], by rw [hl]; omega, h2, h3, fun h0 => ?_⟩
  obtain ⟨g, off, hp, hc⟩ := h4 (by omega)
  refine ⟨g, off, hp, fun i hi => ?_⟩
  rw [hc i (by omega)]
  simp
theorem made_cut {w : World} {p : Option Addr} {n cap : Nat} {l : List UInt8} (h : BS w (.slice p n cap) l) : ∃ a : List UInt8, a.length ≤ 20 ∧ ∀ w', Ch w.heap.size none1 w w' → Calls Tryd.prog 12 #[.slice p (min (n : Int) 20).toNat cap] w' (Yld w' (S a)) := by
  have h1 := h.cut 20 (min (n : Int) 20).toNat (by omega)
  refine ⟨(l.take 20).take 40, by rw [List.length_take, List.length_take]; omega, fun w' hC => made_any _ _ w' (h1.ch hC)⟩
set_option maxRecDepth 100000 in
set_option maxHeartbeats 3200000 in
theorem gcds_sss (xa : Addr) (na ca : Nat) (h1a : na ≤ ca) (h2a : ca ≤ 9223372036854775807) (xb : Addr) (nb cb : Nat) (h1b : nb ≤ cb) (h2b : cb ≤ 9223372036854775807) (xc : Addr) (nc cc : Nat) (h1c : nc ≤ cc) (h2c : cc ≤ 9223372036854775807) (a b c : List UInt8) (w : World) (ka : a.length ≤ 20) (kb : b.length ≤ 20) (kc : c.length ≤ 20) (ht : pow10Is w)
    (hma : ∀ w', Ch w.heap.size none1 w w' → Calls Tryd.prog 12 #[.slice (some xa) (min (na : Int) 20).toNat ca] w' (Yld w' (S a)))
    (hmb : ∀ w', Ch w.heap.size none1 w w' → Calls Tryd.prog 12 #[.slice (some xb) (min (nb : Int) 20).toNat cb] w' (Yld w' (S b)))
    (hmc : ∀ w', Ch w.heap.size none1 w w' → Calls Tryd.prog 12 #[.slice (some xc) (min (nc : Int) 20).toNat cc] w' (Yld w' (S c))) :
    Calls Tryd.prog 5 #[.slice (some xa) na ca, .slice (some xb) nb cb, .slice (some xc) nc cc] w (Yld w (.bool true)) := by
  obtain ⟨g, eg, vg⟩ := has_nb (Nat.gcd (bv a) (bv b))
  obtain ⟨ac, eac, vac⟩ := has_nb (bv a * bv c)
  obtain ⟨bc, ebc, vbc⟩ := has_nb (bv b * bv c)
  obtain ⟨gc, egc, vgc⟩ := has_nb (Nat.gcd (bv a) (bv b) * bv c)
  have lg : g.length ≤ 20 := by rw [← eg]; exact (nb_len _ _).2 (gcd_lt (bv_b ka) (bv_b kb))
  have lac : ac.length ≤ 40 := by rw [← eac]; exact (nb_len _ (20 + 20)).2 (mulb (bv_b ka) (bv_b kc))
  have lbc : bc.length ≤ 40 := by rw [← ebc]; exact (nb_len _ (20 + 20)).2 (mulb (bv_b kb) (bv_b kc))
  have HS := Lib.hid (sanity_all w ht)
  have HMa := Lib.hid hma
  have HMb := Lib.hid hmb
  have HMc := Lib.hid hmc
  have H1 := Lib.hid (C_gcd (a := a) (b := b) eg (by omega) (by omega) rfl)
  have H2 := Lib.hid (C_rgcd (a := a) (b := b) eg (by omega) (by omega) rfl)
  have H3 := Lib.hid (C_gcd (a := b) (b := a) eg (by omega) (by omega) (Nat.gcd_comm _ _))
  have H4 := Lib.hid (C_rmul (a := a) (b := c) eac (by omega) (by omega) rfl)
  have H5 := Lib.hid (C_rmul (a := b) (b := c) ebc (by omega) (by omega) rfl)
  have H6 := Lib.hid (C_gcd (a := ac) (b := bc) egc (by omega) (by omega) (by rw [vac, vbc, Nat.gcd_mul_right]))
  have H7 := Lib.hid (C_rmul (a := g) (b := c) egc (by omega) (by omega) (by rw [vg]))
  clear hma hmb hmc ht eg vg eac vac ebc vbc egc vgc lg lac lbc ka kb kc
  have HC := Lib.hid (Ch.refl w.heap.size none1 w)
  have m1a : (0 : Int) ≤ min (na : Int) 20 := by omega
  have m2a : min (na : Int) 20 ≤ (ca : Int) := by omega
  have m1b : (0 : Int) ≤ min (nb : Int) 20 := by omega
  have m2b : min (nb : Int) 20 ≤ (cb : Int) := by omega
  have m1c : (0 : Int) ≤ min (nc : Int) 20 := by omega
  have m2c : min (nc : Int) 20 ≤ (cc : Int) := by omega
  go_enter Tryd.func5, Tryd.ntmps5
  go_wp2_with (first
    | (go_at_call 11; with_reducible refine (HS.out _ HC.out).mono ?_; rintro e w' ⟨rfl, hC⟩; have HC2 := Lib.hid (HC.out.trans (hC.mono HC.out.size (fun _ _ q => q))); clear hC HC; have HC := HC2; clear HC2))
  have HX := Lib.hid (Ch.refl w'.drew.heap.size none1 w'.drew)
  have HCD := Lib.hid HC.out.drew
  clear HC
  go_region_held3 (fun _ => True)
    (first | trivial | go_keep)
    (first
      | (go_at_call 12; with_reducible refine (HMa.out _ (HCD.out.step0 HX.out (Nat.le_refl _))).mono ?_; rintro e wq ⟨rfl, hCq⟩; have HX2 := Lib.hid (HX.out.step0 hCq (Nat.le_refl _)); clear hCq HX; have HX := HX2; clear HX2)
      | (go_at_call 12; with_reducible refine (HMb.out _ (HCD.out.step0 HX.out (Nat.le_refl _))).mono ?_; rintro e wq ⟨rfl, hCq⟩; have HX2 := Lib.hid (HX.out.step0 hCq (Nat.le_refl _)); clear hCq HX; have HX := HX2; clear HX2)
      | (go_at_call 12; with_reducible refine (HMc.out _ (HCD.out.step0 HX.out (Nat.le_refl _))).mono ?_; rintro e wq ⟨rfl, hCq⟩; have HX2 := Lib.hid (HX.out.step0 hCq (Nat.le_refl _)); clear hCq HX; have HX := HX2; clear HX2))
  all_goals
    have HC := Lib.hid (HCD.out.step0 HX.out (Nat.le_refl _))
    clear HCD HX HS HMa HMb HMc
    go_wp2_with (first
    | (go_at_call 23; with_reducible refine (H1.out _).mono ?_; rintro e w' ⟨rfl, hC⟩; have HC2 := Lib.hid (HC.out.trans (hC.mono HC.out.size (fun _ _ q => q))); clear hC HC; have HC := HC2; clear HC2)
    | (go_at_call 24; with_reducible refine (H2.out _).mono ?_; rintro e w' ⟨rfl, hC⟩; have HC2 := Lib.hid (HC.out.trans (hC.mono HC.out.size (fun _ _ q => q))); clear hC HC; have HC := HC2; clear HC2)
    | (go_at_call 23; with_reducible refine (H3.out _).mono ?_; rintro e w' ⟨rfl, hC⟩; have HC2 := Lib.hid (HC.out.trans (hC.mono HC.out.size (fun _ _ q => q))); clear hC HC; have HC := HC2; clear HC2)
    | (go_at_call 22; with_reducible refine (H4.out _).mono ?_; rintro e w' ⟨rfl, hC⟩; have HC2 := Lib.hid (HC.out.trans (hC.mono HC.out.size (fun _ _ q => q))); clear hC HC; have HC := HC2; clear HC2)
    | (go_at_call 22; with_reducible refine (H5.out _).mono ?_; rintro e w' ⟨rfl, hC⟩; have HC2 := Lib.hid (HC.out.trans (hC.mono HC.out.size (fun _ _ q => q))); clear hC HC; have HC := HC2; clear HC2)
    | (go_at_call 23; with_reducible refine (H6.out _).mono ?_; rintro e w' ⟨rfl, hC⟩; have HC2 := Lib.hid (HC.out.trans (hC.mono HC.out.size (fun _ _ q => q))); clear hC HC; have HC := HC2; clear HC2)
    | (go_at_call 22; with_reducible refine (H7.out _).mono ?_; rintro e w' ⟨rfl, hC⟩; have HC2 := Lib.hid (HC.out.trans (hC.mono HC.out.size (fun _ _ q => q))); clear hC HC; have HC := HC2; clear HC2))
    go_ret
    exact ⟨rfl, HC.out⟩
set_option maxRecDepth 100000 in
set_option maxHeartbeats 3200000 in
theorem gcds_ssn (xa : Addr) (na ca : Nat) (h1a : na ≤ ca) (h2a : ca ≤ 9223372036854775807) (xb : Addr) (nb cb : Nat) (h1b : nb ≤ cb) (h2b : cb ≤ 9223372036854775807) (a b o : List UInt8) (w : World) (ka : a.length ≤ 20) (kb : b.length ≤ 20) (ko : o.length ≤ 20) (ht : pow10Is w)
    (hma : ∀ w', Ch w.heap.size none1 w w' → Calls Tryd.prog 12 #[.slice (some xa) (min (na : Int) 20).toNat ca] w' (Yld w' (S a)))
    (hmb : ∀ w', Ch w.heap.size none1 w w' → Calls Tryd.prog 12 #[.slice (some xb) (min (nb : Int) 20).toNat cb] w' (Yld w' (S b)))
    (hmo : ∀ w', Ch w.heap.size none1 w w' → Calls Tryd.prog 12 #[.slice none 0 0] w' (Yld w' (S o))) :
    Calls Tryd.prog 5 #[.slice (some xa) na ca, .slice (some xb) nb cb, .slice none 0 0] w (Yld w (.bool true)) := by
  obtain ⟨g, eg, vg⟩ := has_nb (Nat.gcd (bv a) (bv b))
  obtain ⟨ac, eac, vac⟩ := has_nb (bv a * bv o)
  obtain ⟨bc, ebc, vbc⟩ := has_nb (bv b * bv o)
  obtain ⟨gc, egc, vgc⟩ := has_nb (Nat.gcd (bv a) (bv b) * bv o)
  have lg : g.length ≤ 20 := by rw [← eg]; exact (nb_len _ _).2 (gcd_lt (bv_b ka) (bv_b kb))
  have lac : ac.length ≤ 40 := by rw [← eac]; exact (nb_len _ (20 + 20)).2 (mulb (bv_b ka) (bv_b ko))
  have lbc : bc.length ≤ 40 := by rw [← ebc]; exact (nb_len _ (20 + 20)).2 (mulb (bv_b kb) (bv_b ko))
  have HS := Lib.hid (sanity_all w ht)
  have HMa := Lib.hid hma
  have HMb := Lib.hid hmb
  have HMo := Lib.hid hmo
  have H1 := Lib.hid (C_gcd (a := a) (b := b) eg (by omega) (by omega) rfl)
  have H2 := Lib.hid (C_rgcd (a := a) (b := b) eg (by omega) (by omega) rfl)
  have H3 := Lib.hid (C_gcd (a := b) (b := a) eg (by omega) (by omega) (Nat.gcd_comm _ _))
  have H4 := Lib.hid (C_rmul (a := a) (b := o) eac (by omega) (by omega) rfl)
  have H5 := Lib.hid (C_rmul (a := b) (b := o) ebc (by omega) (by omega) rfl)
  have H6 := Lib.hid (C_gcd (a := ac) (b := bc) egc (by omega) (by omega) (by rw [vac, vbc, Nat.gcd_mul_right]))
  have H7 := Lib.hid (C_rmul (a := g) (b := o) egc (by omega) (by omega) (by rw [vg]))
  clear hma hmb hmo ht eg vg eac vac ebc vbc egc vgc lg lac lbc ka kb ko
  have HC := Lib.hid (Ch.refl w.heap.size none1 w)
  have m1a : (0 : Int) ≤ min (na : Int) 20 := by omega
  have m2a : min (na : Int) 20 ≤ (ca : Int) := by omega
  have m1b : (0 : Int) ≤ min (nb : Int) 20 := by omega
  have m2b : min (nb : Int) 20 ≤ (cb : Int) := by omega
  have mn : min (0 : Int) 20 = 0 := by decide
  go_enter Tryd.func5, Tryd.ntmps5
  go_wp2_with (first
    | (go_at_call 11; with_reducible refine (HS.out _ HC.out).mono ?_; rintro e w' ⟨rfl, hC⟩; have HC2 := Lib.hid (HC.out.trans (hC.mono HC.out.size (fun _ _ q => q))); clear hC HC; have HC := HC2; clear HC2))
  have HX := Lib.hid (Ch.refl w'.drew.heap.size none1 w'.drew)
  have HCD := Lib.hid HC.out.drew
  clear HC
  go_region_held3 (fun _ => True)
    (first | trivial | go_keep)
    (first
      | (go_at_call 12; with_reducible refine (HMa.out _ (HCD.out.step0 HX.out (Nat.le_refl _))).mono ?_; rintro e wq ⟨rfl, hCq⟩; have HX2 := Lib.hid (HX.out.step0 hCq (Nat.le_refl _)); clear hCq HX; have HX := HX2; clear HX2)
      | (go_at_call 12; with_reducible refine (HMb.out _ (HCD.out.step0 HX.out (Nat.le_refl _))).mono ?_; rintro e wq ⟨rfl, hCq⟩; have HX2 := Lib.hid (HX.out.step0 hCq (Nat.le_refl _)); clear hCq HX; have HX := HX2; clear HX2)
      | (go_at_call 12; with_reducible refine (HMo.out _ (HCD.out.step0 HX.out (Nat.le_refl _))).mono ?_; rintro e wq ⟨rfl, hCq⟩; have HX2 := Lib.hid (HX.out.step0 hCq (Nat.le_refl _)); clear hCq HX; have HX := HX2; clear HX2))
  all_goals
    have HC := Lib.hid (HCD.out.step0 HX.out (Nat.le_refl _))
    clear HCD HX HS HMa HMb HMo
    go_wp2_with (first
    | (go_at_call 23; with_reducible refine (H1.out _).mono ?_; rintro e w' ⟨rfl, hC⟩; have HC2 := Lib.hid (HC.out.trans (hC.mono HC.out.size (fun _ _ q => q))); clear hC HC; have HC := HC2; clear HC2)
    | (go_at_call 24; with_reducible refine (H2.out _).mono ?_; rintro e w' ⟨rfl, hC⟩; have HC2 := Lib.hid (HC.out.trans (hC.mono HC.out.size (fun _ _ q => q))); clear hC HC; have HC := HC2; clear HC2)
    | (go_at_call 23; with_reducible refine (H3.out _).mono ?_; rintro e w' ⟨rfl, hC⟩; have HC2 := Lib.hid (HC.out.trans (hC.mono HC.out.size (fun _ _ q => q))); clear hC HC; have HC := HC2; clear HC2)
    | (go_at_call 22; with_reducible refine (H4.out _).mono ?_; rintro e w' ⟨rfl, hC⟩; have HC2 := Lib.hid (HC.out.trans (hC.mono HC.out.size (fun _ _ q => q))); clear hC HC; have HC := HC2; clear HC2)
    | (go_at_call 22; with_reducible refine (H5.out _).mono ?_; rintro e w' ⟨rfl, hC⟩; have HC2 := Lib.hid (HC.out.trans (hC.mono HC.out.size (fun _ _ q => q))); clear hC HC; have HC := HC2; clear HC2)
    | (go_at_call 23; with_reducible refine (H6.out _).mono ?_; rintro e w' ⟨rfl, hC⟩; have HC2 := Lib.hid (HC.out.trans (hC.mono HC.out.size (fun _ _ q => q))); clear hC HC; have HC := HC2; clear HC2)
    | (go_at_call 22; with_reducible refine (H7.out _).mono ?_; rintro e w' ⟨rfl, hC⟩; have HC2 := Lib.hid (HC.out.trans (hC.mono HC.out.size (fun _ _ q => q))); clear hC HC; have HC := HC2; clear HC2))
    go_ret
    exact ⟨rfl, HC.out⟩
set_option maxRecDepth 100000 in
set_option maxHeartbeats 3200000 in
theorem gcds_sns (xa : Addr) (na ca : Nat) (h1a : na ≤ ca) (h2a : ca ≤ 9223372036854775807) (xc : Addr) (nc cc : Nat) (h1c : nc ≤ cc) (h2c : cc ≤ 9223372036854775807) (a o c : List UInt8) (w : World) (ka : a.length ≤ 20) (ko : o.length ≤ 20) (kc : c.length ≤ 20) (ht : pow10Is w)
    (hma : ∀ w', Ch w.heap.size none1 w w' → Calls Tryd.prog 12 #[.slice (some xa) (min (na : Int) 20).toNat ca] w' (Yld w' (S a)))
    (hmo : ∀ w', Ch w.heap.size none1 w w' → Calls Tryd.prog 12 #[.slice none 0 0] w' (Yld w' (S o)))
    (hmc : ∀ w', Ch w.heap.size none1 w w' → Calls Tryd.prog 12 #[.slice (some xc) (min (nc : Int) 20).toNat cc] w' (Yld w' (S c))) :
    Calls Tryd.prog 5 #[.slice (some xa) na ca, .slice none 0 0, .slice (some xc) nc cc] w (Yld w (.bool true)) := by
  obtain ⟨g, eg, vg⟩ := has_nb (Nat.gcd (bv a) (bv o))
  obtain ⟨ac, eac, vac⟩ := has_nb (bv a * bv c)
  obtain ⟨bc, ebc, vbc⟩ := has_nb (bv o * bv c)
  obtain ⟨gc, egc, vgc⟩ := has_nb (Nat.gcd (bv a) (bv o) * bv c)
  have lg : g.length ≤ 20 := by rw [← eg]; exact (nb_len _ _).2 (gcd_lt (bv_b ka) (bv_b ko))
  have lac : ac.length ≤ 40 := by rw [← eac]; exact (nb_len _ (20 + 20)).2 (mulb (bv_b ka) (bv_b kc))
  have lbc : bc.length ≤ 40 := by rw [← ebc]; exact (nb_len _ (20 + 20)).2 (mulb (bv_b ko) (bv_b kc))
  have HS := Lib.hid (sanity_all w ht)
  have HMa := Lib.hid hma
  have HMo := Lib.hid hmo
  have HMc := Lib.hid hmc
  have H1 := Lib.hid (C_gcd (a := a) (b := o) eg (by omega) (by omega) rfl)
  have H2 := Lib.hid (C_rgcd (a := a) (b := o) eg (by omega) (by omega) rfl)
  have H3 := Lib.hid (C_gcd (a := o) (b := a) eg (by omega) (by omega) (Nat.gcd_comm _ _))
  have H4 := Lib.hid (C_rmul (a := a) (b := c) eac (by omega) (by omega) rfl)
  have H5 := Lib.hid (C_rmul (a := o) (b := c) ebc (by omega) (by omega) rfl)
  have H6 := Lib.hid (C_gcd (a := ac) (b := bc) egc (by omega) (by omega) (by rw [vac, vbc, Nat.gcd_mul_right]))
  have H7 := Lib.hid (C_rmul (a := g) (b := c) egc (by omega) (by omega) (by rw [vg]))
  clear hma hmo hmc ht eg vg eac vac ebc vbc egc vgc lg lac lbc ka ko kc
  have HC := Lib.hid (Ch.refl w.heap.size none1 w)
  have m1a : (0 : Int) ≤ min (na : Int) 20 := by omega
  have m2a : min (na : Int) 20 ≤ (ca : Int) := by omega
  have m1c : (0 : Int) ≤ min (nc : Int) 20 := by omega
  have m2c : min (nc : Int) 20 ≤ (cc : Int) := by omega
  have mn : min (0 : Int) 20 = 0 := by decide
  go_enter Tryd.func5, Tryd.ntmps5
  go_wp2_with (first
    | (go_at_call 11; with_reducible refine (HS.out _ HC.out).mono ?_; rintro e w' ⟨rfl, hC⟩; have HC2 := Lib.hid (HC.out.trans (hC.mono HC.out.size (fun _ _ q => q))); clear hC HC; have HC := HC2; clear HC2))
  have HX := Lib.hid (Ch.refl w'.drew.heap.size none1 w'.drew)
  have HCD := Lib.hid HC.out.drew
  clear HC
  go_region_held3 (fun _ => True)
    (first | trivial | go_keep)
    (first
      | (go_at_call 12; with_reducible refine (HMa.out _ (HCD.out.step0 HX.out (Nat.le_refl _))).mono ?_; rintro e wq ⟨rfl, hCq⟩; have HX2 := Lib.hid (HX.out.step0 hCq (Nat.le_refl _)); clear hCq HX; have HX := HX2; clear HX2)
      | (go_at_call 12; with_reducible refine (HMo.out _ (HCD.out.step0 HX.out (Nat.le_refl _))).mono ?_; rintro e wq ⟨rfl, hCq⟩; have HX2 := Lib.hid (HX.out.step0 hCq (Nat.le_refl _)); clear hCq HX; have HX := HX2; clear HX2)
      | (go_at_call 12; with_reducible refine (HMc.out _ (HCD.out.step0 HX.out (Nat.le_refl _))).mono ?_; rintro e wq ⟨rfl, hCq⟩; have HX2 := Lib.hid (HX.out.step0 hCq (Nat.le_refl _)); clear hCq HX; have HX := HX2; clear HX2))
  all_goals
    have HC := Lib.hid (HCD.out.step0 HX.out (Nat.le_refl _))
    clear HCD HX HS HMa HMo HMc
    go_wp2_with (first
    | (go_at_call 23; with_reducible refine (H1.out _).mono ?_; rintro e w' ⟨rfl, hC⟩; have HC2 := Lib.hid (HC.out.trans (hC.mono HC.out.size (fun _ _ q => q))); clear hC HC; have HC := HC2; clear HC2)
    | (go_at_call 24; with_reducible refine (H2.out _).mono ?_; rintro e w' ⟨rfl, hC⟩; have HC2 := Lib.hid (HC.out.trans (hC.mono HC.out.size (fun _ _ q => q))); clear hC HC; have HC := HC2; clear HC2)
    | (go_at_call 23; with_reducible refine (H3.out _).mono ?_; rintro e w' ⟨rfl, hC⟩; have HC2 := Lib.hid (HC.out.trans (hC.mono HC.out.size (fun _ _ q => q))); clear hC HC; have HC := HC2; clear HC2)
    | (go_at_call 22; with_reducible refine (H4.out _).mono ?_; rintro e w' ⟨rfl, hC⟩; have HC2 := Lib.hid (HC.out.trans (hC.mono HC.out.size (fun _ _ q => q))); clear hC HC; have HC := HC2; clear HC2)
    | (go_at_call 22; with_reducible refine (H5.out _).mono ?_; rintro e w' ⟨rfl, hC⟩; have HC2 := Lib.hid (HC.out.trans (hC.mono HC.out.size (fun _ _ q => q))); clear hC HC; have HC := HC2; clear HC2)
    | (go_at_call 23; with_reducible refine (H6.out _).mono ?_; rintro e w' ⟨rfl, hC⟩; have HC2 := Lib.hid (HC.out.trans (hC.mono HC.out.size (fun _ _ q => q))); clear hC HC; have HC := HC2; clear HC2)
    | (go_at_call 22; with_reducible refine (H7.out _).mono ?_; rintro e w' ⟨rfl, hC⟩; have HC2 := Lib.hid (HC.out.trans (hC.mono HC.out.size (fun _ _ q => q))); clear hC HC; have HC := HC2; clear HC2))
    go_ret
    exact ⟨rfl, HC.out⟩
set_option maxRecDepth 100000 in
set_option maxHeartbeats 3200000 in
theorem gcds_snn (xa : Addr) (na ca : Nat) (h1a : na ≤ ca) (h2a : ca ≤ 9223372036854775807) (a o : List UInt8) (w : World) (ka : a.length ≤ 20) (ko : o.length ≤ 20) (ht : pow10Is w)
    (hma : ∀ w', Ch w.heap.size none1 w w' → Calls Tryd.prog 12 #[.slice (some xa) (min (na : Int) 20).toNat ca] w' (Yld w' (S a)))
    (hmo : ∀ w', Ch w.heap.size none1 w w' → Calls Tryd.prog 12 #[.slice none 0 0] w' (Yld w' (S o))) :
    Calls Tryd.prog 5 #[.slice (some xa) na ca, .slice none 0 0, .slice none 0 0] w (Yld w (.bool true)) := by
  obtain ⟨g, eg, vg⟩ := has_nb (Nat.gcd (bv a) (bv o))
  obtain ⟨ac, eac, vac⟩ := has_nb (bv a * bv o)
  obtain ⟨bc, ebc, vbc⟩ := has_nb (bv o * bv o)
  obtain ⟨gc, egc, vgc⟩ := has_nb (Nat.gcd (bv a) (bv o) * bv o)
  have lg : g.length ≤ 20 := by rw [← eg]; exact (nb_len _ _).2 (gcd_lt (bv_b ka) (bv_b ko))
  have lac : ac.length ≤ 40 := by rw [← eac]; exact (nb_len _ (20 + 20)).2 (mulb (bv_b ka) (bv_b ko))
  have lbc : bc.length ≤ 40 := by rw [← ebc]; exact (nb_len _ (20 + 20)).2 (mulb (bv_b ko) (bv_b ko))
  have HS := Lib.hid (sanity_all w ht)
  have HMa := Lib.hid hma
  have HMo := Lib.hid hmo
  have H1 := Lib.hid (C_gcd (a := a) (b := o) eg (by omega) (by omega) rfl)
  have H2 := Lib.hid (C_rgcd (a := a) (b := o) eg (by omega) (by omega) rfl)
  have H3 := Lib.hid (C_gcd (a := o) (b := a) eg (by omega) (by omega) (Nat.gcd_comm _ _))
  have H4 := Lib.hid (C_rmul (a := a) (b := o) eac (by omega) (by omega) rfl)
  have H5 := Lib.hid (C_rmul (a := o) (b := o) ebc (by omega) (by omega) rfl)
  have H6 := Lib.hid (C_gcd (a := ac) (b := bc) egc (by omega) (by omega) (by rw [vac, vbc, Nat.gcd_mul_right]))
  have H7 := Lib.hid (C_rmul (a := g) (b := o) egc (by omega) (by omega) (by rw [vg]))
  clear hma hmo ht eg vg eac vac ebc vbc egc vgc lg lac lbc ka ko
  have HC := Lib.hid (Ch.refl w.heap.size none1 w)
  have m1a : (0 : Int) ≤ min (na : Int) 20 := by omega
  have m2a : min (na : Int) 20 ≤ (ca : Int) := by omega
  have mn : min (0 : Int) 20 = 0 := by decide
  go_enter Tryd.func5, Tryd.ntmps5
  go_wp2_with (first
    | (go_at_call 11; with_reducible refine (HS.out _ HC.out).mono ?_; rintro e w' ⟨rfl, hC⟩; have HC2 := Lib.hid (HC.out.trans (hC.mono HC.out.size (fun _ _ q => q))); clear hC HC; have HC := HC2; clear HC2))
  have HX := Lib.hid (Ch.refl w'.drew.heap.size none1 w'.drew)
  have HCD := Lib.hid HC.out.drew
  clear HC
  go_region_held3 (fun _ => True)
    (first | trivial | go_keep)
    (first
      | (go_at_call 12; with_reducible refine (HMa.out _ (HCD.out.step0 HX.out (Nat.le_refl _))).mono ?_; rintro e wq ⟨rfl, hCq⟩; have HX2 := Lib.hid (HX.out.step0 hCq (Nat.le_refl _)); clear hCq HX; have HX := HX2; clear HX2)
      | (go_at_call 12; with_reducible refine (HMo.out _ (HCD.out.step0 HX.out (Nat.le_refl _))).mono ?_; rintro e wq ⟨rfl, hCq⟩; have HX2 := Lib.hid (HX.out.step0 hCq (Nat.le_refl _)); clear hCq HX; have HX := HX2; clear HX2))
  all_goals
    have HC := Lib.hid (HCD.out.step0 HX.out (Nat.le_refl _))
    clear HCD HX HS HMa HMo
    go_wp2_with (first
    | (go_at_call 23; with_reducible refine (H1.out _).mono ?_; rintro e w' ⟨rfl, hC⟩; have HC2 := Lib.hid (HC.out.trans (hC.mono HC.out.size (fun _ _ q => q))); clear hC HC; have HC := HC2; clear HC2)
    | (go_at_call 24; with_reducible refine (H2.out _).mono ?_; rintro e w' ⟨rfl, hC⟩; have HC2 := Lib.hid (HC.out.trans (hC.mono HC.out.size (fun _ _ q => q))); clear hC HC; have HC := HC2; clear HC2)
    | (go_at_call 23; with_reducible refine (H3.out _).mono ?_; rintro e w' ⟨rfl, hC⟩; have HC2 := Lib.hid (HC.out.trans (hC.mono HC.out.size (fun _ _ q => q))); clear hC HC; have HC := HC2; clear HC2)
    | (go_at_call 22; with_reducible refine (H4.out _).mono ?_; rintro e w' ⟨rfl, hC⟩; have HC2 := Lib.hid (HC.out.trans (hC.mono HC.out.size (fun _ _ q => q))); clear hC HC; have HC := HC2; clear HC2)
    | (go_at_call 22; with_reducible refine (H5.out _).mono ?_; rintro e w' ⟨rfl, hC⟩; have HC2 := Lib.hid (HC.out.trans (hC.mono HC.out.size (fun _ _ q => q))); clear hC HC; have HC := HC2; clear HC2)
    | (go_at_call 23; with_reducible refine (H6.out _).mono ?_; rintro e w' ⟨rfl, hC⟩; have HC2 := Lib.hid (HC.out.trans (hC.mono HC.out.size (fun _ _ q => q))); clear hC HC; have HC := HC2; clear HC2)
    | (go_at_call 22; with_reducible refine (H7.out _).mono ?_; rintro e w' ⟨rfl, hC⟩; have HC2 := Lib.hid (HC.out.trans (hC.mono HC.out.size (fun _ _ q => q))); clear hC HC; have HC := HC2; clear HC2))
    go_ret
    exact ⟨rfl, HC.out⟩
set_option maxRecDepth 100000 in
set_option maxHeartbeats 3200000 in
theorem gcds_nss (xb : Addr) (nb cb : Nat) (h1b : nb ≤ cb) (h2b : cb ≤ 9223372036854775807) (xc : Addr) (nc cc : Nat) (h1c : nc ≤ cc) (h2c : cc ≤ 9223372036854775807) (o b c : List UInt8) (w : World) (ko : o.length ≤ 20) (kb : b.length ≤ 20) (kc : c.length ≤ 20) (ht : pow10Is w)
    (hmo : ∀ w', Ch w.heap.size none1 w w' → Calls Tryd.prog 12 #[.slice none 0 0] w' (Yld w' (S o)))
    (hmb : ∀ w', Ch w.heap.size none1 w w' → Calls Tryd.prog 12 #[.slice (some xb) (min (nb : Int) 20).toNat cb] w' (Yld w' (S b)))
    (hmc : ∀ w', Ch w.heap.size none1 w w' → Calls Tryd.prog 12 #[.slice (some xc) (min (nc : Int) 20).toNat cc] w' (Yld w' (S c))) :
    Calls Tryd.prog 5 #[.slice none 0 0, .slice (some xb) nb cb, .slice (some xc) nc cc] w (Yld w (.bool true)) := by
  obtain ⟨g, eg, vg⟩ := has_nb (Nat.gcd (bv o) (bv b))
  obtain ⟨ac, eac, vac⟩ := has_nb (bv o * bv c)
  obtain ⟨bc, ebc, vbc⟩ := has_nb (bv b * bv c)
  obtain ⟨gc, egc, vgc⟩ := has_nb (Nat.gcd (bv o) (bv b) * bv c)
  have lg : g.length ≤ 20 := by rw [← eg]; exact (nb_len _ _).2 (gcd_lt (bv_b ko) (bv_b kb))
  have lac : ac.length ≤ 40 := by rw [← eac]; exact (nb_len _ (20 + 20)).2 (mulb (bv_b ko) (bv_b kc))
  have lbc : bc.length ≤ 40 := by rw [← ebc]; exact (nb_len _ (20 + 20)).2 (mulb (bv_b kb) (bv_b kc))
  have HS := Lib.hid (sanity_all w ht)
  have HMo := Lib.hid hmo
  have HMb := Lib.hid hmb
  have HMc := Lib.hid hmc
  have H1 := Lib.hid (C_gcd (a := o) (b := b) eg (by omega) (by omega) rfl)
  have H2 := Lib.hid (C_rgcd (a := o) (b := b) eg (by omega) (by omega) rfl)
  have H3 := Lib.hid (C_gcd (a := b) (b := o) eg (by omega) (by omega) (Nat.gcd_comm _ _))
  have H4 := Lib.hid (C_rmul (a := o) (b := c) eac (by omega) (by omega) rfl)
  have H5 := Lib.hid (C_rmul (a := b) (b := c) ebc (by omega) (by omega) rfl)
  have H6 := Lib.hid (C_gcd (a := ac) (b := bc) egc (by omega) (by omega) (by rw [vac, vbc, Nat.gcd_mul_right]))
  have H7 := Lib.hid (C_rmul (a := g) (b := c) egc (by omega) (by omega) (by rw [vg]))
  clear hmo hmb hmc ht eg vg eac vac ebc vbc egc vgc lg lac lbc ko kb kc
  have HC := Lib.hid (Ch.refl w.heap.size none1 w)
  have m1b : (0 : Int) ≤ min (nb : Int) 20 := by omega
  have m2b : min (nb : Int) 20 ≤ (cb : Int) := by omega
  have m1c : (0 : Int) ≤ min (nc : Int) 20 := by omega
  have m2c : min (nc : Int) 20 ≤ (cc : Int) := by omega
  have mn : min (0 : Int) 20 = 0 := by decide
  go_enter Tryd.func5, Tryd.ntmps5
  go_wp2_with (first
    | (go_at_call 11; with_reducible refine (HS.out _ HC.out).mono ?_; rintro e w' ⟨rfl, hC⟩; have HC2 := Lib.hid (HC.out.trans (hC.mono HC.out.size (fun _ _ q => q))); clear hC HC; have HC := HC2; clear HC2))
  have HX := Lib.hid (Ch.refl w'.drew.heap.size none1 w'.drew)
  have HCD := Lib.hid HC.out.drew
  clear HC
  go_region_held3 (fun _ => True)
    (first | trivial | go_keep)
    (first
      | (go_at_call 12; with_reducible refine (HMo.out _ (HCD.out.step0 HX.out (Nat.le_refl _))).mono ?_; rintro e wq ⟨rfl, hCq⟩; have HX2 := Lib.hid (HX.out.step0 hCq (Nat.le_refl _)); clear hCq HX; have HX := HX2; clear HX2)
      | (go_at_call 12; with_reducible refine (HMb.out _ (HCD.out.step0 HX.out (Nat.le_refl _))).mono ?_; rintro e wq ⟨rfl, hCq⟩; have HX2 := Lib.hid (HX.out.step0 hCq (Nat.le_refl _)); clear hCq HX; have HX := HX2; clear HX2)
      | (go_at_call 12; with_reducible refine (HMc.out _ (HCD.out.step0 HX.out (Nat.le_refl _))).mono ?_; rintro e wq ⟨rfl, hCq⟩; have HX2 := Lib.hid (HX.out.step0 hCq (Nat.le_refl _)); clear hCq HX; have HX := HX2; clear HX2))
  all_goals
    have HC := Lib.hid (HCD.out.step0 HX.out (Nat.le_refl _))
    clear HCD HX HS HMo HMb HMc
    go_wp2_with (first
    | (go_at_call 23; with_reducible refine (H1.out _).mono ?_; rintro e w' ⟨rfl, hC⟩; have HC2 := Lib.hid (HC.out.trans (hC.mono HC.out.size (fun _ _ q => q))); clear hC HC; have HC := HC2; clear HC2)
    | (go_at_call 24; with_reducible refine (H2.out _).mono ?_; rintro e w' ⟨rfl, hC⟩; have HC2 := Lib.hid (HC.out.trans (hC.mono HC.out.size (fun _ _ q => q))); clear hC HC; have HC := HC2; clear HC2)
    | (go_at_call 23; with_reducible refine (H3.out _).mono ?_; rintro e w' ⟨rfl, hC⟩; have HC2 := Lib.hid (HC.out.trans (hC.mono HC.out.size (fun _ _ q => q))); clear hC HC; have HC := HC2; clear HC2)
    | (go_at_call 22; with_reducible refine (H4.out _).mono ?_; rintro e w' ⟨rfl, hC⟩; have HC2 := Lib.hid (HC.out.trans (hC.mono HC.out.size (fun _ _ q => q))); clear hC HC; have HC := HC2; clear HC2)
    | (go_at_call 22; with_reducible refine (H5.out _).mono ?_; rintro e w' ⟨rfl, hC⟩; have HC2 := Lib.hid (HC.out.trans (hC.mono HC.out.size (fun _ _ q => q))); clear hC HC; have HC := HC2; clear HC2)
    | (go_at_call 23; with_reducible refine (H6.out _).mono ?_; rintro e w' ⟨rfl, hC⟩; have HC2 := Lib.hid (HC.out.trans (hC.mono HC.out.size (fun _ _ q => q))); clear hC HC; have HC := HC2; clear HC2)
    | (go_at_call 22; with_reducible refine (H7.out _).mono ?_; rintro e w' ⟨rfl, hC⟩; have HC2 := Lib.hid (HC.out.trans (hC.mono HC.out.size (fun _ _ q => q))); clear hC HC; have HC := HC2; clear HC2))
    go_ret
    exact ⟨rfl, HC.out⟩
set_option maxRecDepth 100000 in
set_option maxHeartbeats 3200000 in
theorem gcds_nsn (xb : Addr) (nb cb : Nat) (h1b : nb ≤ cb) (h2b : cb ≤ 9223372036854775807) (o b : List UInt8) (w : World) (ko : o.length ≤ 20) (kb : b.length ≤ 20) (ht : pow10Is w)
    (hmo : ∀ w', Ch w.heap.size none1 w w' → Calls Tryd.prog 12 #[.slice none 0 0] w' (Yld w' (S o)))
    (hmb : ∀ w', Ch w.heap.size none1 w w' → Calls Tryd.prog 12 #[.slice (some xb) (min (nb : Int) 20).toNat cb] w' (Yld w' (S b))) :
    Calls Tryd.prog 5 #[.slice none 0 0, .slice (some xb) nb cb, .slice none 0 0] w (Yld w (.bool true)) := by
  obtain ⟨g, eg, vg⟩ := has_nb (Nat.gcd (bv o) (bv b))
  obtain ⟨ac, eac, vac⟩ := has_nb (bv o * bv o)
  obtain ⟨bc, ebc, vbc⟩ := has_nb (bv b * bv o)
  obtain ⟨gc, egc, vgc⟩ := has_nb (Nat.gcd (bv o) (bv b) * bv o)
  have lg : g.length ≤ 20 := by rw [← eg]; exact (nb_len _ _).2 (gcd_lt (bv_b ko) (bv_b kb))
  have lac : ac.length ≤ 40 := by rw [← eac]; exact (nb_len _ (20 + 20)).2 (mulb (bv_b ko) (bv_b ko))
  have lbc : bc.length ≤ 40 := by rw [← ebc]; exact (nb_len _ (20 + 20)).2 (mulb (bv_b kb) (bv_b ko))
  have HS := Lib.hid (sanity_all w ht)
  have HMo := Lib.hid hmo
  have HMb := Lib.hid hmb
  have H1 := Lib.hid (C_gcd (a := o) (b := b) eg (by omega) (by omega) rfl)
  have H2 := Lib.hid (C_rgcd (a := o) (b := b) eg (by omega) (by omega) rfl)
  have H3 := Lib.hid (C_gcd (a := b) (b := o) eg (by omega) (by omega) (Nat.gcd_comm _ _))
  have H4 := Lib.hid (C_rmul (a := o) (b := o) eac (by omega) (by omega) rfl)
  have H5 := Lib.hid (C_rmul (a := b) (b := o) ebc (by omega) (by omega) rfl)
  have H6 := Lib.hid (C_gcd (a := ac) (b := bc) egc (by omega) (by omega) (by rw [vac, vbc, Nat.gcd_mul_right]))
  have H7 := Lib.hid (C_rmul (a := g) (b := o) egc (by omega) (by omega) (by rw [vg]))
  clear hmo hmb ht eg vg eac vac ebc vbc egc vgc lg lac lbc ko kb
  have HC := Lib.hid (Ch.refl w.heap.size none1 w)
  have m1b : (0 : Int) ≤ min (nb : Int) 20 := by omega
  have m2b : min (nb : Int) 20 ≤ (cb : Int) := by omega
  have mn : min (0 : Int) 20 = 0 := by decide
  go_enter Tryd.func5, Tryd.ntmps5
  go_wp2_with (first
    | (go_at_call 11; with_reducible refine (HS.out _ HC.out).mono ?_; rintro e w' ⟨rfl, hC⟩; have HC2 := Lib.hid (HC.out.trans (hC.mono HC.out.size (fun _ _ q => q))); clear hC HC; have HC := HC2; clear HC2))
  have HX := Lib.hid (Ch.refl w'.drew.heap.size none1 w'.drew)
  have HCD := Lib.hid HC.out.drew
  clear HC
  go_region_held3 (fun _ => True)
    (first | trivial | go_keep)
    (first
      | (go_at_call 12; with_reducible refine (HMo.out _ (HCD.out.step0 HX.out (Nat.le_refl _))).mono ?_; rintro e wq ⟨rfl, hCq⟩; have HX2 := Lib.hid (HX.out.step0 hCq (Nat.le_refl _)); clear hCq HX; have HX := HX2; clear HX2)
      | (go_at_call 12; with_reducible refine (HMb.out _ (HCD.out.step0 HX.out (Nat.le_refl _))).mono ?_; rintro e wq ⟨rfl, hCq⟩; have HX2 := Lib.hid (HX.out.step0 hCq (Nat.le_refl _)); clear hCq HX; have HX := HX2; clear HX2))
  all_goals
    have HC := Lib.hid (HCD.out.step0 HX.out (Nat.le_refl _))
    clear HCD HX HS HMo HMb
    go_wp2_with (first
    | (go_at_call 23; with_reducible refine (H1.out _).mono ?_; rintro e w' ⟨rfl, hC⟩; have HC2 := Lib.hid (HC.out.trans (hC.mono HC.out.size (fun _ _ q => q))); clear hC HC; have HC := HC2; clear HC2)
    | (go_at_call 24; with_reducible refine (H2.out _).mono ?_; rintro e w' ⟨rfl, hC⟩; have HC2 := Lib.hid (HC.out.trans (hC.mono HC.out.size (fun _ _ q => q))); clear hC HC; have HC := HC2; clear HC2)
    | (go_at_call 23; with_reducible refine (H3.out _).mono ?_; rintro e w' ⟨rfl, hC⟩; have HC2 := Lib.hid (HC.out.trans (hC.mono HC.out.size (fun _ _ q => q))); clear hC HC; have HC := HC2; clear HC2)
    | (go_at_call 22; with_reducible refine (H4.out _).mono ?_; rintro e w' ⟨rfl, hC⟩; have HC2 := Lib.hid (HC.out.trans (hC.mono HC.out.size (fun _ _ q => q))); clear hC HC; have HC := HC2; clear HC2)
    | (go_at_call 22; with_reducible refine (H5.out _).mono ?_; rintro e w' ⟨rfl, hC⟩; have HC2 := Lib.hid (HC.out.trans (hC.mono HC.out.size (fun _ _ q => q))); clear hC HC; have HC := HC2; clear HC2)
    | (go_at_call 23; with_reducible refine (H6.out _).mono ?_; rintro e w' ⟨rfl, hC⟩; have HC2 := Lib.hid (HC.out.trans (hC.mono HC.out.size (fun _ _ q => q))); clear hC HC; have HC := HC2; clear HC2)
    | (go_at_call 22; with_reducible refine (H7.out _).mono ?_; rintro e w' ⟨rfl, hC⟩; have HC2 := Lib.hid (HC.out.trans (hC.mono HC.out.size (fun _ _ q => q))); clear hC HC; have HC := HC2; clear HC2))
    go_ret
    exact ⟨rfl, HC.out⟩
set_option maxRecDepth 100000 in
set_option maxHeartbeats 3200000 in
theorem gcds_nns (xc : Addr) (nc cc : Nat) (h1c : nc ≤ cc) (h2c : cc ≤ 9223372036854775807) (o c : List UInt8) (w : World) (ko : o.length ≤ 20) (kc : c.length ≤ 20) (ht : pow10Is w)
    (hmo : ∀ w', Ch w.heap.size none1 w w' → Calls Tryd.prog 12 #[.slice none 0 0] w' (Yld w' (S o)))
    (hmc : ∀ w', Ch w.heap.size none1 w w' → Calls Tryd.prog 12 #[.slice (some xc) (min (nc : Int) 20).toNat cc] w' (Yld w' (S c))) :
    Calls Tryd.prog 5 #[.slice none 0 0, .slice none 0 0, .slice (some xc) nc cc] w (Yld w (.bool true)) := by
  obtain ⟨g, eg, vg⟩ := has_nb (Nat.gcd (bv o) (bv o))
  obtain ⟨ac, eac, vac⟩ := has_nb (bv o * bv c)
  obtain ⟨gc, egc, vgc⟩ := has_nb (Nat.gcd (bv o) (bv o) * bv c)
  have lg : g.length ≤ 20 := by rw [← eg]; exact (nb_len _ _).2 (gcd_lt (bv_b ko) (bv_b ko))
  have lac : ac.length ≤ 40 := by rw [← eac]; exact (nb_len _ (20 + 20)).2 (mulb (bv_b ko) (bv_b kc))
  have HS := Lib.hid (sanity_all w ht)
  have HMo := Lib.hid hmo
  have HMc := Lib.hid hmc
  have H1 := Lib.hid (C_gcd (a := o) (b := o) eg (by omega) (by omega) rfl)
  have H2 := Lib.hid (C_rgcd (a := o) (b := o) eg (by omega) (by omega) rfl)
  have H3 := Lib.hid (C_gcd (a := o) (b := o) eg (by omega) (by omega) (Nat.gcd_comm _ _))
  have H4 := Lib.hid (C_rmul (a := o) (b := c) eac (by omega) (by omega) rfl)
  have H6 := Lib.hid (C_gcd (a := ac) (b := ac) egc (by omega) (by omega) (by rw [vac, Nat.gcd_mul_right]))
  have H7 := Lib.hid (C_rmul (a := g) (b := c) egc (by omega) (by omega) (by rw [vg]))
  clear hmo hmc ht eg vg eac vac egc vgc lg lac ko kc
  have HC := Lib.hid (Ch.refl w.heap.size none1 w)
  have m1c : (0 : Int) ≤ min (nc : Int) 20 := by omega
  have m2c : min (nc : Int) 20 ≤ (cc : Int) := by omega
  have mn : min (0 : Int) 20 = 0 := by decide
  go_enter Tryd.func5, Tryd.ntmps5
  go_wp2_with (first
    | (go_at_call 11; with_reducible refine (HS.out _ HC.out).mono ?_; rintro e w' ⟨rfl, hC⟩; have HC2 := Lib.hid (HC.out.trans (hC.mono HC.out.size (fun _ _ q => q))); clear hC HC; have HC := HC2; clear HC2))
  have HX := Lib.hid (Ch.refl w'.drew.heap.size none1 w'.drew)
  have HCD := Lib.hid HC.out.drew
  clear HC
  go_region_held3 (fun _ => True)
    (first | trivial | go_keep)
    (first
      | (go_at_call 12; with_reducible refine (HMo.out _ (HCD.out.step0 HX.out (Nat.le_refl _))).mono ?_; rintro e wq ⟨rfl, hCq⟩; have HX2 := Lib.hid (HX.out.step0 hCq (Nat.le_refl _)); clear hCq HX; have HX := HX2; clear HX2)
      | (go_at_call 12; with_reducible refine (HMc.out _ (HCD.out.step0 HX.out (Nat.le_refl _))).mono ?_; rintro e wq ⟨rfl, hCq⟩; have HX2 := Lib.hid (HX.out.step0 hCq (Nat.le_refl _)); clear hCq HX; have HX := HX2; clear HX2))
  all_goals
    have HC := Lib.hid (HCD.out.step0 HX.out (Nat.le_refl _))
    clear HCD HX HS HMo HMc
    go_wp2_with (first
    | (go_at_call 23; with_reducible refine (H1.out _).mono ?_; rintro e w' ⟨rfl, hC⟩; have HC2 := Lib.hid (HC.out.trans (hC.mono HC.out.size (fun _ _ q => q))); clear hC HC; have HC := HC2; clear HC2)
    | (go_at_call 24; with_reducible refine (H2.out _).mono ?_; rintro e w' ⟨rfl, hC⟩; have HC2 := Lib.hid (HC.out.trans (hC.mono HC.out.size (fun _ _ q => q))); clear hC HC; have HC := HC2; clear HC2)
    | (go_at_call 23; with_reducible refine (H3.out _).mono ?_; rintro e w' ⟨rfl, hC⟩; have HC2 := Lib.hid (HC.out.trans (hC.mono HC.out.size (fun _ _ q => q))); clear hC HC; have HC := HC2; clear HC2)
    | (go_at_call 22; with_reducible refine (H4.out _).mono ?_; rintro e w' ⟨rfl, hC⟩; have HC2 := Lib.hid (HC.out.trans (hC.mono HC.out.size (fun _ _ q => q))); clear hC HC; have HC := HC2; clear HC2)
    | (go_at_call 23; with_reducible refine (H6.out _).mono ?_; rintro e w' ⟨rfl, hC⟩; have HC2 := Lib.hid (HC.out.trans (hC.mono HC.out.size (fun _ _ q => q))); clear hC HC; have HC := HC2; clear HC2)
    | (go_at_call 22; with_reducible refine (H7.out _).mono ?_; rintro e w' ⟨rfl, hC⟩; have HC2 := Lib.hid (HC.out.trans (hC.mono HC.out.size (fun _ _ q => q))); clear hC HC; have HC := HC2; clear HC2))
    go_ret
    exact ⟨rfl, HC.out⟩
set_option maxRecDepth 100000 in
set_option maxHeartbeats 3200000 in
theorem gcds_nnn (o : List UInt8) (w : World) (ko : o.length ≤ 20) (ht : pow10Is w)
    (hmo : ∀ w', Ch w.heap.size none1 w w' → Calls Tryd.prog 12 #[.slice none 0 0] w' (Yld w' (S o))) :
    Calls Tryd.prog 5 #[.slice none 0 0, .slice none 0 0, .slice none 0 0] w (Yld w (.bool true)) := by
  obtain ⟨g, eg, vg⟩ := has_nb (Nat.gcd (bv o) (bv o))
  obtain ⟨ac, eac, vac⟩ := has_nb (bv o * bv o)
  obtain ⟨gc, egc, vgc⟩ := has_nb (Nat.gcd (bv o) (bv o) * bv o)
  have lg : g.length ≤ 20 := by rw [← eg]; exact (nb_len _ _).2 (gcd_lt (bv_b ko) (bv_b ko))
  have lac : ac.length ≤ 40 := by rw [← eac]; exact (nb_len _ (20 + 20)).2 (mulb (bv_b ko) (bv_b ko))
  have HS := Lib.hid (sanity_all w ht)
  have HMo := Lib.hid hmo
  have H1 := Lib.hid (C_gcd (a := o) (b := o) eg (by omega) (by omega) rfl)
  have H2 := Lib.hid (C_rgcd (a := o) (b := o) eg (by omega) (by omega) rfl)
  have H3 := Lib.hid (C_gcd (a := o) (b := o) eg (by omega) (by omega) (Nat.gcd_comm _ _))
  have H4 := Lib.hid (C_rmul (a := o) (b := o) eac (by omega) (by omega) rfl)
  have H6 := Lib.hid (C_gcd (a := ac) (b := ac) egc (by omega) (by omega) (by rw [vac, Nat.gcd_mul_right]))
  have H7 := Lib.hid (C_rmul (a := g) (b := o) egc (by omega) (by omega) (by rw [vg]))
  clear hmo ht eg vg eac vac egc vgc lg lac ko
  have HC := Lib.hid (Ch.refl w.heap.size none1 w)
  have mn : min (0 : Int) 20 = 0 := by decide
  go_enter Tryd.func5, Tryd.ntmps5
  go_wp2_with (first
    | (go_at_call 11; with_reducible refine (HS.out _ HC.out).mono ?_; rintro e w' ⟨rfl, hC⟩; have HC2 := Lib.hid (HC.out.trans (hC.mono HC.out.size (fun _ _ q => q))); clear hC HC; have HC := HC2; clear HC2))
  have HX := Lib.hid (Ch.refl w'.drew.heap.size none1 w'.drew)
  have HCD := Lib.hid HC.out.drew
  clear HC
  go_region_held3 (fun _ => True)
    (first | trivial | go_keep)
    (first
      | (go_at_call 12; with_reducible refine (HMo.out _ (HCD.out.step0 HX.out (Nat.le_refl _))).mono ?_; rintro e wq ⟨rfl, hCq⟩; have HX2 := Lib.hid (HX.out.step0 hCq (Nat.le_refl _)); clear hCq HX; have HX := HX2; clear HX2))
  all_goals
    have HC := Lib.hid (HCD.out.step0 HX.out (Nat.le_refl _))
    clear HCD HX HS HMo
    go_wp2_with (first
    | (go_at_call 23; with_reducible refine (H1.out _).mono ?_; rintro e w' ⟨rfl, hC⟩; have HC2 := Lib.hid (HC.out.trans (hC.mono HC.out.size (fun _ _ q => q))); clear hC HC; have HC := HC2; clear HC2)
    | (go_at_call 24; with_reducible refine (H2.out _).mono ?_; rintro e w' ⟨rfl, hC⟩; have HC2 := Lib.hid (HC.out.trans (hC.mono HC.out.size (fun _ _ q => q))); clear hC HC; have HC := HC2; clear HC2)
    | (go_at_call 23; with_reducible refine (H3.out _).mono ?_; rintro e w' ⟨rfl, hC⟩; have HC2 := Lib.hid (HC.out.trans (hC.mono HC.out.size (fun _ _ q => q))); clear hC HC; have HC := HC2; clear HC2)
    | (go_at_call 22; with_reducible refine (H4.out _).mono ?_; rintro e w' ⟨rfl, hC⟩; have HC2 := Lib.hid (HC.out.trans (hC.mono HC.out.size (fun _ _ q => q))); clear hC HC; have HC := HC2; clear HC2)
    | (go_at_call 23; with_reducible refine (H6.out _).mono ?_; rintro e w' ⟨rfl, hC⟩; have HC2 := Lib.hid (HC.out.trans (hC.mono HC.out.size (fun _ _ q => q))); clear hC HC; have HC := HC2; clear HC2)
    | (go_at_call 22; with_reducible refine (H7.out _).mono ?_; rintro e w' ⟨rfl, hC⟩; have HC2 := Lib.hid (HC.out.trans (hC.mono HC.out.size (fun _ _ q => q))); clear hC HC; have HC := HC2; clear HC2))
    go_ret
    exact ⟨rfl, HC.out⟩
theorem gcds_core (vx vy vz : Value) (lx ly lz : List UInt8) (w : World) (hx : BS w vx lx) (hy : BS w vy ly) (hz : BS w vz lz) (ht : pow10Is w) :
    Calls Tryd.prog 5 #[vx, vy, vz] w (Yld w (.bool true)) := by
  obtain ⟨px, cx, rfl, -⟩ := id hx
  obtain ⟨py, cy, rfl, -⟩ := id hy
  obtain ⟨pz, cz, rfl, -⟩ := id hz
  obtain ⟨a, ka, hma⟩ := made_cut hx
  obtain ⟨b, kb, hmb⟩ := made_cut hy
  obtain ⟨c, kc, hmc⟩ := made_cut hz
  obtain ⟨-, hx1, hx2, hx3⟩ := hx.len
  obtain ⟨-, hy1, hy2, hy3⟩ := hy.len
  obtain ⟨-, hz1, hz2, hz3⟩ := hz.len
  unfold maxLen at hx2 hy2 hz2
  obtain ⟨o, ko, hmo⟩ := made_cut (w := w) (p := none) (n := 0) (cap := 0) (l := []) ⟨none, 0, rfl, Nat.le_refl _, by decide, fun _ => rfl, fun h => by simp at h⟩
  rcases px with _ | xx
  · obtain ⟨e0, e1⟩ := hx3 rfl
    rw [e0, e1] at hma ⊢
    rcases py with _ | xy
    · obtain ⟨e0, e1⟩ := hy3 rfl
      rw [e0, e1] at hmb ⊢
      rcases pz with _ | xz
      · obtain ⟨e0, e1⟩ := hz3 rfl
        rw [e0, e1] at hmc ⊢
        exact gcds_nnn o w ko ht hmo
      · exact gcds_nns xz _ _ hz1 hz2 o c w ko kc ht hmo hmc
    · rcases pz with _ | xz
      · obtain ⟨e0, e1⟩ := hz3 rfl
        rw [e0, e1] at hmc ⊢
        exact gcds_nsn xy _ _ hy1 hy2 o b w ko kb ht hmo hmb
      · exact gcds_nss xy _ _ hy1 hy2 xz _ _ hz1 hz2 o b c w ko kb kc ht hmo hmb hmc
  · rcases py with _ | xy
    · obtain ⟨e0, e1⟩ := hy3 rfl
      rw [e0, e1] at hmb ⊢
      rcases pz with _ | xz
      · obtain ⟨e0, e1⟩ := hz3 rfl
        rw [e0, e1] at hmc ⊢
        exact gcds_snn xx _ _ hx1 hx2 a o w ka ko ht hma hmo
      · exact gcds_sns xx _ _ hx1 hx2 xz _ _ hz1 hz2 a o c w ka ko kc ht hma hmo hmc
    · rcases pz with _ | xz
      · obtain ⟨e0, e1⟩ := hz3 rfl
        rw [e0, e1] at hmc ⊢
        exact gcds_ssn xx _ _ hx1 hx2 xy _ _ hy1 hy2 a b o w ka kb ko ht hma hmb hmo
      · exact gcds_sss xx _ _ hx1 hx2 xy _ _ hy1 hy2 xz _ _ hz1 hz2 a b c w ka kb kc ht hma hmb hmc
end Go.Proofs.YtcghnkdfhiancaaDoor
