/- NatRing: the walk. -/
import Derived.Test.YtcghnkdfhiancaaDoorTa
namespace Go.Proofs.YtcghnkdfhiancaaDoor
open Go.RowKit
set_option maxRecDepth 100000 in
set_option maxHeartbeats 3200000 in
theorem ring_core (vx vy vz : Value) (lx ly lz : List UInt8) (w : World) (hx : BS w vx lx) (hy : BS w vy ly) (hz : BS w vz lz) (ht : pow10Is w) :
    Calls Tryd.prog 8 #[vx, vy, vz] w (Yld w (.bool true)) := by
  obtain ⟨a, ka, hma⟩ := made_all vx lx w hx
  obtain ⟨b, kb, hmb⟩ := made_all vy ly w hy
  obtain ⟨c, kc, hmc⟩ := made_all vz lz w hz
  have la : a.length ≤ 10000 := by omega
  have lb : b.length ≤ 10000 := by omega
  have lc : c.length ≤ 10000 := by omega
  have bA := bv_b ka
  have bB := bv_b kb
  have bC := bv_b kc
  obtain ⟨ab, eab, vab⟩ := has_nb (bv a + bv b)
  obtain ⟨bc, ebc, vbc⟩ := has_nb (bv b + bv c)
  obtain ⟨abc, eabc, vabc⟩ := has_nb (bv a + bv b + bv c)
  obtain ⟨ca, eca, vca⟩ := has_nb (bv a)
  obtain ⟨mab, emab, vmab⟩ := has_nb (bv a * bv b)
  obtain ⟨mbc, embc, vmbc⟩ := has_nb (bv b * bv c)
  obtain ⟨mac, emac, vmac⟩ := has_nb (bv a * bv c)
  obtain ⟨mabc, emabc, vmabc⟩ := has_nb (bv a * bv b * bv c)
  obtain ⟨m2, em2, vm2⟩ := has_nb (bv a * (bv b + bv c))
  have lab := nbl _ eab (add_bound bA bB) (by decide)
  have lbc := nbl _ ebc (add_bound bB bC) (by decide)
  have lmab := nbl _ emab (mulb bA bB) (by decide)
  have lmbc := nbl _ embc (mulb bB bC) (by decide)
  have lmac := nbl _ emac (mulb bA bC) (by decide)
  have h1 := C_add eab la lb rfl
  have h2 := C_add eab lb la (Nat.add_comm _ _)
  have h3 := C_sub eca lab lb vab
  have h4 := C_mul emab la lb rfl
  have h5 := C_mul emab lb la (Nat.mul_comm _ _)
  have h6 := C_canon eca la rfl
  have h7 := C_add eabc lab lc (by rw [vab])
  have h8 := C_add ebc lb lc rfl
  have h9 := C_add eabc la lbc (by rw [vbc]; omega)
  have h10 := C_mul emabc lmab lc (by rw [vmab])
  have h11 := C_mul embc lb lc rfl
  have h12 := C_mul emabc la lmbc (by rw [vmbc, Nat.mul_assoc])
  have h13 := C_mul em2 la lbc (by rw [vbc])
  have h14 := C_mul emac la lc rfl
  have h15 := C_add em2 lmab lmac (by rw [vmab, vmac, Nat.mul_add])
  have h16 := C_mul (a := a) (b := []) nb_zero la (by decide) (Nat.mul_zero _)
  have h17 := C_mul (a := a) (b := [1]) eca la (by decide) (Nat.mul_one _)
  have HS := Lib.hid (sanity_all w ht)
  have HMx := Lib.hid hma
  have HMy := Lib.hid hmb
  have HMz := Lib.hid hmc
  have H1 := Lib.hid h1
  have H2 := Lib.hid h2
  have H3 := Lib.hid h3
  have H4 := Lib.hid h4
  have H5 := Lib.hid h5
  have H6 := Lib.hid h6
  have H7 := Lib.hid h7
  have H8 := Lib.hid h8
  have H9 := Lib.hid h9
  have H10 := Lib.hid h10
  have H11 := Lib.hid h11
  have H12 := Lib.hid h12
  have H13 := Lib.hid h13
  have H14 := Lib.hid h14
  have H15 := Lib.hid h15
  have H16 := Lib.hid h16
  have H17 := Lib.hid h17
  clear h1 h2 h3 h4 h5 h6 h7 h8 h9 h10 h11 h12 h13 h14 h15 h16 h17 hma hmb hmc ht hx hy hz ka kb kc la lb lc bA bB bC eab vab ebc vbc eabc vabc eca vca emab vmab embc vmbc emac vmac emabc vmabc em2 vm2 lab lbc lmab lmbc lmac
  have HC := Lib.hid (Ch.refl w.heap.size none1 w)
  go_enter Tryd.func8, Tryd.ntmps8
  go_wp2_with (first
    | (go_at_call 11; with_reducible refine (HS.out _ HC.out).mono ?_; rintro e w' ⟨rfl, hC⟩; have HC2 := Lib.hid (HC.out.trans (hC.mono HC.out.size (fun _ _ q => q))); clear hC HC; have HC := HC2; clear HC2)
    | (go_at_call 12; with_reducible refine (HMx.out _ HC.out).mono ?_; rintro e w' ⟨rfl, hC⟩; have HC2 := Lib.hid (HC.out.trans (hC.mono HC.out.size (fun _ _ q => q))); clear hC HC; have HC := HC2; clear HC2)
    | (go_at_call 12; with_reducible refine (HMy.out _ HC.out).mono ?_; rintro e w' ⟨rfl, hC⟩; have HC2 := Lib.hid (HC.out.trans (hC.mono HC.out.size (fun _ _ q => q))); clear hC HC; have HC := HC2; clear HC2)
    | (go_at_call 12; with_reducible refine (HMz.out _ HC.out).mono ?_; rintro e w' ⟨rfl, hC⟩; have HC2 := Lib.hid (HC.out.trans (hC.mono HC.out.size (fun _ _ q => q))); clear hC HC; have HC := HC2; clear HC2)
    | (go_at_call 15; with_reducible refine (H1.out _).mono ?_; rintro e w' ⟨rfl, hC⟩; have HC2 := Lib.hid (HC.out.trans (hC.mono HC.out.size (fun _ _ q => q))); clear hC HC; have HC := HC2; clear HC2)
    | (go_at_call 15; with_reducible refine (H2.out _).mono ?_; rintro e w' ⟨rfl, hC⟩; have HC2 := Lib.hid (HC.out.trans (hC.mono HC.out.size (fun _ _ q => q))); clear hC HC; have HC := HC2; clear HC2)
    | (go_at_call 13; with_reducible refine (H3.out _).mono ?_; rintro e w' ⟨rfl, hC⟩; have HC2 := Lib.hid (HC.out.trans (hC.mono HC.out.size (fun _ _ q => q))); clear hC HC; have HC := HC2; clear HC2)
    | (go_at_call 21; with_reducible refine (H4.out _).mono ?_; rintro e w' ⟨rfl, hC⟩; have HC2 := Lib.hid (HC.out.trans (hC.mono HC.out.size (fun _ _ q => q))); clear hC HC; have HC := HC2; clear HC2)
    | (go_at_call 21; with_reducible refine (H5.out _).mono ?_; rintro e w' ⟨rfl, hC⟩; have HC2 := Lib.hid (HC.out.trans (hC.mono HC.out.size (fun _ _ q => q))); clear hC HC; have HC := HC2; clear HC2)
    | (go_at_call 33; with_reducible refine (H6.out _).mono ?_; rintro e w' ⟨rfl, hC⟩; have HC2 := Lib.hid (HC.out.trans (hC.mono HC.out.size (fun _ _ q => q))); clear hC HC; have HC := HC2; clear HC2)
    | (go_at_call 15; with_reducible refine (H7.out _).mono ?_; rintro e w' ⟨rfl, hC⟩; have HC2 := Lib.hid (HC.out.trans (hC.mono HC.out.size (fun _ _ q => q))); clear hC HC; have HC := HC2; clear HC2)
    | (go_at_call 15; with_reducible refine (H8.out _).mono ?_; rintro e w' ⟨rfl, hC⟩; have HC2 := Lib.hid (HC.out.trans (hC.mono HC.out.size (fun _ _ q => q))); clear hC HC; have HC := HC2; clear HC2)
    | (go_at_call 15; with_reducible refine (H9.out _).mono ?_; rintro e w' ⟨rfl, hC⟩; have HC2 := Lib.hid (HC.out.trans (hC.mono HC.out.size (fun _ _ q => q))); clear hC HC; have HC := HC2; clear HC2)
    | (go_at_call 21; with_reducible refine (H10.out _).mono ?_; rintro e w' ⟨rfl, hC⟩; have HC2 := Lib.hid (HC.out.trans (hC.mono HC.out.size (fun _ _ q => q))); clear hC HC; have HC := HC2; clear HC2)
    | (go_at_call 21; with_reducible refine (H11.out _).mono ?_; rintro e w' ⟨rfl, hC⟩; have HC2 := Lib.hid (HC.out.trans (hC.mono HC.out.size (fun _ _ q => q))); clear hC HC; have HC := HC2; clear HC2)
    | (go_at_call 21; with_reducible refine (H12.out _).mono ?_; rintro e w' ⟨rfl, hC⟩; have HC2 := Lib.hid (HC.out.trans (hC.mono HC.out.size (fun _ _ q => q))); clear hC HC; have HC := HC2; clear HC2)
    | (go_at_call 21; with_reducible refine (H13.out _).mono ?_; rintro e w' ⟨rfl, hC⟩; have HC2 := Lib.hid (HC.out.trans (hC.mono HC.out.size (fun _ _ q => q))); clear hC HC; have HC := HC2; clear HC2)
    | (go_at_call 21; with_reducible refine (H14.out _).mono ?_; rintro e w' ⟨rfl, hC⟩; have HC2 := Lib.hid (HC.out.trans (hC.mono HC.out.size (fun _ _ q => q))); clear hC HC; have HC := HC2; clear HC2)
    | (go_at_call 15; with_reducible refine (H15.out _).mono ?_; rintro e w' ⟨rfl, hC⟩; have HC2 := Lib.hid (HC.out.trans (hC.mono HC.out.size (fun _ _ q => q))); clear hC HC; have HC := HC2; clear HC2)
    | (go_at_call 21; with_reducible refine (H16.out _).mono ?_; rintro e w' ⟨rfl, hC⟩; have HC2 := Lib.hid (HC.out.trans (hC.mono HC.out.size (fun _ _ q => q))); clear hC HC; have HC := HC2; clear HC2)
    | (go_at_call 21; with_reducible refine (H17.out _).mono ?_; rintro e w' ⟨rfl, hC⟩; have HC2 := Lib.hid (HC.out.trans (hC.mono HC.out.size (fun _ _ q => q))); clear hC HC; have HC := HC2; clear HC2))
  go_ret
  exact ⟨rfl, HC.out⟩
end Go.Proofs.YtcghnkdfhiancaaDoor
