/- NatProducts: the walk. -/
import Derived.Test.YtcghnkdfhiancaaDoorTa
import Derived.Test.YtcghnkdfhiancaaDoorUi
namespace Go.Proofs.YtcghnkdfhiancaaDoor
open Go.RowKit
set_option maxRecDepth 100000 in
set_option maxHeartbeats 3200000 in
theorem products_core (vx vy : Value) (lx ly : List UInt8) (w : World) (hx : BS w vx lx) (hy : BS w vy ly) (ht : pow10Is w) :
    Calls Tryd.prog 4 #[vx, vy] w (Yld w (.bool true)) := by
  obtain ⟨a, ka, hma⟩ := made_all vx lx w hx
  obtain ⟨b, kb, hmb⟩ := made_all vy ly w hy
  have la : a.length ≤ 10000 := by omega
  have lb : b.length ≤ 10000 := by omega
  obtain ⟨mab, emab, vmab⟩ := has_nb (bv a * bv b)
  obtain ⟨maa, emaa, vmaa⟩ := has_nb (bv a * bv a)
  have HS := Lib.hid (sanity_all w ht)
  have HMx := Lib.hid hma
  have HMy := Lib.hid hmb
  have H1 := Lib.hid (C_mul emab la lb rfl)
  have H2 := Lib.hid (C_rmul emab (show a.length ≤ 1000 by omega) (show b.length ≤ 1000 by omega) rfl)
  have H3 := Lib.hid (C_mul emaa la la rfl)
  have H4 := Lib.hid (C_rmul emaa (show a.length ≤ 1000 by omega) (show a.length ≤ 1000 by omega) rfl)
  clear hma hmb ht hx hy ka kb la lb emab vmab emaa vmaa
  have HC := Lib.hid (Ch.refl w.heap.size none1 w)
  go_enter Tryd.func4, Tryd.ntmps4
  go_wp2_with (first
    | (go_at_call 11; with_reducible refine (HS.out _ HC.out).mono ?_; rintro e w' ⟨rfl, hC⟩; have HC2 := Lib.hid (HC.out.trans (hC.mono HC.out.size (fun _ _ q => q))); clear hC HC; have HC := HC2; clear HC2)
    | (go_at_call 12; with_reducible refine (HMx.out _ HC.out).mono ?_; rintro e w' ⟨rfl, hC⟩; have HC2 := Lib.hid (HC.out.trans (hC.mono HC.out.size (fun _ _ q => q))); clear hC HC; have HC := HC2; clear HC2)
    | (go_at_call 12; with_reducible refine (HMy.out _ HC.out).mono ?_; rintro e w' ⟨rfl, hC⟩; have HC2 := Lib.hid (HC.out.trans (hC.mono HC.out.size (fun _ _ q => q))); clear hC HC; have HC := HC2; clear HC2)
    | (go_at_call 21; with_reducible refine (H1.out _).mono ?_; rintro e w' ⟨rfl, hC⟩; have HC2 := Lib.hid (HC.out.trans (hC.mono HC.out.size (fun _ _ q => q))); clear hC HC; have HC := HC2; clear HC2)
    | (go_at_call 22; with_reducible refine (H2.out _).mono ?_; rintro e w' ⟨rfl, hC⟩; have HC2 := Lib.hid (HC.out.trans (hC.mono HC.out.size (fun _ _ q => q))); clear hC HC; have HC := HC2; clear HC2)
    | (go_at_call 21; with_reducible refine (H3.out _).mono ?_; rintro e w' ⟨rfl, hC⟩; have HC2 := Lib.hid (HC.out.trans (hC.mono HC.out.size (fun _ _ q => q))); clear hC HC; have HC := HC2; clear HC2)
    | (go_at_call 22; with_reducible refine (H4.out _).mono ?_; rintro e w' ⟨rfl, hC⟩; have HC2 := Lib.hid (HC.out.trans (hC.mono HC.out.size (fun _ _ q => q))); clear hC HC; have HC := HC2; clear HC2))
  go_ret
  exact ⟨rfl, HC.out⟩
end Go.Proofs.YtcghnkdfhiancaaDoor
