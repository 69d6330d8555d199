/- Contract of the product of package nat's powers modulo an even number. -/
import Derived.Test.YtcghnkdfhiancaaDoorNx
import Derived.Deep.RegionHeld3
namespace Go.Proofs.YtcghnkdfhiancaaDoor
open Go.RowKit
/-- v is a slice that reads as the digits of N. -/
def RdD (w : World) (v : Value) (N : Nat) : Prop := ∃ p cap, v = .slice p (ds N).length cap ∧ Dg w p (ds N).length (ds N)
theorem RdD.ch {w w' : World} {v : Value} {N : Nat} (h : RdD w v N) (hC : Ch w.heap.size none1 w w') : RdD w' v N := by
  obtain ⟨p, cap, rfl, hd⟩ := h
  exact ⟨p, cap, rfl, Dg.ch hC hd (fun a ha => ⟨hd.lt_size a ha, fun q => q⟩)⟩
theorem RdD.of_own {w : World} {B N : Nat} {v : Value} (h : OwnD w B v N) : RdD w v N := by
  obtain ⟨p, cap, rfl, hd, _⟩ := h.dg
  exact ⟨p, cap, rfl, hd⟩
theorem Dg.drew {w : World} {p : Option Addr} {n : Nat} {xs : List Nat} (h : Dg w p n xs) : Dg w.drew p n xs := ⟨h.len, h.lt, h.nil, h.at'⟩
theorem Ch.weak {a b : World} (h : Ch a.heap.size none1 a b) {B : Nat} (hB : B ≤ a.heap.size) : Ch B none1 a b := h.mono hB (fun _ _ q => q)
set_option maxRecDepth 100000 in
set_option maxHeartbeats 3200000 in
theorem prod82 (X Y M bm : Nat) (vx vy vm : Value) (w : World) (hx : RdD w vx X) (hy : RdD w vy Y) (hm : RdD w vm M) (hM : 0 < M) (hc : w.cell? ⟨bm, 0, none⟩ = some vm) (hbm : bm < w.heap.size)
    (lx : (ds X).length ≤ 4398046511104) (ly : (ds Y).length ≤ 4398046511104) (lm : (ds M).length ≤ 4398046511104) :
    Calls Tryd.prog 82 #[vx, vy, .pointer (some ⟨bm, 0, none⟩)] w fun e w' => ∃ v, e = .returned v ∧ RdD w' v (X * Y % M) ∧ Ch w.heap.size none1 w w' := by
  obtain ⟨px, cx, rfl, hdx⟩ := hx
  obtain ⟨py, cy, rfl, hdy⟩ := hy
  obtain ⟨pm, cm, rfl, hdm⟩ := hm
  have hpl : (ds (X * Y)).length ≤ 8796093022208 := by
    have h1 := mul_bound D _ _ _ _ ((ds_len X _).1 (Nat.le_refl _)) ((ds_len Y _).1 (Nat.le_refl _))
    have h2 := (ds_len _ _).2 h1
    omega
  have hrl : (ds (X * Y % M)).length ≤ (ds M).length := (ds_len _ _).2 (Nat.lt_trans (Nat.mod_lt _ hM) ((ds_len M _).1 (Nat.le_refl _)))
  have hmul := fun w2 (h1 : Dg w2 px (ds X).length (ds X)) (h2 : Dg w2 py (ds Y).length (ds Y)) => multiply_any _ _ cx cy px py _ _ w2 h1 h2 (by omega) (by omega)
  simp only [dv_ds] at hmul
  have hdiv := fun w2 p2 c2 (h1 : Dg w2 p2 (ds (X * Y)).length (ds (X * Y))) (h2 : Dg w2 pm (ds M).length (ds M)) => divide_any _ _ c2 cm (X * Y) M p2 pm w2 h1 h2 hpl (by omega) hM
  have HMUL := Lib.hid hmul; clear hmul
  have HDIV := Lib.hid hdiv; clear hdiv
  have HDX := Lib.hid hdx; clear hdx
  have HDY := Lib.hid hdy; clear hdy
  have HDM := Lib.hid hdm; clear hdm
  generalize X * Y = P at *
  generalize (ds X).length = nx at *
  generalize (ds Y).length = ny at *
  go_enter Tryd.func82, Tryd.ntmps82
  go_wp2_with fail
  go_region_with (first
      | (go_at_call 52; refine (HMUL.out _ HDX.out.drew HDY.out.drew).mono ?_; rintro e w2 ⟨v, rfl, ho, hC2⟩; obtain ⟨p2, c2, rfl, hd2, _, _, _⟩ := ho.dg; have hk2 := (hC2.cell (p := ⟨bm, 0, none⟩) hbm (fun q => q)).trans hc; have hdm2 := Dg.ch hC2 HDM.out.drew (fun a ha => ⟨HDM.out.lt_size a ha, fun q => q⟩); have HD2 := Lib.hid hd2; have HDM2 := Lib.hid hdm2; have HC2 := Lib.hid hC2; clear hd2 hdm2 ho hC2)
      | (go_at_call 56; refine (HDIV.out _ _ _ HD2.out HDM2.out).mono ?_; rintro e w3 ⟨v1, v2, rfl, _, ho2, hC3⟩; have HO2 := Lib.hid ho2; have HC3 := Lib.hid hC3; clear ho2 hC3))
  all_goals
    have hr : RdD w3 v2 (P % M) := by
      rcases HO2.out with ⟨hlt, he⟩ | ho
      · refine ⟨p2, c2, by rw [Nat.mod_eq_of_lt hlt]; exact he, ?_⟩
        rw [Nat.mod_eq_of_lt hlt]
        exact Dg.ch HC3.out HD2.out (fun a ha => ⟨HD2.out.lt_size a ha, fun q => q⟩)
      · exact RdD.of_own ho
    have hC := (((Ch.refl w.heap.size none1 w).drew).step0 HC2.out (Nat.le_refl _)).step0 HC3.out (Nat.le_refl _)
    have HR := Lib.hid hr
    clear hr HO2
    go_wp2_with fail
    go_ret
    exact ⟨_, rfl, HR.out, hC⟩
end Go.Proofs.YtcghnkdfhiancaaDoor
