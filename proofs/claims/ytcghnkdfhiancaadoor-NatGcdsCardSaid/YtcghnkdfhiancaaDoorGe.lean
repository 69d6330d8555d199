/- Contracts of package nat's reduced, common and Gcd. -/
import Derived.Test.YtcghnkdfhiancaaDoorGc
import Derived.Deep.RegionHeld3
import Derived.Test.YtcghnkdfhiancaaDoorNy
import Derived.Deep.LoopGhost
namespace Go.Proofs.YtcghnkdfhiancaaDoor
open Go.RowKit
/-- Two slices that lie in different blocks. -/
def Far (v1 v2 : Value) : Prop := ∀ p n c q m k, v1 = .slice (some p) n c → v2 = .slice (some q) m k → p.block ≠ q.block
theorem OwnD.blk_lt {w : World} {B N : Nat} {v : Value} (h : OwnD w B v N) : ∀ p n c, v = .slice (some p) n c → B ≤ p.block ∧ p.block < w.heap.size := fun p n c e => by
  obtain ⟨_, h2⟩ := h
  rcases h2 with ⟨q, _⟩ | ⟨g, cap, cur, hv, hb, hg, _⟩
  · rw [e] at q; simp at q
  · rw [e] at hv
    simp only [Value.slice.injEq, Option.some.injEq] at hv
    obtain ⟨rfl, _⟩ := hv
    exact ⟨hb, (Array.getElem?_eq_some_iff.1 hg).1⟩
theorem OwnD.far {w1 w2 : World} {B1 B2 N1 N2 : Nat} {v1 v2 : Value} (h1 : OwnD w1 B1 v1 N1) (h2 : OwnD w2 B2 v2 N2) (h : w1.heap.size ≤ B2) : Far v1 v2 := fun p n c q m k e1 e2 => by
  have a := (h1.blk_lt p n c e1).2
  have b := (h2.blk_lt q m k e2).1
  omega
theorem Far.symm {v1 v2 : Value} (h : Far v1 v2) : Far v2 v1 := fun p n c q m k e1 e2 => (h q m k p n c e2 e1).symm
theorem keep4 {W W' : World} {B : Nat} {u0 u1 u2 u3 : Value} (h : Ch W.heap.size none1 W W') (hB : B < W.heap.size) (hc : W.cell? ⟨B, 0, none⟩ = some u0 ∧ W.cell? ⟨B, 1, none⟩ = some u1 ∧ W.cell? ⟨B, 2, none⟩ = some u2 ∧ W.cell? ⟨B, 3, none⟩ = some u3) :
    W'.cell? ⟨B, 0, none⟩ = some u0 ∧ W'.cell? ⟨B, 1, none⟩ = some u1 ∧ W'.cell? ⟨B, 2, none⟩ = some u2 ∧ W'.cell? ⟨B, 3, none⟩ = some u3 :=
  ⟨(h.cell (p := ⟨B, 0, none⟩) hB (fun q => q)).trans hc.1, (h.cell (p := ⟨B, 1, none⟩) hB (fun q => q)).trans hc.2.1, (h.cell (p := ⟨B, 2, none⟩) hB (fun q => q)).trans hc.2.2.1, (h.cell (p := ⟨B, 3, none⟩) hB (fun q => q)).trans hc.2.2.2⟩
/-- What applied yields: two slices of one's own, apart from one another. -/
def Two (w : World) (X Y : Nat) (e : Ending) (w' : World) : Prop := ∃ v1 v2, e = .returned (.tuple #[v1, v2]) ∧ OwnD w' w.heap.size v1 X ∧ OwnD w' w.heap.size v2 Y ∧ Far v1 v2 ∧ Ch w.heap.size none1 w w'
theorem Two.mk' {w w' : World} {X Y : Nat} {e : Ending} {v1 v2 : Value} (h : e = .returned (.tuple #[v1, v2])) (h1 : OwnD w' w.heap.size v1 X) (h2 : OwnD w' w.heap.size v2 Y) (h3 : Far v1 v2) (h4 : Ch w.heap.size none1 w w') : Two w X Y e w' := ⟨v1, v2, h, h1, h2, h3, h4⟩
set_option maxRecDepth 100000 in
set_option maxHeartbeats 1600000 in
theorem applied_false (n capx capy a b c d U0 Z0 : Nat) (p q : Option Addr) (xs ys : List Nat) (w : World) (hx : Dg w p n xs) (hy : Dg w q n ys) (hn : n ≤ 8796093022208) (ha : a < D) (hb : b < D) (hc : c < D) (hd : d < D)
    (h1 : U0 + dv ys * b = dv xs * a) (h2 : Z0 + dv xs * c = dv ys * d) :
    Calls Tryd.prog 94 #[.agg #[U a, U b, U c, U d, .bool false], .slice p n capx, .slice q n capy] w (Two w U0 Z0) := by
  have HS1 := Lib.hid h1; clear h1
  have HS2 := Lib.hid h2; clear h2
  go_enter Tryd.func94, Tryd.ntmps94
  go_wp2_with fail
  have hB0 := Blk.new w #[U a, U b, U c, U d, .bool false] 105
  have hC0 := (Ch.refl w.heap.size none1 w).alloc (Nat.le_refl _) (.cells #[U a, U b, U c, U d, .bool false] 105 (0, 0)) |>.drew
  have hx0 := Dg.ch hC0 hx (fun a ha => ⟨hx.lt_size a ha, fun q => q⟩)
  have hy0 := Dg.ch hC0 hy (fun a ha => ⟨hy.lt_size a ha, fun q => q⟩)
  have hxl := hx.lt_size
  have hyl := hy.lt_size
  clear hx hy
  obtain ⟨g, hg⟩ : ∃ g, w.heap.size = g := ⟨_, rfl⟩
  obtain ⟨W0, hW0⟩ : ∃ W, w.alloc (.cells #[U a, U b, U c, U d, .bool false] 105 (0, 0)) = W := ⟨_, rfl⟩
  rw [hW0] at hB0 hC0 hx0 hy0 ⊢
  rw [hg] at hB0 ⊢
  clear hW0
  have HS0 := Lib.hid (show W0.drew.cell? ⟨g, 0, none⟩ = some (U a) ∧ W0.drew.cell? ⟨g, 1, none⟩ = some (U b) ∧ W0.drew.cell? ⟨g, 2, none⟩ = some (U c) ∧ W0.drew.cell? ⟨g, 3, none⟩ = some (U d) from ⟨hB0.cell 0, hB0.cell 1, hB0.cell 2, hB0.cell 3⟩)
  have HLT := Lib.hid (show g < W0.drew.heap.size from hB0.lt)
  have HCH := Lib.hid (Ch.refl W0.drew.heap.size none1 W0.drew)
  have HX := Lib.hid (show Dg W0.drew p n xs from hx0)
  have HY := Lib.hid (show Dg W0.drew q n ys from hy0)
  have HXB := Lib.hid (show ∀ a, p = some a → a.block < W0.drew.heap.size ∧ ¬ none1 a.block from fun a ha => ⟨Nat.lt_of_lt_of_le (hxl a ha) hC0.size, fun q => q⟩)
  have HYB := Lib.hid (show ∀ a, q = some a → a.block < W0.drew.heap.size ∧ ¬ none1 a.block from fun a ha => ⟨Nat.lt_of_lt_of_le (hyl a ha) hC0.size, fun q => q⟩)
  have HC0 := Lib.hid (show Ch w.heap.size none1 w W0.drew from hC0)
  have HG := Lib.hid hg
  clear hB0 hC0 hx0 hy0 hxl hyl hg
  go_wp2_with fail
  go_region_held3 (fun w' => w'.cell? ⟨g, 0, none⟩ = some (U a) ∧ w'.cell? ⟨g, 1, none⟩ = some (U b) ∧ w'.cell? ⟨g, 2, none⟩ = some (U c) ∧ w'.cell? ⟨g, 3, none⟩ = some (U d))
    (first
      | (with_reducible exact HS0.out)
      | (with_reducible exact keep4 HCH.out HLT.out HS0.out)
      | go_keep)
    (first
      | (go_at_call 103; with_reducible refine (difference_any n capx capy a b p q xs ys _ (Dg.ch HCH.out HX.out HXB.out) (Dg.ch HCH.out HY.out HYB.out) hn ha hb (by have := HS1.out; omega)).mono ?_; rintro e wq ⟨v1, rfl, ho, hCq⟩; have HO1 := Lib.hid ho; have HCQ := Lib.hid (HCH.out.step0 hCq (Nat.le_refl _)); have HSZ := Lib.hid (HCH.out.step0 hCq (Nat.le_refl _)).size; clear hCq HCH ho; have HCH := HCQ; clear HCQ)
      | (go_at_call 103; with_reducible refine (difference_any n capy capx d c q p ys xs _ (Dg.ch HCH.out HY.out HYB.out) (Dg.ch HCH.out HX.out HXB.out) hn hd hc (by have := HS2.out; omega)).mono ?_; rintro e wq2 ⟨v2, rfl, ho, hCq⟩; have HO2 := Lib.hid ho; have HCL := Lib.hid hCq; have HCQ := Lib.hid (HCH.out.step0 hCq (Nat.le_refl _)); clear hCq HCH ho; have HCH := HCQ; clear HCQ))
  have hS1 := HO1.out
  have hlt := HSZ.out
  have hU : dv xs * a - dv ys * b = U0 := by have := HS1.out; omega
  have hZ : dv ys * d - dv xs * c = Z0 := by have := HS2.out; omega
  have ho1 := HO1.out
  have ho2 := HO2.out
  rw [hU] at ho1
  rw [hZ] at ho2
  have hfar := ho1.far ho2 (Nat.le_refl _)
  have hl0 := HC0.out.size
  have hl1 := HCL.out.size
  have ho1' := (ho1.ch HCL.out (Nat.le_refl _) (fun _ _ _ q => q)).mono (Nat.le_trans hl0 (Nat.le_refl _))
  have ho2' := ho2.mono (Nat.le_trans hl0 hlt)
  have hCF := HC0.out.step0 HCH.out (Nat.le_refl _)
  clear hS1 hU hZ ho1 ho2 hl0 hl1 hlt
  go_wp2_with fail
  go_ret2
  exact Two.mk' rfl ho1' ho2' hfar hCF
set_option maxRecDepth 100000 in
set_option maxHeartbeats 1600000 in
theorem applied_true (n capx capy a b c d U0 Z0 : Nat) (p q : Option Addr) (xs ys : List Nat) (w : World) (hx : Dg w p n xs) (hy : Dg w q n ys) (hn : n ≤ 8796093022208) (ha : a < D) (hb : b < D) (hc : c < D) (hd : d < D)
    (h1 : U0 + dv xs * a = dv ys * b) (h2 : Z0 + dv ys * d = dv xs * c) :
    Calls Tryd.prog 94 #[.agg #[U a, U b, U c, U d, .bool true], .slice p n capx, .slice q n capy] w (Two w U0 Z0) := by
  have HS1 := Lib.hid h1; clear h1
  have HS2 := Lib.hid h2; clear h2
  go_enter Tryd.func94, Tryd.ntmps94
  go_wp2_with fail
  have hB0 := Blk.new w #[U a, U b, U c, U d, .bool true] 105
  have hC0 := (Ch.refl w.heap.size none1 w).alloc (Nat.le_refl _) (.cells #[U a, U b, U c, U d, .bool true] 105 (0, 0)) |>.drew
  have hx0 := Dg.ch hC0 hx (fun a ha => ⟨hx.lt_size a ha, fun q => q⟩)
  have hy0 := Dg.ch hC0 hy (fun a ha => ⟨hy.lt_size a ha, fun q => q⟩)
  have hxl := hx.lt_size
  have hyl := hy.lt_size
  clear hx hy
  obtain ⟨g, hg⟩ : ∃ g, w.heap.size = g := ⟨_, rfl⟩
  obtain ⟨W0, hW0⟩ : ∃ W, w.alloc (.cells #[U a, U b, U c, U d, .bool true] 105 (0, 0)) = W := ⟨_, rfl⟩
  rw [hW0] at hB0 hC0 hx0 hy0 ⊢
  rw [hg] at hB0 ⊢
  clear hW0
  have HS0 := Lib.hid (show W0.drew.cell? ⟨g, 0, none⟩ = some (U a) ∧ W0.drew.cell? ⟨g, 1, none⟩ = some (U b) ∧ W0.drew.cell? ⟨g, 2, none⟩ = some (U c) ∧ W0.drew.cell? ⟨g, 3, none⟩ = some (U d) from ⟨hB0.cell 0, hB0.cell 1, hB0.cell 2, hB0.cell 3⟩)
  have HLT := Lib.hid (show g < W0.drew.heap.size from hB0.lt)
  have HCH := Lib.hid (Ch.refl W0.drew.heap.size none1 W0.drew)
  have HX := Lib.hid (show Dg W0.drew p n xs from hx0)
  have HY := Lib.hid (show Dg W0.drew q n ys from hy0)
  have HXB := Lib.hid (show ∀ a, p = some a → a.block < W0.drew.heap.size ∧ ¬ none1 a.block from fun a ha => ⟨Nat.lt_of_lt_of_le (hxl a ha) hC0.size, fun q => q⟩)
  have HYB := Lib.hid (show ∀ a, q = some a → a.block < W0.drew.heap.size ∧ ¬ none1 a.block from fun a ha => ⟨Nat.lt_of_lt_of_le (hyl a ha) hC0.size, fun q => q⟩)
  have HC0 := Lib.hid (show Ch w.heap.size none1 w W0.drew from hC0)
  have HG := Lib.hid hg
  clear hB0 hC0 hx0 hy0 hxl hyl hg
  go_wp2_with fail
  go_region_held3 (fun w' => w'.cell? ⟨g, 0, none⟩ = some (U a) ∧ w'.cell? ⟨g, 1, none⟩ = some (U b) ∧ w'.cell? ⟨g, 2, none⟩ = some (U c) ∧ w'.cell? ⟨g, 3, none⟩ = some (U d))
    (first
      | (with_reducible exact HS0.out)
      | (with_reducible exact keep4 HCH.out HLT.out HS0.out)
      | go_keep)
    (first
      | (go_at_call 103; with_reducible refine (difference_any n capy capx b a q p ys xs _ (Dg.ch HCH.out HY.out HYB.out) (Dg.ch HCH.out HX.out HXB.out) hn hb ha (by have := HS1.out; omega)).mono ?_; rintro e wq ⟨v1, rfl, ho, hCq⟩; have HO1 := Lib.hid ho; have HCQ := Lib.hid (HCH.out.step0 hCq (Nat.le_refl _)); have HSZ := Lib.hid (HCH.out.step0 hCq (Nat.le_refl _)).size; clear hCq HCH ho; have HCH := HCQ; clear HCQ)
      | (go_at_call 103; with_reducible refine (difference_any n capx capy c d p q xs ys _ (Dg.ch HCH.out HX.out HXB.out) (Dg.ch HCH.out HY.out HYB.out) hn hc hd (by have := HS2.out; omega)).mono ?_; rintro e wq2 ⟨v2, rfl, ho, hCq⟩; have HO2 := Lib.hid ho; have HCL := Lib.hid hCq; have HCQ := Lib.hid (HCH.out.step0 hCq (Nat.le_refl _)); clear hCq HCH ho; have HCH := HCQ; clear HCQ))
  have hS1 := HO1.out
  have hlt := HSZ.out
  have hU : dv ys * b - dv xs * a = U0 := by have := HS1.out; omega
  have hZ : dv xs * c - dv ys * d = Z0 := by have := HS2.out; omega
  have ho1 := HO1.out
  have ho2 := HO2.out
  rw [hU] at ho1
  rw [hZ] at ho2
  have hfar := ho1.far ho2 (Nat.le_refl _)
  have hl0 := HC0.out.size
  have hl1 := HCL.out.size
  have ho1' := (ho1.ch HCL.out (Nat.le_refl _) (fun _ _ _ q => q)).mono (Nat.le_trans hl0 (Nat.le_refl _))
  have ho2' := ho2.mono (Nat.le_trans hl0 hlt)
  have hCF := HC0.out.step0 HCH.out (Nat.le_refl _)
  clear hS1 hU hZ ho1 ho2 hl0 hl1 hlt
  go_wp2_with fail
  go_ret2
  exact Two.mk' rfl ho1' ho2' hfar hCF
end Go.Proofs.YtcghnkdfhiancaaDoor
namespace Go.Proofs.YtcghnkdfhiancaaDoor
open Go.RowKit
theorem tlen_one (x : Nat) (h : 0 < x) : tlen [x] = 1 := by
  simp [tlen]; omega
/-- What reduced yields: two numbers with the same common divisors, the second one less than the second one that came in. -/
def Redu (w : World) (B X Y : Nat) (e : Ending) (w' : World) : Prop := ∃ v1 v2 X' Y', e = .returned (.tuple #[v1, v2]) ∧ OwnD w' B v1 X' ∧ OwnD w' B v2 Y' ∧ Far v1 v2 ∧ Y' < X' ∧ Y' < Y ∧ X' ≤ Y ∧ Nat.gcd X' Y' = Nat.gcd X Y ∧ Ch w.heap.size none1 w w'
theorem Redu.mk' {w w' : World} {B X Y X' Y' : Nat} {e : Ending} {v1 v2 : Value} (h : e = .returned (.tuple #[v1, v2])) (h1 : OwnD w' B v1 X') (h2 : OwnD w' B v2 Y') (h3 : Far v1 v2) (h4 : Y' < X') (h5 : Y' < Y) (h6 : X' ≤ Y) (h7 : Nat.gcd X' Y' = Nat.gcd X Y) (h8 : Ch w.heap.size none1 w w') : Redu w B X Y e w' := ⟨v1, v2, X', Y', h, h1, h2, h3, h4, h5, h6, h7, h8⟩
theorem Redu.of_div {w w1 w' : World} {B X Y : Nat} {vx vy v2 : Value} (hy : OwnD w B vy Y) (hYX : Y ≤ X) (hY : 0 < Y) (hB : B ≤ w.heap.size) (hC1 : Ch w.heap.size none1 w w1) (h2 : (X < Y ∧ v2 = vx) ∨ OwnD w' w1.heap.size v2 (X % Y)) (hC2 : Ch w1.heap.size none1 w1 w') : Redu w B X Y (.returned (.tuple #[vy, v2])) w' := by
  rcases h2 with h | h2
  · omega
  have hm := Nat.mod_lt X hY
  have hy1 := hy.ch hC1 (Nat.le_refl _) (fun _ _ _ q => q)
  exact Redu.mk' rfl (hy1.ch hC2 (Nat.le_refl _) (fun _ _ _ q => q)) (h2.mono (Nat.le_trans hB hC1.size)) (hy1.far h2 (Nat.le_refl _)) hm hm (Nat.le_refl _) (by rw [Nat.gcd_comm, ← Nat.gcd_rec, Nat.gcd_comm]) (hC1.step0 hC2 (Nat.le_refl _))
set_option maxRecDepth 100000 in
set_option maxHeartbeats 1600000 in
theorem reduced_any (vx vy : Value) (X Y B : Nat) (w : World) (hx : OwnD w B vx X) (hy : OwnD w B vy Y) (hYX : Y ≤ X) (hn : (ds X).length ≤ 8796093022208) (hm : 2 ≤ (ds Y).length) (hB : B ≤ w.heap.size) :
    Calls Tryd.prog 75 #[vx, vy] w (Redu w B X Y) := by
  have hY0 : 0 < Y := by
    rcases Nat.eq_zero_or_pos Y with h | h
    · rw [h, ds_zero] at hm; simp at hm
    · exact h
  have hml : (ds Y).length ≤ (ds X).length := (ds_len _ _).2 (Nat.lt_of_le_of_lt hYX ((ds_len _ _).1 (Nat.le_refl _)))
  have HOY := Lib.hid hy
  obtain ⟨px, cx, rfl, hdx, -, -, -⟩ := hx.dg
  obtain ⟨py, cy, rfl, hdy, -, -, -⟩ := hy.dg
  have hdiv : ∀ w1, Ch w.heap.size none1 w w1 → Calls Tryd.prog 56 #[.slice px (ds X).length cx, .slice py (ds Y).length cy] w1 (fun e w' => ∃ v1 v2, e = .returned (.tuple #[v1, v2]) ∧ OwnD w' w1.heap.size v1 (X / Y) ∧ ((X < Y ∧ v2 = .slice px (ds X).length cx) ∨ OwnD w' w1.heap.size v2 (X % Y)) ∧ Ch w1.heap.size none1 w1 w') := fun w1 hC =>
    divide_any _ _ _ _ X Y px py w1 (Dg.ch hC hdx (fun a ha => ⟨hdx.lt_size a ha, fun q => q⟩)) (Dg.ch hC hdy (fun a ha => ⟨hdy.lt_size a ha, fun q => q⟩)) hn (by omega) hY0
  have HDIV := Lib.hid hdiv; clear hdiv
  have HDX := Lib.hid hdx; clear hdx
  have HDY := Lib.hid hdy; clear hdy
  have HYX := Lib.hid hYX
  clear hx hy
  have htl := tlen_ds X
  obtain ⟨n, hnn⟩ : ∃ n, (ds X).length = n := ⟨_, rfl⟩
  obtain ⟨m, hmm⟩ : ∃ m, (ds Y).length = m := ⟨_, rfl⟩
  rw [hnn] at HDIV HDX htl hn hml ⊢
  rw [hmm] at HDIV HDY HOY hm hml ⊢
  have HTL := Lib.hid htl
  have HN := Lib.hid hnn
  have HM := Lib.hid hmm
  clear htl hnn hmm
  by_cases hnm : n = m
  · subst hnm
    go_enter Tryd.func75, Tryd.ntmps75
    go_wp2_with fail
    refine (leading_any n cx cy px py (ds X) (ds Y) w HDX.out HDY.out hn hm HTL.out (by rw [dv_ds, dv_ds]; exact HYX.out)).mono ?_
    rintro e w1 ⟨v, u, P, x, y, rfl, hC1, hv, hu, hX, hY, hx, hy⟩
    rw [dv_ds] at hX hY
    have HX := Lib.hid hX
    have HY := Lib.hid hY
    have HXP := Lib.hid hx
    have HYP := Lib.hid hy
    have HC1 := Lib.hid hC1
    clear hX hY hx hy hC1
    go_wp2_with fail
    refine (combine_any v u w1 hv hu).mono ?_
    rintro e w2 ⟨a, b, c, d, s, rfl, ha, hb, hc, hd, ⟨x', y', hL⟩, hC2⟩
    have HL := Lib.hid hL
    have HC2 := Lib.hid hC2
    clear hL hC2
    by_cases hc0 : c = 0
    · subst hc0
      go_wp2_with fail
      have hCA := (HC1.out.step0 HC2.out (Nat.le_refl _)).alloc (HC1.out.step0 HC2.out (Nat.le_refl _)).size (.cells #[U a, U b, U 0, U d, .bool s] 105 (0, 0))
      refine (HDIV.out _ hCA).mono ?_
      rintro e w3 ⟨q1, v2, rfl, -, h2, hC3⟩
      have HR := Lib.hid (Redu.of_div HOY.out HYX.out hY0 hB hCA h2 hC3)
      clear h2 hC3 hCA
      go_wp2_with fail
      go_ret2
      exact HR.out
    · have hcb := ne_bool hc0
      have hfit : a ≤ b ∧ c ≤ d ∧ d ≤ y' ∧ b + d + y' ≤ x' ∧ 1 ≤ c := by
        rcases HL.out.fit with h | h
        · omega
        · exact h
      obtain ⟨U0, Z0, hlt, hle, hgcd, hif⟩ := HL.out.st.real hfit.1 hfit.2.1 hfit.2.2.1 hfit.2.2.2.1 hfit.2.2.2.2 HX.out HY.out HXP.out HYP.out
      have HIF := Lib.hid hif
      have HGCD := Lib.hid hgcd
      have HLT := Lib.hid hlt
      have HLE := Lib.hid hle
      clear hif hgcd hlt hle hfit
      go_wp2_with fail
      have hCA := (HC1.out.step0 HC2.out (Nat.le_refl _)).alloc (HC1.out.step0 HC2.out (Nat.le_refl _)).size (.cells #[U a, U b, U c, U d, .bool s] 105 (0, 0))
      have hx3 := Dg.ch hCA HDX.out (fun a ha => ⟨HDX.out.lt_size a ha, fun q => q⟩)
      have hy3 := Dg.ch hCA HDY.out (fun a ha => ⟨HDY.out.lt_size a ha, fun q => q⟩)
      have hap : Calls Tryd.prog 94 #[.agg #[U a, U b, U c, U d, .bool s], .slice px n cx, .slice py n cy] (w2.alloc (.cells #[U a, U b, U c, U d, .bool s] 105 (0, 0))) (Two (w2.alloc (.cells #[U a, U b, U c, U d, .bool s] 105 (0, 0))) U0 Z0) := by
        have hif := HIF.out
        cases s
        · simp only [Bool.false_eq_true, if_false] at hif
          exact applied_false n cx cy a b c d U0 Z0 px py (ds X) (ds Y) _ hx3 hy3 hn ha hb hc hd (by rw [dv_ds, dv_ds, Nat.mul_comm Y, Nat.mul_comm X]; exact hif.1) (by rw [dv_ds, dv_ds, Nat.mul_comm Y, Nat.mul_comm X]; exact hif.2)
        · simp only [if_true] at hif
          exact applied_true n cx cy a b c d U0 Z0 px py (ds X) (ds Y) _ hx3 hy3 hn ha hb hc hd (by rw [dv_ds, dv_ds, Nat.mul_comm Y, Nat.mul_comm X]; exact hif.1) (by rw [dv_ds, dv_ds, Nat.mul_comm Y, Nat.mul_comm X]; exact hif.2)
      clear hx3 hy3
      refine hap.mono ?_
      rintro e w3 ⟨v1, v2, rfl, ho1, ho2, hfar, hC3⟩
      have hb3 : B ≤ (w2.alloc (.cells #[U a, U b, U c, U d, .bool s] 105 (0, 0))).heap.size := Nat.le_trans hB hCA.size
      have HR := Lib.hid (Redu.mk' (B := B) (w := w) rfl (ho1.mono hb3) (ho2.mono hb3) hfar HLT.out (Nat.lt_of_lt_of_le HLT.out HLE.out) HLE.out HGCD.out (hCA.step0 hC3 (Nat.le_refl _)))
      clear ho1 ho2 hfar hC3 hb3 hCA hap
      go_wp2_with fail
      go_ret2
      exact HR.out
  · have hne : ¬ ((n : Int) = (m : Int)) := by omega
    go_enter Tryd.func75, Tryd.ntmps75
    go_wp2_with fail
    have hCA := Ch.refl w.heap.size none1 w
    refine (HDIV.out _ hCA).mono ?_
    rintro e w3 ⟨q1, v2, rfl, -, h2, hC3⟩
    have HR := Lib.hid (Redu.of_div HOY.out HYX.out hY0 hB hCA h2 hC3)
    clear h2 hC3 hCA
    go_wp2_with fail
    go_ret2
    exact HR.out
set_option maxRecDepth 100000 in
set_option maxHeartbeats 3200000 in
/-- common: the greatest common divisor, over the memory of both. -/
theorem common_any (vx vy : Value) (X Y B : Nat) (w : World) (hx : OwnD w B vx X) (hy : OwnD w B vy Y) (hf : Far vx vy) (hn : (ds X).length ≤ 8796093022208) (hm : (ds Y).length ≤ 8796093022208) (hB : B ≤ w.heap.size) :
    Calls Tryd.prog 54 #[vx, vy] w fun e w' => ∃ v, e = .returned v ∧ RdD w' v (Nat.gcd X Y) ∧ Ch B none1 w w' := by
  have hHX := Lib.hid hx
  have hHY := Lib.hid hy
  obtain ⟨px, cx, rfl, hdx, -, -, -⟩ := hx.dg
  obtain ⟨py, cy, rfl, hdy, -, -, -⟩ := hy.dg
  have hcmp := compare_any px py _ _ cx cy _ _ w hdx hdy (tlen_ds X) (tlen_ds Y) (by omega) (by omega)
  rw [dv_ds, dv_ds] at hcmp
  have HFF := Lib.hid hf
  have HNX := Lib.hid hn
  have HMY := Lib.hid hm
  obtain ⟨n, hnn⟩ : ∃ n, (ds X).length = n := ⟨_, rfl⟩
  obtain ⟨m, hmm⟩ : ∃ m, (ds Y).length = m := ⟨_, rfl⟩
  rw [hnn] at hcmp hHX HFF ⊢
  rw [hmm] at hcmp hHY HFF ⊢
  clear hx hy hf hn hm hdx hdy hnn hmm
  by_cases hlt : X < Y
  · rw [cmpN_lt hlt] at hcmp
    have HCMP := Lib.hid hcmp; clear hcmp
    have HLE := Lib.hid (Nat.le_of_lt hlt); clear hlt
    go_enter Tryd.func54, Tryd.ntmps54
    go_wp2_with fail
    refine HCMP.out.mono ?_
    rintro e w1 ⟨rfl, hC1⟩
    have HA := Lib.hid (hHY.out.ch hC1 (Nat.le_refl _) (fun _ _ _ q => q))
    have HB := Lib.hid (hHX.out.ch hC1 (Nat.le_refl _) (fun _ _ _ q => q))
    have HF := Lib.hid HFF.out.symm
    have HLX := Lib.hid HMY.out
    have HGG := Lib.hid (Nat.gcd_comm Y X)
    have HC := Lib.hid (hC1.mono hB (fun _ _ q => q))
    have HBB := Lib.hid (Nat.le_trans hB hC1.size)
    clear hC1 HCMP hHX hHY HFF HNX HMY
    go_wp2_with fail
    obtain ⟨wo, rfl⟩ : ∃ wo : World, wo = w1 := ⟨_, rfl⟩
    go_loopg [0, 1] (X + 0) (fun gh xv yv wr => ∃ X' Y' : Nat, gh = Y' + 0 ∧ OwnD wr B xv X' ∧ OwnD wr B yv Y' ∧ Far xv yv ∧ Y' ≤ X' ∧ (ds X').length ≤ 8796093022208 ∧ Nat.gcd X' Y' = Nat.gcd X Y ∧ Ch B none1 w wr ∧ B ≤ wr.heap.size)
    case atStart => exact ⟨_, _, rfl, HA.out, HB.out, HF.out, HLE.out, HLX.out, HGG.out, HC.out, HBB.out⟩
    case round =>
      clear HA HB HF HLE HLX HGG HC HBB
      obtain ⟨X', Y', hgh, hx, hy, hf, hle, hlx, hgg, hC, hBw⟩ := hrel
      have hHX := Lib.hid hx
      have hHY := Lib.hid hy
      obtain ⟨px, cx, rfl, hdx, hcx, hcx2, -⟩ := hx.dg
      obtain ⟨py, cy, rfl, hdy, -, -, -⟩ := hy.dg
      have hml : (ds Y').length ≤ (ds X').length := (ds_len _ _).2 (Nat.lt_of_le_of_lt hle ((ds_len _ _).1 (Nat.le_refl _)))
      clear hx hy
      have HF := Lib.hid hf
      have HGG := Lib.hid hgg
      have HC := Lib.hid hC
      have HGH := Lib.hid hgh
      have HLE := Lib.hid hle
      clear hf hgg hC hgh hle
      by_cases h2 : 2 ≤ (ds Y').length
      · have hred := reduced_any _ _ X' Y' B wr hHX.out hHY.out HLE.out hlx h2 hBw
        have hred2 : ∀ e w', Redu wr B X' Y' e w' → ∃ v1 v2 X'' Y'', e = .returned (.tuple #[v1, v2]) ∧ OwnD w' B v1 X'' ∧ OwnD w' B v2 Y'' ∧ Far v1 v2 ∧ Y'' < X'' ∧ Y'' < Y' ∧ X'' ≤ Y' ∧ Nat.gcd X'' Y'' = Nat.gcd X' Y' ∧ Ch wr.heap.size none1 wr w' := fun e w' h => h
        have HRED2 := Lib.hid hred2; clear hred2
        obtain ⟨m, hmm⟩ : ∃ m, (ds Y').length = m := ⟨_, rfl⟩
        obtain ⟨n, hnn⟩ : ∃ n, (ds X').length = n := ⟨_, rfl⟩
        rw [hmm] at h2 hml hred ⊢
        rw [hnn] at hml hred hlx ⊢
        have HNN := Lib.hid hnn
        have HRED := Lib.hid hred
        clear hnn hmm hred
        go_wp2_with fail
        refine HRED.out.mono ?_
        intro e w4 hR
        obtain ⟨v1, v2, X2, Y2, rfl, ho1, ho2, hf2, hl1, hl2, hl3, hg2, hC4⟩ := HRED2.out e w4 hR
        have HO1 := Lib.hid ho1
        have HO2 := Lib.hid ho2
        have HF2 := Lib.hid hf2
        have HG2 := Lib.hid (hg2.trans HGG.out)
        have HC4 := Lib.hid (HC.out.trans (hC4.mono hBw (fun _ _ q => q)))
        have HSZ := Lib.hid (Nat.le_trans hBw hC4.size)
        clear ho1 ho2 hf2 hg2 hC4 hR
        go_wp2_with fail
        go_roundg (Y2 + 0)
        case measure => have := HGH.out; omega
        case rel =>
          refine ⟨X2, Y2, rfl, HO1.out, HO2.out, HF2.out, Nat.le_of_lt hl1, ?_, HG2.out, HC4.out, HSZ.out⟩
          have h3 : (ds X2).length ≤ (ds X').length := (ds_len _ _).2 (Nat.lt_of_le_of_lt (Nat.le_trans hl3 HLE.out) ((ds_len _ _).1 (Nat.le_refl _)))
          have := HNN.out
          omega
      · by_cases h1 : (ds Y').length = 0
        · have hY0 : Y' = 0 := by
            have h := dv_ds Y'
            rw [List.eq_nil_of_length_eq_zero h1] at h
            simpa [dv] using h.symm
          subst hY0
          rw [h1]
          have HG := Lib.hid HGG.out
          have HR := Lib.hid (RdD.of_own hHX.out)
          clear h1 h2 hml
          obtain ⟨n, hnn⟩ : ∃ n, (ds X').length = n := ⟨_, rfl⟩
          rw [hnn] at HR ⊢
          clear hnn
          go_wp2_with fail
          go_ret
          refine ⟨_, rfl, ?_, HC.out⟩
          rw [← HG.out, Nat.gcd_zero_right]
          exact HR.out
        · have h1' : (ds Y').length = 1 := by omega
          obtain ⟨hYD, hYl⟩ := ds_one Y' h1'
          have hY0 : 0 < Y' := by
            rcases Nat.eq_zero_or_pos Y' with h | h
            · rw [h, ds_zero] at h1'; simp at h1'
            · exact h
          have hn0 : 0 < (ds X').length := by omega
          obtain ⟨g, cap, post, hvx, hgB, hBx, hpl, hcm⟩ := own_blk hHX.out hn0
          simp only [Value.slice.injEq] at hvx
          obtain ⟨rfl, -, rfl⟩ := hvx
          obtain ⟨gy, oy, rfl⟩ := hdy.addr (by omega)
          have hne : g ≠ gy := HF.out _ _ _ _ _ _ rfl rfl
          have hy0 := hdy.get 0 (by omega)
          have hyv : (ds Y')[0]'(by rw [hdy.len]; omega) = Y' := by simp [hYl]
          rw [hyv, Nat.add_zero] at hy0
          have hgy := hdy.lt_size _ rfl
          rw [h1']
          have HXL := Lib.hid (show (ds X').length = (ds X').length from rfl)
          have hBx' : Blk wr g 52 ([] ++ (ds X').map U ++ post) := hBx.cast (by simp)
          have hdw := divideByWord_any (ds X').length cx Y' g 0 _ [] post (ds X') wr (dok_ds X') rfl (by omega) hY0 hYD hBx' rfl
          rw [dv_ds] at hdw
          have HDW := Lib.hid hdw
          have hmod : X' % Y' < D := Nat.lt_trans (Nat.mod_lt _ hY0) hYD
          have hcw := fun w => commonWord_any Y' (X' % Y') w hYD hmod
          have hgcd : Nat.gcd Y' (X' % Y') = Nat.gcd X Y := by rw [Nat.gcd_comm, ← Nat.gcd_rec, Nat.gcd_comm]; exact HGG.out
          rw [hgcd] at hcw
          have hG0 : Nat.gcd X Y < D ∧ 0 < Nat.gcd X Y := by
            rw [← HGG.out]
            exact ⟨Nat.lt_of_le_of_lt (Nat.gcd_le_right _ hY0) hYD, Nat.gcd_pos_of_pos_right _ hY0⟩
          have HG0 := Lib.hid hG0
          have HCW := Lib.hid hcw
          have HGY := Lib.hid hgy
          have HGB := Lib.hid hgB
          have HHY0 := Lib.hid hy0
          have HNE := Lib.hid hne
          have HBL := Lib.hid hBx.lt
          clear hdw hcw hgcd hG0 h1 h1' h2 hml hYl hdy hdx hn0 hpl hcm hBx hBx' HXL hHX hHY HF hgy hgB hyv hcx hcx2
          obtain ⟨n, hnn⟩ : ∃ n, (ds X').length = n := ⟨_, rfl⟩
          obtain ⟨r, hr⟩ : ∃ r, X' % Y' = r := ⟨_, rfl⟩
          rw [hr] at HDW HCW hmod
          rw [hnn] at HDW ⊢
          clear hnn hr
          go_wp2_with fail
          refine HDW.out.mono ?_
          rintro e w4 ⟨zs, rfl, -, -, -, -, hC4⟩
          have hy4 := (hC4.cell (p := ⟨gy, oy, none⟩) HGY.out (fun q => HNE.out q.symm)).trans HHY0.out
          have HC5 := Lib.hid (HC.out.step hC4 hB (fun k hk q => by have := HGB.out; omega))
          have hs4 := hC4.size
          clear hC4 hy0
          go_wp2_with fail
          refine (HCW.out _).mono ?_
          rintro e w5 ⟨rfl, hC6⟩
          have hnew := Blk.new w5 #[U (Nat.gcd X Y)] 52
          have hb5 : B ≤ w5.heap.size := Nat.le_trans (Nat.le_trans hBw hs4) hC6.size
          have hown : OwnD (w5.alloc (.cells #[U (Nat.gcd X Y)] 52 (0, 0))) B (.slice (some ⟨w5.heap.size, 0, none⟩) (tlen [Nat.gcd X Y]) 1) (dv [Nat.gcd X Y]) := OwnD.of_blk hnew (Dok.cons HG0.out.1 Dok.nil) rfl (by decide) hb5
          have hv1 : dv [Nat.gcd X Y] = Nat.gcd X Y := by simp [dv]
          have ht1 : tlen [Nat.gcd X Y] = 1 := tlen_one _ HG0.out.2
          rw [hv1, ht1] at hown
          have HR := Lib.hid (RdD.of_own hown)
          have HC7 := Lib.hid ((HC5.out.trans (hC6.mono (Nat.le_trans hBw hs4) (fun _ _ q => q))).alloc hb5 (.cells #[U (Nat.gcd X Y)] 52 (0, 0)))
          clear hnew hown hv1 ht1 hC6
          go_wp2_with fail
          go_ret
          exact ⟨_, rfl, HR.out, HC7.out⟩
  · obtain ⟨c, hcc, hc0⟩ := cmpN_ge (show Y ≤ X by omega)
    rw [hcc] at hcmp
    have HCMP := Lib.hid hcmp; clear hcmp hcc
    have HLE := Lib.hid (show Y ≤ X by omega); clear hlt
    go_enter Tryd.func54, Tryd.ntmps54
    go_wp2_with fail
    refine HCMP.out.mono ?_
    rintro e w1 ⟨rfl, hC1⟩
    have HA := Lib.hid (hHX.out.ch hC1 (Nat.le_refl _) (fun _ _ _ q => q))
    have HB := Lib.hid (hHY.out.ch hC1 (Nat.le_refl _) (fun _ _ _ q => q))
    have HF := Lib.hid HFF.out
    have HLX := Lib.hid HNX.out
    have HGG := Lib.hid (Nat.gcd_comm Y X)
    have HC := Lib.hid (hC1.mono hB (fun _ _ q => q))
    have HBB := Lib.hid (Nat.le_trans hB hC1.size)
    clear hC1 HCMP hHX hHY HFF HNX HMY
    go_wp2_with fail
    obtain ⟨wo, rfl⟩ : ∃ wo : World, wo = w1 := ⟨_, rfl⟩
    go_loopg [0, 1] (Y + 0) (fun gh xv yv wr => ∃ X' Y' : Nat, gh = Y' + 0 ∧ OwnD wr B xv X' ∧ OwnD wr B yv Y' ∧ Far xv yv ∧ Y' ≤ X' ∧ (ds X').length ≤ 8796093022208 ∧ Nat.gcd X' Y' = Nat.gcd X Y ∧ Ch B none1 w wr ∧ B ≤ wr.heap.size)
    case atStart => exact ⟨_, _, rfl, HA.out, HB.out, HF.out, HLE.out, HLX.out, rfl, HC.out, HBB.out⟩
    case round =>
      clear HA HB HF HLE HLX HGG HC HBB
      obtain ⟨X', Y', hgh, hx, hy, hf, hle, hlx, hgg, hC, hBw⟩ := hrel
      have hHX := Lib.hid hx
      have hHY := Lib.hid hy
      obtain ⟨px, cx, rfl, hdx, hcx, hcx2, -⟩ := hx.dg
      obtain ⟨py, cy, rfl, hdy, -, -, -⟩ := hy.dg
      have hml : (ds Y').length ≤ (ds X').length := (ds_len _ _).2 (Nat.lt_of_le_of_lt hle ((ds_len _ _).1 (Nat.le_refl _)))
      clear hx hy
      have HF := Lib.hid hf
      have HGG := Lib.hid hgg
      have HC := Lib.hid hC
      have HGH := Lib.hid hgh
      have HLE := Lib.hid hle
      clear hf hgg hC hgh hle
      by_cases h2 : 2 ≤ (ds Y').length
      · have hred := reduced_any _ _ X' Y' B wr hHX.out hHY.out HLE.out hlx h2 hBw
        have hred2 : ∀ e w', Redu wr B X' Y' e w' → ∃ v1 v2 X'' Y'', e = .returned (.tuple #[v1, v2]) ∧ OwnD w' B v1 X'' ∧ OwnD w' B v2 Y'' ∧ Far v1 v2 ∧ Y'' < X'' ∧ Y'' < Y' ∧ X'' ≤ Y' ∧ Nat.gcd X'' Y'' = Nat.gcd X' Y' ∧ Ch wr.heap.size none1 wr w' := fun e w' h => h
        have HRED2 := Lib.hid hred2; clear hred2
        obtain ⟨m, hmm⟩ : ∃ m, (ds Y').length = m := ⟨_, rfl⟩
        obtain ⟨n, hnn⟩ : ∃ n, (ds X').length = n := ⟨_, rfl⟩
        rw [hmm] at h2 hml hred ⊢
        rw [hnn] at hml hred hlx ⊢
        have HNN := Lib.hid hnn
        have HRED := Lib.hid hred
        clear hnn hmm hred
        go_wp2_with fail
        refine HRED.out.mono ?_
        intro e w4 hR
        obtain ⟨v1, v2, X2, Y2, rfl, ho1, ho2, hf2, hl1, hl2, hl3, hg2, hC4⟩ := HRED2.out e w4 hR
        have HO1 := Lib.hid ho1
        have HO2 := Lib.hid ho2
        have HF2 := Lib.hid hf2
        have HG2 := Lib.hid (hg2.trans HGG.out)
        have HC4 := Lib.hid (HC.out.trans (hC4.mono hBw (fun _ _ q => q)))
        have HSZ := Lib.hid (Nat.le_trans hBw hC4.size)
        clear ho1 ho2 hf2 hg2 hC4 hR
        go_wp2_with fail
        go_roundg (Y2 + 0)
        case measure => have := HGH.out; omega
        case rel =>
          refine ⟨X2, Y2, rfl, HO1.out, HO2.out, HF2.out, Nat.le_of_lt hl1, ?_, HG2.out, HC4.out, HSZ.out⟩
          have h3 : (ds X2).length ≤ (ds X').length := (ds_len _ _).2 (Nat.lt_of_le_of_lt (Nat.le_trans hl3 HLE.out) ((ds_len _ _).1 (Nat.le_refl _)))
          have := HNN.out
          omega
      · by_cases h1 : (ds Y').length = 0
        · have hY0 : Y' = 0 := by
            have h := dv_ds Y'
            rw [List.eq_nil_of_length_eq_zero h1] at h
            simpa [dv] using h.symm
          subst hY0
          rw [h1]
          have HG := Lib.hid HGG.out
          have HR := Lib.hid (RdD.of_own hHX.out)
          clear h1 h2 hml
          obtain ⟨n, hnn⟩ : ∃ n, (ds X').length = n := ⟨_, rfl⟩
          rw [hnn] at HR ⊢
          clear hnn
          go_wp2_with fail
          go_ret
          refine ⟨_, rfl, ?_, HC.out⟩
          rw [← HG.out, Nat.gcd_zero_right]
          exact HR.out
        · have h1' : (ds Y').length = 1 := by omega
          obtain ⟨hYD, hYl⟩ := ds_one Y' h1'
          have hY0 : 0 < Y' := by
            rcases Nat.eq_zero_or_pos Y' with h | h
            · rw [h, ds_zero] at h1'; simp at h1'
            · exact h
          have hn0 : 0 < (ds X').length := by omega
          obtain ⟨g, cap, post, hvx, hgB, hBx, hpl, hcm⟩ := own_blk hHX.out hn0
          simp only [Value.slice.injEq] at hvx
          obtain ⟨rfl, -, rfl⟩ := hvx
          obtain ⟨gy, oy, rfl⟩ := hdy.addr (by omega)
          have hne : g ≠ gy := HF.out _ _ _ _ _ _ rfl rfl
          have hy0 := hdy.get 0 (by omega)
          have hyv : (ds Y')[0]'(by rw [hdy.len]; omega) = Y' := by simp [hYl]
          rw [hyv, Nat.add_zero] at hy0
          have hgy := hdy.lt_size _ rfl
          rw [h1']
          have HXL := Lib.hid (show (ds X').length = (ds X').length from rfl)
          have hBx' : Blk wr g 52 ([] ++ (ds X').map U ++ post) := hBx.cast (by simp)
          have hdw := divideByWord_any (ds X').length cx Y' g 0 _ [] post (ds X') wr (dok_ds X') rfl (by omega) hY0 hYD hBx' rfl
          rw [dv_ds] at hdw
          have HDW := Lib.hid hdw
          have hmod : X' % Y' < D := Nat.lt_trans (Nat.mod_lt _ hY0) hYD
          have hcw := fun w => commonWord_any Y' (X' % Y') w hYD hmod
          have hgcd : Nat.gcd Y' (X' % Y') = Nat.gcd X Y := by rw [Nat.gcd_comm, ← Nat.gcd_rec, Nat.gcd_comm]; exact HGG.out
          rw [hgcd] at hcw
          have hG0 : Nat.gcd X Y < D ∧ 0 < Nat.gcd X Y := by
            rw [← HGG.out]
            exact ⟨Nat.lt_of_le_of_lt (Nat.gcd_le_right _ hY0) hYD, Nat.gcd_pos_of_pos_right _ hY0⟩
          have HG0 := Lib.hid hG0
          have HCW := Lib.hid hcw
          have HGY := Lib.hid hgy
          have HGB := Lib.hid hgB
          have HHY0 := Lib.hid hy0
          have HNE := Lib.hid hne
          have HBL := Lib.hid hBx.lt
          clear hdw hcw hgcd hG0 h1 h1' h2 hml hYl hdy hdx hn0 hpl hcm hBx hBx' HXL hHX hHY HF hgy hgB hyv hcx hcx2
          obtain ⟨n, hnn⟩ : ∃ n, (ds X').length = n := ⟨_, rfl⟩
          obtain ⟨r, hr⟩ : ∃ r, X' % Y' = r := ⟨_, rfl⟩
          rw [hr] at HDW HCW hmod
          rw [hnn] at HDW ⊢
          clear hnn hr
          go_wp2_with fail
          refine HDW.out.mono ?_
          rintro e w4 ⟨zs, rfl, -, -, -, -, hC4⟩
          have hy4 := (hC4.cell (p := ⟨gy, oy, none⟩) HGY.out (fun q => HNE.out q.symm)).trans HHY0.out
          have HC5 := Lib.hid (HC.out.step hC4 hB (fun k hk q => by have := HGB.out; omega))
          have hs4 := hC4.size
          clear hC4 hy0
          go_wp2_with fail
          refine (HCW.out _).mono ?_
          rintro e w5 ⟨rfl, hC6⟩
          have hnew := Blk.new w5 #[U (Nat.gcd X Y)] 52
          have hb5 : B ≤ w5.heap.size := Nat.le_trans (Nat.le_trans hBw hs4) hC6.size
          have hown : OwnD (w5.alloc (.cells #[U (Nat.gcd X Y)] 52 (0, 0))) B (.slice (some ⟨w5.heap.size, 0, none⟩) (tlen [Nat.gcd X Y]) 1) (dv [Nat.gcd X Y]) := OwnD.of_blk hnew (Dok.cons HG0.out.1 Dok.nil) rfl (by decide) hb5
          have hv1 : dv [Nat.gcd X Y] = Nat.gcd X Y := by simp [dv]
          have ht1 : tlen [Nat.gcd X Y] = 1 := tlen_one _ HG0.out.2
          rw [hv1, ht1] at hown
          have HR := Lib.hid (RdD.of_own hown)
          have HC7 := Lib.hid ((HC5.out.trans (hC6.mono (Nat.le_trans hBw hs4) (fun _ _ q => q))).alloc hb5 (.cells #[U (Nat.gcd X Y)] 52 (0, 0)))
          clear hnew hown hv1 ht1 hC6
          go_wp2_with fail
          go_ret
          exact ⟨_, rfl, HR.out, HC7.out⟩
set_option maxRecDepth 100000 in
set_option maxHeartbeats 1600000 in
theorem Gcd_digits (a b : List UInt8) (w : World) (ha : a.length ≤ LIM) (hb : b.length ≤ LIM) (h : ¬ (bv a < 18446744073709551616 ∧ bv b < 18446744073709551616)) :
    Calls Tryd.prog 23 #[S a, S b] w fun e w' => e = .returned (S (nb (Nat.gcd (bv a) (bv b)))) ∧ Ch w.heap.size none1 w w' := by
  have ham : a.length ≤ maxLen := by unfold LIM at ha; unfold maxLen; omega
  have hbm : b.length ≤ maxLen := by unfold LIM at hb; unfold maxLen; omega
  have hal := ds_lim a ha
  have hbl := ds_lim b hb
  have ha2 : a.length ≤ 140737488351232 := by unfold LIM at ha; omega
  have hb2 : b.length ≤ 140737488351232 := by unfold LIM at hb; omega
  go_enter Tryd.func23, Tryd.ntmps23
  go_wp2_with fail
  refine (words_no a b _ ham hbm h).mono ?_
  rintro e w' ⟨rfl, rfl⟩
  obtain ⟨w, rfl⟩ : ∃ w : World, w = w' := ⟨_, rfl⟩
  go_wp2_with fail
  refine (digitsOf_any a _ ha2).mono ?_
  rintro e w1 ⟨g1, rfl, hB1, hg1, hC1⟩
  have ho1 := OwnD.of_blk (B := w.heap.size) hB1 (dok_ds _) rfl (by unfold maxLen; omega) hg1
  rw [tlen_ds, dv_ds] at ho1
  have HO1 := Lib.hid ho1
  have HC1 := Lib.hid hC1
  clear ho1 hB1 hg1 hC1
  obtain ⟨n, hn⟩ : ∃ n, (ds (bv a)).length = n := ⟨_, rfl⟩
  have HN := Lib.hid hn
  rw [hn] at hal HO1 ⊢
  clear hn
  go_wp2_with fail
  refine (digitsOf_any b _ hb2).mono ?_
  rintro e w2 ⟨g2, rfl, hB2, hg2, hC2⟩
  have ho2 := OwnD.of_blk (B := w1.heap.size) hB2 (dok_ds _) rfl (by unfold maxLen; omega) hg2
  rw [tlen_ds, dv_ds] at ho2
  have hfar := HO1.out.far ho2 (Nat.le_refl _)
  have HO2 := Lib.hid (ho2.mono HC1.out.size)
  have HO1' := Lib.hid (HO1.out.ch hC2 (Nat.le_refl _) (fun _ _ _ q => q))
  have HF := Lib.hid hfar
  have HC2 := Lib.hid (HC1.out.step0 hC2 (Nat.le_refl _))
  clear ho2 hB2 hg2 hC2 hfar HO1 HC1
  obtain ⟨m, hm⟩ : ∃ m, (ds (bv b)).length = m := ⟨_, rfl⟩
  have HM := Lib.hid hm
  rw [hm] at hbl HO2 HF ⊢
  clear hm
  have hco := common_any _ _ (bv a) (bv b) w.heap.size w2 HO1'.out HO2.out HF.out (by rw [HN.out]; exact hal) (by rw [HM.out]; exact hbl) HC2.out.size
  have HCO := Lib.hid hco; clear hco
  go_wp2_with fail
  refine HCO.out.mono ?_
  rintro e w3 ⟨v, rfl, ⟨p, cap, rfl, hd⟩, hC3⟩
  have hgl : (ds (Nat.gcd (bv a) (bv b))).length ≤ 17592186044416 := by
    rcases Nat.eq_zero_or_pos (bv a) with h0 | h0
    · rw [h0, Nat.gcd_zero_left]
      have := HM.out
      omega
    · have h1 : (ds (Nat.gcd (bv a) (bv b))).length ≤ (ds (bv a)).length := (ds_len _ _).2 (Nat.lt_of_le_of_lt (Nat.gcd_le_left _ h0) ((ds_len _ _).1 (Nat.le_refl _)))
      have := HN.out
      omega
  have hna := natural_any p _ cap _ w3 hd hgl
  rw [dv_ds] at hna
  have HNA := Lib.hid hna
  have HC3 := Lib.hid (HC2.out.trans hC3)
  clear hna hd hC3 hgl
  obtain ⟨k, hk⟩ : ∃ k, (ds (Nat.gcd (bv a) (bv b))).length = k := ⟨_, rfl⟩
  rw [hk] at HNA ⊢
  clear hk
  go_wp2_with fail
  refine HNA.out.mono ?_
  rintro e w4 ⟨rfl, hC4⟩
  go_wp2_with fail
  go_ret
  exact ⟨rfl, HC3.out.step0 hC4 (Nat.le_refl _)⟩
theorem Gcd_any (a b : List UInt8) (w : World) (ha : a.length ≤ LIM) (hb : b.length ≤ LIM) :
    Calls Tryd.prog 23 #[S a, S b] w fun e w' => e = .returned (S (nb (Nat.gcd (bv a) (bv b)))) ∧ Ch w.heap.size none1 w w' := by
  by_cases h : bv a < 18446744073709551616 ∧ bv b < 18446744073709551616
  · exact Gcd_words a b w ha hb h.1 h.2
  · exact Gcd_digits a b w ha hb h
end Go.Proofs.YtcghnkdfhiancaaDoor
