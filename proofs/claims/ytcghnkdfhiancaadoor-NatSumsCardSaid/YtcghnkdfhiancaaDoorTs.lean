/- NatSums: the walk. -/
import Derived.Test.YtcghnkdfhiancaaDoorTa
import Derived.Test.YtcghnkdfhiancaaDoorUn
import Derived.Deep.RegionHeld3
namespace Go.Proofs.YtcghnkdfhiancaaDoor
open Go.RowKit
theorem keepP {W W' : World} {B : Nat} {u v : Value} (h : Ch W.heap.size none1 W W') (hB : B < W.heap.size) (hc : W.cell? ⟨B, 0, none⟩ = some u ∧ W.cell? ⟨B, 1, none⟩ = some v) : W'.cell? ⟨B, 0, none⟩ = some u ∧ W'.cell? ⟨B, 1, none⟩ = some v :=
  ⟨(h.cell (p := ⟨B, 0, none⟩) hB (fun q => q)).trans hc.1, (h.cell (p := ⟨B, 1, none⟩) hB (fun q => q)).trans hc.2⟩
set_option maxRecDepth 100000 in
set_option maxHeartbeats 3200000 in
theorem sums_core (vx vy : Value) (lx ly : List UInt8) (w : World) (hx : BS w vx lx) (hy : BS w vy ly) (ht : pow10Is w) :
    Calls Tryd.prog 3 #[vx, vy] w (Yld w (.bool true)) := by
  obtain ⟨a, ka, hma⟩ := made_all vx lx w hx
  obtain ⟨b, kb, hmb⟩ := made_all vy ly w hy
  have HS := Lib.hid (sanity_all w ht)
  have HMx := Lib.hid hma
  have HMy := Lib.hid hmb
  clear hma hmb ht hx hy
  have hcat : (ByteArray.mk a.toArray ++ ByteArray.mk #[0]) = ByteArray.mk (a ++ [0]).toArray := by
    apply ByteArray.ext
    simp
  have HC := Lib.hid (Ch.refl w.heap.size none1 w)
  go_enter Tryd.func3, Tryd.ntmps3
  go_wp2_with (first
    | (go_at_call 11; with_reducible refine (HS.out _ HC.out).mono ?_; rintro e w' ⟨rfl, hC⟩; have HC2 := Lib.hid (HC.out.trans (hC.mono HC.out.size (fun _ _ q => q))); clear hC HC; have HC := HC2; clear HC2)
    | (go_at_call 12; with_reducible refine (HMx.out _ HC.out).mono ?_; rintro e w' ⟨rfl, hC⟩; have HC2 := Lib.hid (HC.out.trans (hC.mono HC.out.size (fun _ _ q => q))); clear hC HC; have HC := HC2; clear HC2)
    | (go_at_call 12; with_reducible refine (HMy.out _ HC.out).mono ?_; rintro e w' ⟨rfl, hC⟩; have HC2 := Lib.hid (HC.out.trans (hC.mono HC.out.size (fun _ _ q => q))); clear hC HC; have HC := HC2; clear HC2))
  clear hcat HS HMx HMy
  obtain ⟨ps, hps⟩ : ∃ ps : List (List UInt8 × List UInt8), ps = [(a, b), (b, a), (a, a), (a ++ [0], b)] := ⟨_, rfl⟩
  obtain ⟨cs, hcs⟩ : ∃ cs : List Value, cs = [S a, S b, S b, S a, S a, S a, S (a ++ [0]), S b] := ⟨_, rfl⟩
  have hpl : ps.length = 4 := by subst hps; rfl
  have hall : ∀ k (h : k < ps.length), (ps[k]).1.length ≤ 41 ∧ (ps[k]).2.length ≤ 41 ∧ cs[2 * k]? = some (S (ps[k]).1) ∧ cs[2 * k + 1]? = some (S (ps[k]).2) := by
    subst hps hcs
    intro k h
    have : k = 0 ∨ k = 1 ∨ k = 2 ∨ k = 3 := by simp at h; omega
    rcases this with rfl | rfl | rfl | rfl <;> simp <;> omega
  have hblk := Blk.new w' #[S a, S b, S b, S a, S a, S a, S (a ++ [0]), S b] 26
  have hblk2 : Blk (w'.alloc (.cells #[S a, S b, S b, S a, S a, S a, S (a ++ [0]), S b] 26 (0, 0))) w'.heap.size 26 cs := by subst hcs; exact hblk
  have hch2 := HC.out.alloc HC.out.size (.cells #[S a, S b, S b, S a, S a, S a, S (a ++ [0]), S b] 26 (0, 0))
  obtain ⟨W1, hW1⟩ : ∃ W, w'.alloc (.cells #[S a, S b, S b, S a, S a, S a, S (a ++ [0]), S b] 26 (0, 0)) = W := ⟨_, rfl⟩
  rw [hW1] at hblk2 hch2 ⊢
  obtain ⟨B, hB⟩ : ∃ B, w'.heap.size = B := ⟨_, rfl⟩
  rw [hB] at hblk2 ⊢
  have HALL := Lib.hid hall
  have HPL := Lib.hid hpl
  have KA := Lib.hid ka
  have KB := Lib.hid kb
  clear hblk hW1 hB hall hpl hps hcs HC ka kb
  go_loopw [34] (fun i wr => ∃ k : Nat, k ≤ 4 ∧ i = I k ∧ Ch w.heap.size none1 w wr ∧ Blk wr B 26 cs) (fun i _ => 4 - (intOf i).toNat)
  case atStart => exact ⟨0, Nat.zero_le _, rfl, hch2, hblk2⟩
  case round =>
    clear hch2 hblk2
    obtain ⟨k, hk, rfl, hC, hB'⟩ := hrel
    have HB := Lib.hid hB'
    have HC := Lib.hid hC
    clear hC hB'
    by_cases hlt : k < 4
    · have hkm : k < ps.length := by rw [HPL.out]; exact hlt
      have hb := HALL.out k hkm
      have c0 : wr.cell? ⟨B, 2 * k, none⟩ = some (S (ps[k]).1) := (HB.out.cell _).trans hb.2.2.1
      have c1 : wr.cell? ⟨B, 2 * k + 1, none⟩ = some (S (ps[k]).2) := (HB.out.cell _).trans hb.2.2.2
      have c0' : wr.cell? ⟨B, k * 2, none⟩ = some (S (ps[k]).1) := by rw [Nat.mul_comm]; exact c0
      have c1' : wr.cell? ⟨B, k * 2 + 1, none⟩ = some (S (ps[k]).2) := by rw [Nat.mul_comm]; exact c1
      obtain ⟨x, hx⟩ : ∃ x, (ps[k]).1 = x := ⟨_, rfl⟩
      obtain ⟨y, hy⟩ : ∃ y, (ps[k]).2 = y := ⟨_, rfl⟩
      rw [hx] at c0 c0' hb
      rw [hy] at c1 c1' hb
      have hx1 : x.length ≤ 41 := hb.1
      have hy1 : y.length ≤ 41 := hb.2.1
      clear hx hy hb
      obtain ⟨l, ok, h1, h2, _⟩ := C_sub_both (a := x) (b := y) (by omega) (by omega)
      obtain ⟨su, esu, vsu⟩ := has_nb (bv x + bv y)
      obtain ⟨cm, hcm⟩ : ∃ c, cmpN (bv x) (bv y) = c := ⟨_, rfl⟩
      have H1 := Lib.hid h1
      have H2 := Lib.hid h2
      have H3 := Lib.hid (C_add esu (show x.length ≤ 10000 by omega) (show y.length ≤ 10000 by omega) rfl)
      have H4 := Lib.hid (C_radd esu (show x.length ≤ 1000 by omega) (show y.length ≤ 1000 by omega) rfl)
      have H5 := Lib.hid (C_cmp (show x.length ≤ 10000 by omega) (show y.length ≤ 10000 by omega) hcm)
      have H6 := Lib.hid (C_rcmp (show x.length ≤ 10000 by omega) (show y.length ≤ 10000 by omega) hcm)
      clear h1 h2 esu vsu hcm
      go_wp2_with fail
      clear c0 c1 c0' c1'
      have hT0 := Blk.new wr #[S x, S y] 26
      have hB0 := HB.out.alloc (.cells #[S x, S y] 26 (0, 0))
      have hC0 := HC.out.alloc HC.out.size (.cells #[S x, S y] 26 (0, 0))
      refine (H1.out _).mono ?_
      rintro e w5 ⟨rfl, hC5⟩
      have hT5 := hC5.blk hT0 hT0.lt (fun q => q)
      have hB5 := hC5.blk hB0 hB0.lt (fun q => q)
      have HC5 := Lib.hid (hC0.step0 hC5 (Nat.le_refl _))
      obtain ⟨bt, hbt⟩ : ∃ b, wr.heap.size = b := ⟨_, rfl⟩
      rw [hbt] at hT5 ⊢
      clear hT0 hB0 hC0 hC5 hbt HB HC
      have d0 : w5.cell? ⟨bt, 0, none⟩ = some (S x) := hT5.cell 0
      have d1 : w5.cell? ⟨bt, 1, none⟩ = some (S y) := hT5.cell 1
      have HT5 := Lib.hid hT5
      have HB5 := Lib.hid hB5
      clear hT5 hB5
      go_wp2_with fail
      clear d0 d1
      refine (H2.out _).mono ?_
      rintro e w6 ⟨rfl, hC6⟩
      have hT6 := hC6.blk HT5.out HT5.out.lt (fun q => q)
      have HB6 := Lib.hid (hC6.blk HB5.out HB5.out.lt (fun q => q))
      have HC6 := Lib.hid (HC5.out.step0 hC6 (Nat.le_refl _))
      clear hC6 HC5 HT5 HB5
      have HS0 := Lib.hid (show w6.drew.cell? ⟨bt, 0, none⟩ = some (S x) ∧ w6.drew.cell? ⟨bt, 1, none⟩ = some (S y) from ⟨hT6.cell 0, hT6.cell 1⟩)
      have HLT := Lib.hid (show bt < w6.drew.heap.size from hT6.lt)
      have HX := Lib.hid (Ch.refl w6.drew.heap.size none1 w6.drew)
      clear hT6
      go_wp2_with fail
      go_region_held3 (fun w' => w'.cell? ⟨bt, 0, none⟩ = some (S x) ∧ w'.cell? ⟨bt, 1, none⟩ = some (S y))
        (first
          | (with_reducible exact HS0.out)
          | (with_reducible exact keepP HX.out HLT.out HS0.out)
          | go_keep)
        (first
          | (go_at_call 15; with_reducible refine (H3.out _).mono ?_; rintro e wq ⟨rfl, hCq⟩; have HX2 := Lib.hid (HX.out.step0 hCq (Nat.le_refl _)); clear hCq HX; have HX := HX2; clear HX2)
          | (go_at_call 16; with_reducible refine (H4.out _).mono ?_; rintro e wq ⟨rfl, hCq⟩; have HX2 := Lib.hid (HX.out.step0 hCq (Nat.le_refl _)); clear hCq HX; have HX := HX2; clear HX2)
          | (go_at_call 17; with_reducible refine (H5.out _).mono ?_; rintro e wq ⟨rfl, hCq⟩; have HX2 := Lib.hid (HX.out.step0 hCq (Nat.le_refl _)); clear hCq HX; have HX := HX2; clear HX2)
          | (go_at_call 18; with_reducible refine (H6.out _).mono ?_; rintro e wq ⟨rfl, hCq⟩; have HX2 := Lib.hid (HX.out.step0 hCq (Nat.le_refl _)); clear hCq HX; have HX := HX2; clear HX2))
      all_goals
        have HCF := Lib.hid ((HC6.out.drew).step0 HX.out (Nat.le_refl _))
        have HBF := Lib.hid (HX.out.blk HB6.out.drew HB6.out.lt (fun q => q))
        clear HX HS0 HLT HC6 HB6
        go_wp2_with fail
        go_roundw
        case rel => exact ⟨k + 1, by omega, by go_num, HCF.out, HBF.out⟩
        case measure => simp [intOf]; omega
    · obtain rfl : k = 4 := by omega
      have la : a.length ≤ 10000 := Nat.le_trans KA.out (by omega)
      have lb : b.length ≤ 10000 := Nat.le_trans KB.out (by omega)
      obtain ⟨rb, hrb⟩ : ∃ z, rightB a = z := ⟨_, rfl⟩
      obtain ⟨sab, esab, vsab⟩ := has_nb (bv a + bv b)
      have lsab := nbl 41 esab (add_bound (bv_b KA.out) (bv_b KB.out)) (by decide)
      have hrt := rt_nb (bv a + bv b)
      rw [esab] at hrt
      have G1 := Lib.hid (C_right la hrb)
      have G2 := Lib.hid (C_refRight la hrb)
      have G3 := Lib.hid (C_add esab la lb rfl)
      have G4 := Lib.hid (C_right lsab (rightB_rt hrt))
      clear la lb hrb esab vsab lsab hrt HB
      go_wp2_with (first
    | (go_at_call 19; with_reducible refine (G1.out _).mono ?_; rintro e w' ⟨rfl, hC⟩; have HC2 := Lib.hid (HC.out.trans (hC.mono HC.out.size (fun _ _ q => q))); clear hC HC; have HC := HC2; clear HC2)
    | (go_at_call 20; with_reducible refine (G2.out _).mono ?_; rintro e w' ⟨rfl, hC⟩; have HC2 := Lib.hid (HC.out.trans (hC.mono HC.out.size (fun _ _ q => q))); clear hC HC; have HC := HC2; clear HC2)
    | (go_at_call 15; with_reducible refine (G3.out _).mono ?_; rintro e w' ⟨rfl, hC⟩; have HC2 := Lib.hid (HC.out.trans (hC.mono HC.out.size (fun _ _ q => q))); clear hC HC; have HC := HC2; clear HC2)
    | (go_at_call 19; with_reducible refine (G4.out _).mono ?_; rintro e w' ⟨rfl, hC⟩; have HC2 := Lib.hid (HC.out.trans (hC.mono HC.out.size (fun _ _ q => q))); clear hC HC; have HC := HC2; clear HC2))
      go_ret
      exact ⟨rfl, HC.out⟩
end Go.Proofs.YtcghnkdfhiancaaDoor
