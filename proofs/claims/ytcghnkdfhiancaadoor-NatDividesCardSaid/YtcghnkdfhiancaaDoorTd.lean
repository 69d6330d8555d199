/- NatDivides: the walks. -/
import Derived.Test.YtcghnkdfhiancaaDoorTa
namespace Go.Proofs.YtcghnkdfhiancaaDoor
open Go.RowKit
theorem nbits_le {n k : Nat} (h : n < 256 ^ k) : nbits n ≤ 8 * k := (nbits_iff n (8 * k)).2 (by rw [Nat.pow_mul]; exact h)
theorem nbits_pos {n : Nat} (h : 0 < n) : 0 < nbits n := by
  rcases Nat.eq_zero_or_pos (nbits n) with h1 | h1
  · have := (nbits_iff n 0).1 (by omega)
    omega
  · exact h1
set_option maxRecDepth 100000 in
set_option maxHeartbeats 3200000 in
theorem div_zero (vx vy : Value) (a b : List UInt8) (w : World) (ka : a.length ≤ 40) (kb : b.length ≤ 40)
    (hma : ∀ w', Ch w.heap.size none1 w w' → Calls Tryd.prog 12 #[vx] w' (Yld w' (S a)))
    (hmb : ∀ w', Ch w.heap.size none1 w w' → Calls Tryd.prog 12 #[vy] w' (Yld w' (S b))) (ht : pow10Is w) (h0 : bv b = 0) :
    Calls Tryd.prog 9 #[vx, vy] w (Yld w (.bool true)) := by
  have la : a.length ≤ 10000 := by omega
  have lb : b.length ≤ 10000 := by omega
  have bA := bv_b ka
  have bB := bv_b kb
  have h1 := C_quo_no (a := a) lb h0
  have h2 := C_bits (k := 0) lb (by rw [h0, nbits_zero]; rfl)
  have HS := Lib.hid (sanity_all w ht)
  have HMx := Lib.hid hma
  have HMy := Lib.hid hmb
  have H1 := Lib.hid h1
  have H2 := Lib.hid h2
  clear h1 h2 hma hmb ht ka kb la lb bA bB h0
  have HC := Lib.hid (Ch.refl w.heap.size none1 w)
  go_enter Tryd.func9, Tryd.ntmps9
  go_wp2_with (first
    | (go_at_call 11; with_reducible refine (HS.out _ HC.out).mono ?_; rintro e w' ⟨rfl, hC⟩; have HC2 := Lib.hid (HC.out.trans (hC.mono HC.out.size (fun _ _ q => q))); clear hC HC; have HC := HC2; clear HC2)
    | (go_at_call 12; with_reducible refine (HMx.out _ HC.out).mono ?_; rintro e w' ⟨rfl, hC⟩; have HC2 := Lib.hid (HC.out.trans (hC.mono HC.out.size (fun _ _ q => q))); clear hC HC; have HC := HC2; clear HC2)
    | (go_at_call 12; with_reducible refine (HMy.out _ HC.out).mono ?_; rintro e w' ⟨rfl, hC⟩; have HC2 := Lib.hid (HC.out.trans (hC.mono HC.out.size (fun _ _ q => q))); clear hC HC; have HC := HC2; clear HC2)
    | (go_at_call 34; with_reducible refine (H1.out _).mono ?_; rintro e w' ⟨rfl, hC⟩; have HC2 := Lib.hid (HC.out.trans (hC.mono HC.out.size (fun _ _ q => q))); clear hC HC; have HC := HC2; clear HC2)
    | (go_at_call 31; with_reducible refine (H2.out _).mono ?_; rintro e w' ⟨rfl, hC⟩; have HC2 := Lib.hid (HC.out.trans (hC.mono HC.out.size (fun _ _ q => q))); clear hC HC; have HC := HC2; clear HC2))
  go_ret
  exact ⟨rfl, HC.out⟩
set_option maxRecDepth 100000 in
set_option maxHeartbeats 3200000 in
theorem div_none (vx vy : Value) (a b : List UInt8) (w : World) (ka : a.length ≤ 40) (kb : b.length ≤ 40)
    (hma : ∀ w', Ch w.heap.size none1 w w' → Calls Tryd.prog 12 #[vx] w' (Yld w' (S a)))
    (hmb : ∀ w', Ch w.heap.size none1 w w' → Calls Tryd.prog 12 #[vy] w' (Yld w' (S b))) (ht : pow10Is w) (h0 : 0 < bv b) (hA : bv a = 0) :
    Calls Tryd.prog 9 #[vx, vy] w (Yld w (.bool true)) := by
  have la : a.length ≤ 10000 := by omega
  have lb : b.length ≤ 10000 := by omega
  have bA := bv_b ka
  have bB := bv_b kb
  obtain ⟨q, eq, vq⟩ := has_nb (bv a / bv b)
  obtain ⟨r, er, vr⟩ := has_nb (bv a % bv b)
  obtain ⟨bq, ebq, vbq⟩ := has_nb (bv b * (bv a / bv b))
  obtain ⟨ca, eca, vca⟩ := has_nb (bv a)
  obtain ⟨mab, emab, vmab⟩ := has_nb (bv a * bv b)
  have lq := nbl _ eq (Nat.lt_of_le_of_lt (Nat.div_le_self _ _) bA) (by decide)
  have lr := nbl _ er (Nat.lt_of_le_of_lt (Nat.mod_le _ _) bA) (by decide)
  have lbq := nbl _ ebq (Nat.lt_of_le_of_lt (Nat.mul_div_le _ _) bA) (by decide)
  have lca := nbl _ eca bA (by decide)
  have lmab := nbl _ emab (mulb bA bB) (by decide)
  have hlt := Nat.mod_lt (bv a) h0
  have rq := rt_nb (bv a / bv b)
  have rr := rt_nb (bv a % bv b)
  rw [eq] at rq
  rw [er] at rr
  obtain ⟨nb', jb⟩ : ∃ k : Int, (nbits (bv b) : Int) = k := ⟨_, rfl⟩
  have j1 : 0 < nb' := by have := nbits_pos h0; omega
  have j2 : nb' ≤ 100000 := by have := nbits_le bB; omega
  have ja : (nbits (bv a) : Int) = 0 := by rw [hA, nbits_zero]; rfl
  have jab : (nbits (bv mab) : Int) = 0 := by rw [vmab, hA, Nat.zero_mul, nbits_zero]; rfl
  have h1 := C_quo eq er la lb h0 rfl rfl
  have h2 := C_bits lb jb
  have h3 := C_cmp lr lb (k := -1) (by rw [vr]; exact cmpN_lt hlt)
  have h4 := C_mul ebq lb lq (by rw [vq])
  have h5 := C_add eca lbq lr (by rw [vbq, vr]; exact Nat.div_add_mod _ _)
  have h6 := C_cmp lca la (k := 0) (cmpN_eq vca)
  have h7 := C_right lq (rightB_rt rq)
  have h8 := C_right lr (rightB_rt rr)
  have h9 := C_bits la ja
  have h10 := C_mul emab la lb rfl
  have h11 := C_bits lmab jab
  have HS := Lib.hid (sanity_all w ht)
  have HMx := Lib.hid hma
  have HMy := Lib.hid hmb
  have H1 := Lib.hid h1
  have H2 := Lib.hid h2
  have H3 := Lib.hid h3
  have H4 := Lib.hid h4
  have H5 := Lib.hid h5
  have H6 := Lib.hid h6
  have H7 := Lib.hid h7
  have H8 := Lib.hid h8
  have H9 := Lib.hid h9
  have H10 := Lib.hid h10
  have H11 := Lib.hid h11
  clear h1 h2 h3 h4 h5 h6 h7 h8 h9 h10 h11 hma hmb ht ka kb la lb bA bB h0 hlt rq rr eq vq er vr ebq vbq eca vca emab vmab lq lr lbq lca lmab jb ja jab hA
  have HC := Lib.hid (Ch.refl w.heap.size none1 w)
  go_enter Tryd.func9, Tryd.ntmps9
  go_wp2_with (first
    | (go_at_call 11; with_reducible refine (HS.out _ HC.out).mono ?_; rintro e w' ⟨rfl, hC⟩; have HC2 := Lib.hid (HC.out.trans (hC.mono HC.out.size (fun _ _ q => q))); clear hC HC; have HC := HC2; clear HC2)
    | (go_at_call 12; with_reducible refine (HMx.out _ HC.out).mono ?_; rintro e w' ⟨rfl, hC⟩; have HC2 := Lib.hid (HC.out.trans (hC.mono HC.out.size (fun _ _ q => q))); clear hC HC; have HC := HC2; clear HC2)
    | (go_at_call 12; with_reducible refine (HMy.out _ HC.out).mono ?_; rintro e w' ⟨rfl, hC⟩; have HC2 := Lib.hid (HC.out.trans (hC.mono HC.out.size (fun _ _ q => q))); clear hC HC; have HC := HC2; clear HC2)
    | (go_at_call 34; with_reducible refine (H1.out _).mono ?_; rintro e w' ⟨rfl, hC⟩; have HC2 := Lib.hid (HC.out.trans (hC.mono HC.out.size (fun _ _ q => q))); clear hC HC; have HC := HC2; clear HC2)
    | (go_at_call 31; with_reducible refine (H2.out _).mono ?_; rintro e w' ⟨rfl, hC⟩; have HC2 := Lib.hid (HC.out.trans (hC.mono HC.out.size (fun _ _ q => q))); clear hC HC; have HC := HC2; clear HC2)
    | (go_at_call 17; with_reducible refine (H3.out _).mono ?_; rintro e w' ⟨rfl, hC⟩; have HC2 := Lib.hid (HC.out.trans (hC.mono HC.out.size (fun _ _ q => q))); clear hC HC; have HC := HC2; clear HC2)
    | (go_at_call 21; with_reducible refine (H4.out _).mono ?_; rintro e w' ⟨rfl, hC⟩; have HC2 := Lib.hid (HC.out.trans (hC.mono HC.out.size (fun _ _ q => q))); clear hC HC; have HC := HC2; clear HC2)
    | (go_at_call 15; with_reducible refine (H5.out _).mono ?_; rintro e w' ⟨rfl, hC⟩; have HC2 := Lib.hid (HC.out.trans (hC.mono HC.out.size (fun _ _ q => q))); clear hC HC; have HC := HC2; clear HC2)
    | (go_at_call 17; with_reducible refine (H6.out _).mono ?_; rintro e w' ⟨rfl, hC⟩; have HC2 := Lib.hid (HC.out.trans (hC.mono HC.out.size (fun _ _ q => q))); clear hC HC; have HC := HC2; clear HC2)
    | (go_at_call 19; with_reducible refine (H7.out _).mono ?_; rintro e w' ⟨rfl, hC⟩; have HC2 := Lib.hid (HC.out.trans (hC.mono HC.out.size (fun _ _ q => q))); clear hC HC; have HC := HC2; clear HC2)
    | (go_at_call 19; with_reducible refine (H8.out _).mono ?_; rintro e w' ⟨rfl, hC⟩; have HC2 := Lib.hid (HC.out.trans (hC.mono HC.out.size (fun _ _ q => q))); clear hC HC; have HC := HC2; clear HC2)
    | (go_at_call 31; with_reducible refine (H9.out _).mono ?_; rintro e w' ⟨rfl, hC⟩; have HC2 := Lib.hid (HC.out.trans (hC.mono HC.out.size (fun _ _ q => q))); clear hC HC; have HC := HC2; clear HC2)
    | (go_at_call 21; with_reducible refine (H10.out _).mono ?_; rintro e w' ⟨rfl, hC⟩; have HC2 := Lib.hid (HC.out.trans (hC.mono HC.out.size (fun _ _ q => q))); clear hC HC; have HC := HC2; clear HC2)
    | (go_at_call 31; with_reducible refine (H11.out _).mono ?_; rintro e w' ⟨rfl, hC⟩; have HC2 := Lib.hid (HC.out.trans (hC.mono HC.out.size (fun _ _ q => q))); clear hC HC; have HC := HC2; clear HC2))
  go_ret
  exact ⟨rfl, HC.out⟩
set_option maxRecDepth 100000 in
set_option maxHeartbeats 3200000 in
theorem div_full (vx vy : Value) (a b : List UInt8) (w : World) (ka : a.length ≤ 40) (kb : b.length ≤ 40)
    (hma : ∀ w', Ch w.heap.size none1 w w' → Calls Tryd.prog 12 #[vx] w' (Yld w' (S a)))
    (hmb : ∀ w', Ch w.heap.size none1 w w' → Calls Tryd.prog 12 #[vy] w' (Yld w' (S b))) (ht : pow10Is w) (h0 : 0 < bv b) (hA : 0 < bv a) (hab : nbits (bv a * bv b) = nbits (bv a) + nbits (bv b)) :
    Calls Tryd.prog 9 #[vx, vy] w (Yld w (.bool true)) := by
  have la : a.length ≤ 10000 := by omega
  have lb : b.length ≤ 10000 := by omega
  have bA := bv_b ka
  have bB := bv_b kb
  obtain ⟨q, eq, vq⟩ := has_nb (bv a / bv b)
  obtain ⟨r, er, vr⟩ := has_nb (bv a % bv b)
  obtain ⟨bq, ebq, vbq⟩ := has_nb (bv b * (bv a / bv b))
  obtain ⟨ca, eca, vca⟩ := has_nb (bv a)
  obtain ⟨mab, emab, vmab⟩ := has_nb (bv a * bv b)
  have lq := nbl _ eq (Nat.lt_of_le_of_lt (Nat.div_le_self _ _) bA) (by decide)
  have lr := nbl _ er (Nat.lt_of_le_of_lt (Nat.mod_le _ _) bA) (by decide)
  have lbq := nbl _ ebq (Nat.lt_of_le_of_lt (Nat.mul_div_le _ _) bA) (by decide)
  have lca := nbl _ eca bA (by decide)
  have lmab := nbl _ emab (mulb bA bB) (by decide)
  have hlt := Nat.mod_lt (bv a) h0
  have rq := rt_nb (bv a / bv b)
  have rr := rt_nb (bv a % bv b)
  rw [eq] at rq
  rw [er] at rr
  obtain ⟨nb', jb⟩ : ∃ k : Int, (nbits (bv b) : Int) = k := ⟨_, rfl⟩
  obtain ⟨na', ja⟩ : ∃ k : Int, (nbits (bv a) : Int) = k := ⟨_, rfl⟩
  have j1 : 0 < nb' := by have := nbits_pos h0; omega
  have j2 : nb' ≤ 100000 := by have := nbits_le bB; omega
  have j3 : 0 < na' := by have := nbits_pos hA; omega
  have j4 : na' ≤ 100000 := by have := nbits_le bA; omega
  obtain ⟨nab, jab⟩ : ∃ k : Int, (nbits (bv mab) : Int) = k := ⟨_, rfl⟩
  have j5 : nab = na' + nb' - 0 := by rw [vmab] at jab; omega
  have h1 := C_quo eq er la lb h0 rfl rfl
  have h2 := C_bits lb jb
  have h3 := C_cmp lr lb (k := -1) (by rw [vr]; exact cmpN_lt hlt)
  have h4 := C_mul ebq lb lq (by rw [vq])
  have h5 := C_add eca lbq lr (by rw [vbq, vr]; exact Nat.div_add_mod _ _)
  have h6 := C_cmp lca la (k := 0) (cmpN_eq vca)
  have h7 := C_right lq (rightB_rt rq)
  have h8 := C_right lr (rightB_rt rr)
  have h9 := C_bits la ja
  have h10 := C_mul emab la lb rfl
  have h11 := C_bits lmab jab
  have HS := Lib.hid (sanity_all w ht)
  have HMx := Lib.hid hma
  have HMy := Lib.hid hmb
  have H1 := Lib.hid h1
  have H2 := Lib.hid h2
  have H3 := Lib.hid h3
  have H4 := Lib.hid h4
  have H5 := Lib.hid h5
  have H6 := Lib.hid h6
  have H7 := Lib.hid h7
  have H8 := Lib.hid h8
  have H9 := Lib.hid h9
  have H10 := Lib.hid h10
  have H11 := Lib.hid h11
  clear h1 h2 h3 h4 h5 h6 h7 h8 h9 h10 h11 hma hmb ht ka kb la lb bA bB h0 hlt rq rr eq vq er vr ebq vbq eca vca emab vmab lq lr lbq lca lmab jb ja jab hA hab
  have HC := Lib.hid (Ch.refl w.heap.size none1 w)
  go_enter Tryd.func9, Tryd.ntmps9
  go_wp2_with (first
    | (go_at_call 11; with_reducible refine (HS.out _ HC.out).mono ?_; rintro e w' ⟨rfl, hC⟩; have HC2 := Lib.hid (HC.out.trans (hC.mono HC.out.size (fun _ _ q => q))); clear hC HC; have HC := HC2; clear HC2)
    | (go_at_call 12; with_reducible refine (HMx.out _ HC.out).mono ?_; rintro e w' ⟨rfl, hC⟩; have HC2 := Lib.hid (HC.out.trans (hC.mono HC.out.size (fun _ _ q => q))); clear hC HC; have HC := HC2; clear HC2)
    | (go_at_call 12; with_reducible refine (HMy.out _ HC.out).mono ?_; rintro e w' ⟨rfl, hC⟩; have HC2 := Lib.hid (HC.out.trans (hC.mono HC.out.size (fun _ _ q => q))); clear hC HC; have HC := HC2; clear HC2)
    | (go_at_call 34; with_reducible refine (H1.out _).mono ?_; rintro e w' ⟨rfl, hC⟩; have HC2 := Lib.hid (HC.out.trans (hC.mono HC.out.size (fun _ _ q => q))); clear hC HC; have HC := HC2; clear HC2)
    | (go_at_call 31; with_reducible refine (H2.out _).mono ?_; rintro e w' ⟨rfl, hC⟩; have HC2 := Lib.hid (HC.out.trans (hC.mono HC.out.size (fun _ _ q => q))); clear hC HC; have HC := HC2; clear HC2)
    | (go_at_call 17; with_reducible refine (H3.out _).mono ?_; rintro e w' ⟨rfl, hC⟩; have HC2 := Lib.hid (HC.out.trans (hC.mono HC.out.size (fun _ _ q => q))); clear hC HC; have HC := HC2; clear HC2)
    | (go_at_call 21; with_reducible refine (H4.out _).mono ?_; rintro e w' ⟨rfl, hC⟩; have HC2 := Lib.hid (HC.out.trans (hC.mono HC.out.size (fun _ _ q => q))); clear hC HC; have HC := HC2; clear HC2)
    | (go_at_call 15; with_reducible refine (H5.out _).mono ?_; rintro e w' ⟨rfl, hC⟩; have HC2 := Lib.hid (HC.out.trans (hC.mono HC.out.size (fun _ _ q => q))); clear hC HC; have HC := HC2; clear HC2)
    | (go_at_call 17; with_reducible refine (H6.out _).mono ?_; rintro e w' ⟨rfl, hC⟩; have HC2 := Lib.hid (HC.out.trans (hC.mono HC.out.size (fun _ _ q => q))); clear hC HC; have HC := HC2; clear HC2)
    | (go_at_call 19; with_reducible refine (H7.out _).mono ?_; rintro e w' ⟨rfl, hC⟩; have HC2 := Lib.hid (HC.out.trans (hC.mono HC.out.size (fun _ _ q => q))); clear hC HC; have HC := HC2; clear HC2)
    | (go_at_call 19; with_reducible refine (H8.out _).mono ?_; rintro e w' ⟨rfl, hC⟩; have HC2 := Lib.hid (HC.out.trans (hC.mono HC.out.size (fun _ _ q => q))); clear hC HC; have HC := HC2; clear HC2)
    | (go_at_call 31; with_reducible refine (H9.out _).mono ?_; rintro e w' ⟨rfl, hC⟩; have HC2 := Lib.hid (HC.out.trans (hC.mono HC.out.size (fun _ _ q => q))); clear hC HC; have HC := HC2; clear HC2)
    | (go_at_call 21; with_reducible refine (H10.out _).mono ?_; rintro e w' ⟨rfl, hC⟩; have HC2 := Lib.hid (HC.out.trans (hC.mono HC.out.size (fun _ _ q => q))); clear hC HC; have HC := HC2; clear HC2)
    | (go_at_call 31; with_reducible refine (H11.out _).mono ?_; rintro e w' ⟨rfl, hC⟩; have HC2 := Lib.hid (HC.out.trans (hC.mono HC.out.size (fun _ _ q => q))); clear hC HC; have HC := HC2; clear HC2))
  go_ret
  exact ⟨rfl, HC.out⟩
set_option maxRecDepth 100000 in
set_option maxHeartbeats 3200000 in
theorem div_less (vx vy : Value) (a b : List UInt8) (w : World) (ka : a.length ≤ 40) (kb : b.length ≤ 40)
    (hma : ∀ w', Ch w.heap.size none1 w w' → Calls Tryd.prog 12 #[vx] w' (Yld w' (S a)))
    (hmb : ∀ w', Ch w.heap.size none1 w w' → Calls Tryd.prog 12 #[vy] w' (Yld w' (S b))) (ht : pow10Is w) (h0 : 0 < bv b) (hA : 0 < bv a) (hab : nbits (bv a * bv b) + 1 = nbits (bv a) + nbits (bv b)) :
    Calls Tryd.prog 9 #[vx, vy] w (Yld w (.bool true)) := by
  have la : a.length ≤ 10000 := by omega
  have lb : b.length ≤ 10000 := by omega
  have bA := bv_b ka
  have bB := bv_b kb
  obtain ⟨q, eq, vq⟩ := has_nb (bv a / bv b)
  obtain ⟨r, er, vr⟩ := has_nb (bv a % bv b)
  obtain ⟨bq, ebq, vbq⟩ := has_nb (bv b * (bv a / bv b))
  obtain ⟨ca, eca, vca⟩ := has_nb (bv a)
  obtain ⟨mab, emab, vmab⟩ := has_nb (bv a * bv b)
  have lq := nbl _ eq (Nat.lt_of_le_of_lt (Nat.div_le_self _ _) bA) (by decide)
  have lr := nbl _ er (Nat.lt_of_le_of_lt (Nat.mod_le _ _) bA) (by decide)
  have lbq := nbl _ ebq (Nat.lt_of_le_of_lt (Nat.mul_div_le _ _) bA) (by decide)
  have lca := nbl _ eca bA (by decide)
  have lmab := nbl _ emab (mulb bA bB) (by decide)
  have hlt := Nat.mod_lt (bv a) h0
  have rq := rt_nb (bv a / bv b)
  have rr := rt_nb (bv a % bv b)
  rw [eq] at rq
  rw [er] at rr
  obtain ⟨nb', jb⟩ : ∃ k : Int, (nbits (bv b) : Int) = k := ⟨_, rfl⟩
  obtain ⟨na', ja⟩ : ∃ k : Int, (nbits (bv a) : Int) = k := ⟨_, rfl⟩
  have j1 : 0 < nb' := by have := nbits_pos h0; omega
  have j2 : nb' ≤ 100000 := by have := nbits_le bB; omega
  have j3 : 0 < na' := by have := nbits_pos hA; omega
  have j4 : na' ≤ 100000 := by have := nbits_le bA; omega
  obtain ⟨nab, jab⟩ : ∃ k : Int, (nbits (bv mab) : Int) = k := ⟨_, rfl⟩
  have j5 : nab = na' + nb' - 1 := by rw [vmab] at jab; omega
  have h1 := C_quo eq er la lb h0 rfl rfl
  have h2 := C_bits lb jb
  have h3 := C_cmp lr lb (k := -1) (by rw [vr]; exact cmpN_lt hlt)
  have h4 := C_mul ebq lb lq (by rw [vq])
  have h5 := C_add eca lbq lr (by rw [vbq, vr]; exact Nat.div_add_mod _ _)
  have h6 := C_cmp lca la (k := 0) (cmpN_eq vca)
  have h7 := C_right lq (rightB_rt rq)
  have h8 := C_right lr (rightB_rt rr)
  have h9 := C_bits la ja
  have h10 := C_mul emab la lb rfl
  have h11 := C_bits lmab jab
  have HS := Lib.hid (sanity_all w ht)
  have HMx := Lib.hid hma
  have HMy := Lib.hid hmb
  have H1 := Lib.hid h1
  have H2 := Lib.hid h2
  have H3 := Lib.hid h3
  have H4 := Lib.hid h4
  have H5 := Lib.hid h5
  have H6 := Lib.hid h6
  have H7 := Lib.hid h7
  have H8 := Lib.hid h8
  have H9 := Lib.hid h9
  have H10 := Lib.hid h10
  have H11 := Lib.hid h11
  clear h1 h2 h3 h4 h5 h6 h7 h8 h9 h10 h11 hma hmb ht ka kb la lb bA bB h0 hlt rq rr eq vq er vr ebq vbq eca vca emab vmab lq lr lbq lca lmab jb ja jab hA hab
  have HC := Lib.hid (Ch.refl w.heap.size none1 w)
  go_enter Tryd.func9, Tryd.ntmps9
  go_wp2_with (first
    | (go_at_call 11; with_reducible refine (HS.out _ HC.out).mono ?_; rintro e w' ⟨rfl, hC⟩; have HC2 := Lib.hid (HC.out.trans (hC.mono HC.out.size (fun _ _ q => q))); clear hC HC; have HC := HC2; clear HC2)
    | (go_at_call 12; with_reducible refine (HMx.out _ HC.out).mono ?_; rintro e w' ⟨rfl, hC⟩; have HC2 := Lib.hid (HC.out.trans (hC.mono HC.out.size (fun _ _ q => q))); clear hC HC; have HC := HC2; clear HC2)
    | (go_at_call 12; with_reducible refine (HMy.out _ HC.out).mono ?_; rintro e w' ⟨rfl, hC⟩; have HC2 := Lib.hid (HC.out.trans (hC.mono HC.out.size (fun _ _ q => q))); clear hC HC; have HC := HC2; clear HC2)
    | (go_at_call 34; with_reducible refine (H1.out _).mono ?_; rintro e w' ⟨rfl, hC⟩; have HC2 := Lib.hid (HC.out.trans (hC.mono HC.out.size (fun _ _ q => q))); clear hC HC; have HC := HC2; clear HC2)
    | (go_at_call 31; with_reducible refine (H2.out _).mono ?_; rintro e w' ⟨rfl, hC⟩; have HC2 := Lib.hid (HC.out.trans (hC.mono HC.out.size (fun _ _ q => q))); clear hC HC; have HC := HC2; clear HC2)
    | (go_at_call 17; with_reducible refine (H3.out _).mono ?_; rintro e w' ⟨rfl, hC⟩; have HC2 := Lib.hid (HC.out.trans (hC.mono HC.out.size (fun _ _ q => q))); clear hC HC; have HC := HC2; clear HC2)
    | (go_at_call 21; with_reducible refine (H4.out _).mono ?_; rintro e w' ⟨rfl, hC⟩; have HC2 := Lib.hid (HC.out.trans (hC.mono HC.out.size (fun _ _ q => q))); clear hC HC; have HC := HC2; clear HC2)
    | (go_at_call 15; with_reducible refine (H5.out _).mono ?_; rintro e w' ⟨rfl, hC⟩; have HC2 := Lib.hid (HC.out.trans (hC.mono HC.out.size (fun _ _ q => q))); clear hC HC; have HC := HC2; clear HC2)
    | (go_at_call 17; with_reducible refine (H6.out _).mono ?_; rintro e w' ⟨rfl, hC⟩; have HC2 := Lib.hid (HC.out.trans (hC.mono HC.out.size (fun _ _ q => q))); clear hC HC; have HC := HC2; clear HC2)
    | (go_at_call 19; with_reducible refine (H7.out _).mono ?_; rintro e w' ⟨rfl, hC⟩; have HC2 := Lib.hid (HC.out.trans (hC.mono HC.out.size (fun _ _ q => q))); clear hC HC; have HC := HC2; clear HC2)
    | (go_at_call 19; with_reducible refine (H8.out _).mono ?_; rintro e w' ⟨rfl, hC⟩; have HC2 := Lib.hid (HC.out.trans (hC.mono HC.out.size (fun _ _ q => q))); clear hC HC; have HC := HC2; clear HC2)
    | (go_at_call 31; with_reducible refine (H9.out _).mono ?_; rintro e w' ⟨rfl, hC⟩; have HC2 := Lib.hid (HC.out.trans (hC.mono HC.out.size (fun _ _ q => q))); clear hC HC; have HC := HC2; clear HC2)
    | (go_at_call 21; with_reducible refine (H10.out _).mono ?_; rintro e w' ⟨rfl, hC⟩; have HC2 := Lib.hid (HC.out.trans (hC.mono HC.out.size (fun _ _ q => q))); clear hC HC; have HC := HC2; clear HC2)
    | (go_at_call 31; with_reducible refine (H11.out _).mono ?_; rintro e w' ⟨rfl, hC⟩; have HC2 := Lib.hid (HC.out.trans (hC.mono HC.out.size (fun _ _ q => q))); clear hC HC; have HC := HC2; clear HC2))
  go_ret
  exact ⟨ret_bool (show (na' + nb' - (na' + nb' - 1) == 0 || na' + nb' - (na' + nb' - 1) == 1) = true by rw [show na' + nb' - (na' + nb' - 1) = 1 by omega]; rfl), HC.out⟩
theorem divides_core (vx vy : Value) (lx ly : List UInt8) (w : World) (hx : BS w vx lx) (hy : BS w vy ly) (ht : pow10Is w) :
    Calls Tryd.prog 9 #[vx, vy] w (Yld w (.bool true)) := by
  obtain ⟨a, ka, hma⟩ := made_all vx lx w hx
  obtain ⟨b, kb, hmb⟩ := made_all vy ly w hy
  rcases Nat.eq_zero_or_pos (bv b) with h0 | h0
  · exact div_zero vx vy a b w ka kb hma hmb ht h0
  · rcases Nat.eq_zero_or_pos (bv a) with hA | hA
    · exact div_none vx vy a b w ka kb hma hmb ht h0 hA
    · rcases nbits_two _ _ hA h0 with h | h
      · exact div_full vx vy a b w ka kb hma hmb ht h0 hA h
      · exact div_less vx vy a b w ka kb hma hmb ht h0 hA h
end Go.Proofs.YtcghnkdfhiancaaDoor
