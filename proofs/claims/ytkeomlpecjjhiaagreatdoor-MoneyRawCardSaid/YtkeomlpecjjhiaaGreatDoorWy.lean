/- MoneyParts: the core. -/
import Derived.Test.YtkeomlpecjjhiaaGreatDoorAy
import Derived.Lib.ReplaceLaws
import Derived.Lib.CountLaws
import Derived.Test.YtkeomlpecjjhiaaGreatDoorVt
namespace Go.Proofs.YtkeomlpecjjhiaaGreatDoor
open Go.RowKit
abbrev i64m (x : Int) : Prop := -9223372036854775808 ≤ x ∧ x ≤ 9223372036854775807
theorem downQ_size {a t : Rat} {K M : Nat} (ha : Szq a K) (ht : Szq t M) (h : t ≠ 0) : Szq (downQ a t) (K + M + 1 + M) := by
 unfold downQ
 exact (floor_size (ha.div ht h)).mul ht
theorem cq_size {x : Int} (hx : i64m x) : Szq ((x : Rat) * (1 / 100)) 9 := by
 refine Szq.mul (k := 8) (m := 1) ⟨?_, ?_⟩ (by constructor <;> decide +kernel)
 ·rw [Rat.num_intCast]
  have : (256 : Nat) ^ 8 = 18446744073709551616 := rfl
  have := hx.1
  have := hx.2
  omega
 ·rw [Rat.den_intCast]
  decide
theorem cq_cents {x : Int} (hx : i64m x) {s : Bool} {n d : List UInt8} (h : Is ((x : Rat) * (1 / 100)) s n d) : centsR s n d = some x := by
 unfold centsR centsQ
 rw [if_pos (rightR_of h), ratOf_is h, Rat.mul_div_cancel cent_ne, if_pos ⟨Rat.den_intCast x, by rw [Rat.num_intCast]; exact hx⟩, Rat.num_intCast]
set_option maxRecDepth 100000 in
set_option maxHeartbeats 12800000 in
theorem C_r4Of {c : Int} {r : Bool} {k f : List UInt8} (h1 : -9223372036854775808 ≤ c) (h2 : c ≤ 9223372036854775807) (ic : Is ((c : Rat) * (1 / 100)) r k f) : AnsM 14 #[.int .i64 c] (Rv r k f) := fun w ht => by
 obtain ⟨x, hx⟩ : ∃ x, nb c.natAbs = x := ⟨_, rfl⟩
 obtain ⟨M, hM⟩ : ∃ M, M = 8 := ⟨_, rfl⟩
 have lx := nbl' M hx (Nat.lt_of_lt_of_le (show c.natAbs < 256 ^ 8 by have : (256 : Nat) ^ 8 = 18446744073709551616 := rfl; omega) (Nat.pow_le_pow_right (by decide) (by omega)))
 have H1 := Lib.hid (C_rOf c h1 h2 hx)
 have hr := ratOf_is (Is.int c hx)
 obtain ⟨s, hs⟩ : ∃ s, decide (c < 0) = s := ⟨_, rfl⟩
 rw [hs] at H1 hr
 have H2 := Lib.hid C_rcent
 have H3 := Lib.hid (C_rMul (s := s) (n := x) (d := [1]) (t := false) (m := [1]) (e := [100]) (by omega) (by decide) (by decide) (by decide) hr (ratOf_is cent_is) ic)
 clear hx hM lx hr hs ic
 have HT := Lib.hid ht
 have HK := Lib.hid ((Kq.nil w).new #[.bool false, S [], S []] 26)
 obtain ⟨B, hB⟩ : ∃ B, w.heap.size = B := ⟨_, rfl⟩
 rw [hB] at HK
 have HBB := Lib.hid hB
 clear ht
 have HF1 := Lib.hid (show ∀ W, Kq w W [(B, 26, [.bool false, S [], S []])] → W.cell? ⟨B, 0, none⟩ = some (.bool false) ∧ W.cell? ⟨B, 1, none⟩ = some (S []) ∧ W.cell? ⟨B, 2, none⟩ = some (S []) from fun W h => ⟨(h.row _ mm0).cell 0, (h.row _ mm0).cell 1, (h.row _ mm0).cell 2⟩)
 obtain ⟨cc0, cc1, cc2⟩ := HF1.out _ HK.out
 go_enter Tryz.func14, Tryz.ntmps14
 go_wp2_with fail
 clear hB
 refine (H1.out _).mono ?_
 rintro e w1 ⟨rfl, hC⟩
 replace HK := Lib.hid (HK.out.on hC)
 clear hC cc0 cc1 cc2
 obtain ⟨cc0, cc1, cc2⟩ := HF1.out _ HK.out
 go_wp2_with fail
 refine (H2.out _ (HT.out.ch HK.out.ch)).mono ?_
 rintro e w2 ⟨rfl, hC⟩
 replace HK := Lib.hid (HK.out.on hC)
 clear hC cc0 cc1 cc2
 obtain ⟨cc0, cc1, cc2⟩ := HF1.out _ HK.out
 go_wp2_with fail
 refine (H3.out _).mono ?_
 rintro e w3 ⟨rfl, hC⟩
 replace HK := Lib.hid (HK.out.on hC)
 clear hC cc0 cc1 cc2
 obtain ⟨cc0, cc1, cc2⟩ := HF1.out _ HK.out
 clear cc0 cc1 cc2
 have e0 := (HK.out.row _ mm0).cell 0
 have e1 := (HK.out.row _ mm0).cell 1
 have e2 := (HK.out.row _ mm0).cell 2
 have f0 := (HK.out.row _ mm0).frozen 0
 have f1 := (HK.out.row _ mm0).frozen 1
 have f2 := (HK.out.row _ mm0).frozen 2
 simp only [List.getElem?_cons_zero, List.getElem?_cons_succ] at e0 e1 e2
 go_wp2_with fail
 have hp := HK.out.put (g := B) mm0 (by have := HBB.out; omega) (.bool r) (S k) (S f)
 refine bodyPost_ret (results_cell_row (P := Tryz.prog) rfl _ _ (B) 26 _ (0, 0) _ rfl hp.1 Tryz.underlying26 rfl (by kernel_rfl)) rfl ?_
 exact ⟨rfl, hp.2⟩
theorem abq_nonneg (q : Rat) : 0 ≤ abq q := by
 unfold abq
 split
 ·grind
 ·grind
theorem abq_size {q : Rat} {K : Nat} (h : Szq q K) : Szq (abq q) K := by
 unfold abq
 split
 ·exact h.neg
 ·exact h
theorem sgr_int (z : Int) : sgr (z : Rat) = Int.sign z := by unfold sgr; rw [Rat.num_intCast]
theorem weights3_at {xs : List (Int × Int × Int)} {t : T3} (h : t ∈ weights3 xs) : ∃ q, 0 ≤ q ∧ Szq q 16 ∧ t = pt q := by
 unfold weights3 at h
 obtain ⟨x, -, rfl⟩ := List.mem_map.1 h
 exact ⟨_, abq_nonneg _, abq_size (mdq_size _ _ _), rfl⟩
theorem weights3_len16 {xs : List (Int × Int × Int)} : ∀ t ∈ weights3 xs, t.2.1.length ≤ 16 ∧ t.2.2.length ≤ 16 := fun t ht => by
 obtain ⟨q, -, hs, rfl⟩ := weights3_at ht
 exact hs.len (pt_is q)
theorem cent_mq (s : Bool) (V : Nat) : mq s V 100 = ((sv s V : Int) : Rat) * (1 / 100) := by
 unfold mq
 rw [Rat.mkRat_eq_div]
 grind
def prt (c0 : Int) (X : List Nat) : List T3 := amts (decide (c0 < 0)) ((partsOf c0.natAbs X).map nb)
theorem prt_map (c0 : Int) (X : List Nat) : prt c0 X = (partsOf c0.natAbs X).map fun y => pt (mq (decide (c0 < 0)) y 100) := by
 unfold prt amts
 rw [List.map_map]
 congr 1
 funext y
 show pt (mq _ (bv (nb y)) 100) = _
 rw [bv_nb]
theorem prt_len (c0 : Int) (X : List Nat) : (prt c0 X).length = X.length := by rw [prt_map, List.length_map, partsOf_len]
theorem quo_frac {l : List T3} (hb : bad l = false) (hn : negs l = false) (hs : 0 < (whl l).sum) {k x : Nat} {t : T3} (ht : l[k]? = some t) (hx : (whl l)[k]? = some x) (a : Rat) : quoQ a l t = a * ((x : Rat) / ((whl l).sum : Nat)) := by
 have hm := List.mem_of_getElem? ht
 have hd := dens_pos hb
 have hxe : x = bv t.2.1 * (dens l / bv t.2.2) := by
  unfold whl at hx
  rw [List.getElem?_map, ht] at hx
  exact (Option.some.inj hx).symm
 have hq := quota_frac 1 x (whl l).sum (dens l) hs hd
 have h1 : rof t = (x : Rat) / (dens l : Rat) := by rw [rof_whl hb hn hm, hxe]
 have h2 : sumQ l = (((whl l).sum : Nat) : Rat) / (dens l : Rat) := by rw [sumQ_rsum, rsum_whl hb hn]
 unfold quoQ
 show a * rof t / sumQ l = _
 rw [h1, h2, Rat.div_def, Rat.mul_assoc, ← Rat.div_def]
 congr 1
 rw [Nat.one_mul] at hq
 rw [← hq]
 simp
end Go.Proofs.YtkeomlpecjjhiaaGreatDoor
