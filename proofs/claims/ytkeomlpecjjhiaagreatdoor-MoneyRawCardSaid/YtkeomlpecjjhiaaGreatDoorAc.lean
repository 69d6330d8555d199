/- Package money: canRound, floor, Down, Up, Near. -/
import Derived.Test.YtkeomlpecjjhiaaGreatDoorAb
namespace Go.Proofs.YtkeomlpecjjhiaaGreatDoor
open Go.RowKit
set_option maxRecDepth 100000
theorem sgr_rng (a : Rat) : -1 ≤ sgr a ∧ sgr a ≤ 1 := by
 unfold sgr
 rcases Int.lt_trichotomy a.num 0 with h | h | h
 ·rw [Int.sign_eq_neg_one_of_neg h]; decide
 ·rw [h]; decide
 ·rw [Int.sign_eq_one_of_pos h]; decide
theorem sgr_pos {q : Rat} (h : 0 < sgr q) : 0 < q := by
 have h1 : 0 < q.num := by
  rcases Int.lt_trichotomy q.num 0 with k | k | k
  ·unfold sgr at h; rw [Int.sign_eq_neg_one_of_neg k] at h; omega
  ·unfold sgr at h; rw [k] at h; simp at h
  ·exact k
 refine Rat.lt_of_le_of_ne (Rat.num_nonneg.1 (Int.le_of_lt h1)) fun e => ?_
 rw [← e] at h1
 exact absurd h1 (by decide)
theorem rt_1 : Rt [1] := nb_one ▸ rt_nb 1
theorem floor_size {q : Rat} {k : Nat} (h : Szq q k) : Szq ((q.floor : Int) : Rat) (k + 1) := by
 obtain ⟨s, n, d, iq⟩ := Is.ex q
 have hf := floor_is iq
 have hn : bv n < 256 ^ k := by rw [iq.vn]; exact h.1
 have hx : bv n / bv d + 1 < 256 ^ (k + 1) := add_bound (div_lt' hn) (by
  rcases Nat.eq_zero_or_pos k with h0 | h0
  ·subst h0
   exfalso
   have := h.2
   have h2 := rpos_den q
   rw [Nat.pow_zero] at this
   omega
  ·exact Nat.one_lt_pow (by omega) (by decide))
 have hab : ∀ (b : Bool) (x : Nat), (sv b x).natAbs = x := fun b x => by unfold sv; split <;> omega
 refine ⟨?_, ?_⟩
 ·rw [Rat.num_intCast, hf, hab]
  split <;> omega
 ·rw [Rat.den_intCast]
  exact Nat.one_lt_pow (by omega) (by decide)
def canB (s : Bool) (n d : List UInt8) (t : Bool) (m e : List UInt8) : Bool := rightR s n d && decide (0 < sgr (ratOf t m e))
set_option maxHeartbeats 3200000 in
theorem C_canRound {s t : Bool} {n d m e : List UInt8} {b : Bool} (hn : n.length ≤ 300) (hd : d.length ≤ 300) (hm : m.length ≤ 300) (he : e.length ≤ 300) (hb : canB s n d t m e = b) : AnsM 64 #[Rv s n d, Rv t m e] (.bool b) := fun w ht => by
 obtain ⟨r, hr⟩ : ∃ r, rightR s n d = r := ⟨_, rfl⟩
 obtain ⟨k, hk⟩ : ∃ k, sgr (ratOf t m e) = k := ⟨_, rfl⟩
 have H1 := Lib.hid (C_Right (s := s) (by omega) (by omega) hr)
 have H2 := Lib.hid (C_Sign (s := t) (n := m) (d := e) (by omega) (by omega) rfl hk)
 have hkr := sgr_rng (ratOf t m e)
 rw [hk] at hkr
 have hbb : b = (r && decide (0 < k)) := by rw [← hb]; unfold canB; rw [hr, hk]
 clear hb hr hk hn hd hm he
 rcases r with _ | _
 ·have HBV := Lib.hid (show false = b by rw [hbb]; rfl)
  clear hbb
  have HT := Lib.hid ht
  have HK := Lib.hid (((Kq.nil w).new #[.bool s, S n, S d] 26).new #[.bool t, S m, S e] 26)
  rw [World.size_alloc] at HK
  obtain ⟨B, hB⟩ : ∃ B, w.heap.size = B := ⟨_, rfl⟩
  rw [hB] at HK
  have HBB := Lib.hid hB
  clear ht
  have HF1 := Lib.hid (show ∀ W, Kq w W [(B + 1, 26, [.bool t, S m, S e]), (B, 26, [.bool s, S n, S d])] → W.cell? ⟨B + 1, 0, none⟩ = some (.bool t) ∧ W.cell? ⟨B + 1, 1, none⟩ = some (S m) ∧ W.cell? ⟨B + 1, 2, none⟩ = some (S e) ∧ W.cell? ⟨B, 0, none⟩ = some (.bool s) ∧ W.cell? ⟨B, 1, none⟩ = some (S n) ∧ W.cell? ⟨B, 2, none⟩ = some (S d) from fun W h => ⟨(h.row _ mm0).cell 0, (h.row _ mm0).cell 1, (h.row _ mm0).cell 2, (h.row _ mm1).cell 0, (h.row _ mm1).cell 1, (h.row _ mm1).cell 2⟩)
  obtain ⟨cc0, cc1, cc2, cc3, cc4, cc5⟩ := HF1.out _ HK.out
  go_enter Tryz.func64, Tryz.ntmps64
  go_wp2_with fail
  clear hB
  refine (H1.out _ (HT.out.ch HK.out.ch).tb).mono ?_
  rintro e w1 ⟨rfl, hC⟩
  replace HK := Lib.hid (HK.out.on hC)
  clear hC cc0 cc1 cc2 cc3 cc4 cc5
  obtain ⟨cc0, cc1, cc2, cc3, cc4, cc5⟩ := HF1.out _ HK.out
  go_wp2_with fail
  go_ret
  exact ⟨by rw [← HBV.out]; first | rfl | simp [*], HK.out.ch⟩
 ·by_cases hk0 : 0 < k
  ·have HBV := Lib.hid (show true = b by rw [hbb, decide_eq_true hk0]; rfl)
   clear hbb
   have HT := Lib.hid ht
   have HK := Lib.hid (((Kq.nil w).new #[.bool s, S n, S d] 26).new #[.bool t, S m, S e] 26)
   rw [World.size_alloc] at HK
   obtain ⟨B, hB⟩ : ∃ B, w.heap.size = B := ⟨_, rfl⟩
   rw [hB] at HK
   have HBB := Lib.hid hB
   clear ht
   have HF1 := Lib.hid (show ∀ W, Kq w W [(B + 1, 26, [.bool t, S m, S e]), (B, 26, [.bool s, S n, S d])] → W.cell? ⟨B + 1, 0, none⟩ = some (.bool t) ∧ W.cell? ⟨B + 1, 1, none⟩ = some (S m) ∧ W.cell? ⟨B + 1, 2, none⟩ = some (S e) ∧ W.cell? ⟨B, 0, none⟩ = some (.bool s) ∧ W.cell? ⟨B, 1, none⟩ = some (S n) ∧ W.cell? ⟨B, 2, none⟩ = some (S d) from fun W h => ⟨(h.row _ mm0).cell 0, (h.row _ mm0).cell 1, (h.row _ mm0).cell 2, (h.row _ mm1).cell 0, (h.row _ mm1).cell 1, (h.row _ mm1).cell 2⟩)
   obtain ⟨cc0, cc1, cc2, cc3, cc4, cc5⟩ := HF1.out _ HK.out
   go_enter Tryz.func64, Tryz.ntmps64
   go_wp2_with fail
   clear hB
   refine (H1.out _ (HT.out.ch HK.out.ch).tb).mono ?_
   rintro e w1 ⟨rfl, hC⟩
   replace HK := Lib.hid (HK.out.on hC)
   clear hC cc0 cc1 cc2 cc3 cc4 cc5
   obtain ⟨cc0, cc1, cc2, cc3, cc4, cc5⟩ := HF1.out _ HK.out
   go_wp2_with fail
   refine (H2.out _ (HT.out.ch HK.out.ch).tb).mono ?_
   rintro e w2 ⟨rfl, hC⟩
   replace HK := Lib.hid (HK.out.on hC)
   clear hC cc0 cc1 cc2 cc3 cc4 cc5
   obtain ⟨cc0, cc1, cc2, cc3, cc4, cc5⟩ := HF1.out _ HK.out
   go_wp2_with fail
   go_ret
   exact ⟨by rw [← HBV.out]; first | rfl | simp [*], HK.out.ch⟩
  ·have HBV := Lib.hid (show false = b by rw [hbb, decide_eq_false hk0]; rfl)
   clear hbb
   have HT := Lib.hid ht
   have HK := Lib.hid (((Kq.nil w).new #[.bool s, S n, S d] 26).new #[.bool t, S m, S e] 26)
   rw [World.size_alloc] at HK
   obtain ⟨B, hB⟩ : ∃ B, w.heap.size = B := ⟨_, rfl⟩
   rw [hB] at HK
   have HBB := Lib.hid hB
   clear ht
   have HF1 := Lib.hid (show ∀ W, Kq w W [(B + 1, 26, [.bool t, S m, S e]), (B, 26, [.bool s, S n, S d])] → W.cell? ⟨B + 1, 0, none⟩ = some (.bool t) ∧ W.cell? ⟨B + 1, 1, none⟩ = some (S m) ∧ W.cell? ⟨B + 1, 2, none⟩ = some (S e) ∧ W.cell? ⟨B, 0, none⟩ = some (.bool s) ∧ W.cell? ⟨B, 1, none⟩ = some (S n) ∧ W.cell? ⟨B, 2, none⟩ = some (S d) from fun W h => ⟨(h.row _ mm0).cell 0, (h.row _ mm0).cell 1, (h.row _ mm0).cell 2, (h.row _ mm1).cell 0, (h.row _ mm1).cell 1, (h.row _ mm1).cell 2⟩)
   obtain ⟨cc0, cc1, cc2, cc3, cc4, cc5⟩ := HF1.out _ HK.out
   go_enter Tryz.func64, Tryz.ntmps64
   go_wp2_with fail
   clear hB
   refine (H1.out _ (HT.out.ch HK.out.ch).tb).mono ?_
   rintro e w1 ⟨rfl, hC⟩
   replace HK := Lib.hid (HK.out.on hC)
   clear hC cc0 cc1 cc2 cc3 cc4 cc5
   obtain ⟨cc0, cc1, cc2, cc3, cc4, cc5⟩ := HF1.out _ HK.out
   go_wp2_with fail
   refine (H2.out _ (HT.out.ch HK.out.ch).tb).mono ?_
   rintro e w2 ⟨rfl, hC⟩
   replace HK := Lib.hid (HK.out.on hC)
   clear hC cc0 cc1 cc2 cc3 cc4 cc5
   obtain ⟨cc0, cc1, cc2, cc3, cc4, cc5⟩ := HF1.out _ HK.out
   go_wp2_with fail
   go_ret
   exact ⟨by rw [← HBV.out]; first | rfl | simp [*], HK.out.ch⟩
set_option maxHeartbeats 3200000 in
theorem C_floor {q : Rat} {s r : Bool} {n d k f : List UInt8} (iq : Is q s n d) (hn : n.length ≤ 900) (hd : d.length ≤ 900) (ic : Is ((q.floor : Int) : Rat) r k f) : AnsM 66 #[Rv s n d] (Rv r k f) := fun w ht => by
 have hfl := floor_is iq
 have hp := iq.pos
 obtain ⟨x, hx, vx⟩ := has_nb (bv n / bv d)
 obtain ⟨y, hy, vy⟩ := has_nb (bv n % bv d)
 obtain ⟨M, hM⟩ : ∃ M, M = 900 := ⟨_, rfl⟩
 have lx := nbl' M hx (div_lt' (bv_b (by omega)))
 have H1 := Lib.hid (C_quo (a := n) (b := d) hx hy (by omega) (by omega) hp rfl rfl)
 have hyn : y = [] ↔ bv n % bv d = 0 := by
  constructor
  ·rintro rfl
   rw [← vy]; rfl
  ·intro h
   rw [← hy, h, nb_zero]
 rcases s with _ | _
 ·rw [if_neg (by simp)] at hfl
  have H3 := Lib.hid (C_Make (s := false) (n := x) (d := [1]) (r := r) (k := k) (f := f) (by omega) (by decide) (hx ▸ rt_nb _) rt_1 (by simp) (by rw [vx, show bv [1] = 1 from rfl, mq_one, ← hfl]; exact ic))
  clear hfl hp hx vx hy vy hM lx hyn ic iq hn hd
  have HT := Lib.hid ht
  have HK := Lib.hid (((Kq.nil w).new #[.bool false, S n, S d] 26).new #[.bool false, S [], S []] 26)
  rw [World.size_alloc] at HK
  obtain ⟨B, hB⟩ : ∃ B, w.heap.size = B := ⟨_, rfl⟩
  rw [hB] at HK
  have HBB := Lib.hid hB
  clear ht
  have HF1 := Lib.hid (show ∀ W, Kq w W [(B + 1, 26, [.bool false, S [], S []]), (B, 26, [.bool false, S n, S d])] → W.cell? ⟨B + 1, 0, none⟩ = some (.bool false) ∧ W.cell? ⟨B + 1, 1, none⟩ = some (S []) ∧ W.cell? ⟨B + 1, 2, none⟩ = some (S []) ∧ W.cell? ⟨B, 0, none⟩ = some (.bool false) ∧ W.cell? ⟨B, 1, none⟩ = some (S n) ∧ W.cell? ⟨B, 2, none⟩ = some (S d) from fun W h => ⟨(h.row _ mm0).cell 0, (h.row _ mm0).cell 1, (h.row _ mm0).cell 2, (h.row _ mm1).cell 0, (h.row _ mm1).cell 1, (h.row _ mm1).cell 2⟩)
  obtain ⟨cc0, cc1, cc2, cc3, cc4, cc5⟩ := HF1.out _ HK.out
  go_enter Tryz.func66, Tryz.ntmps66
  go_wp2_with fail
  clear hB
  refine (H1.out _).mono ?_
  rintro e w1 ⟨rfl, hC⟩
  replace HK := Lib.hid (HK.out.on hC)
  clear hC cc0 cc1 cc2 cc3 cc4 cc5
  obtain ⟨cc0, cc1, cc2, cc3, cc4, cc5⟩ := HF1.out _ HK.out
  go_wp2_with fail
  refine (H3.out _).mono ?_
  rintro e w2 ⟨rfl, hC⟩
  replace HK := Lib.hid (HK.out.on hC)
  clear hC cc0 cc1 cc2 cc3 cc4 cc5
  obtain ⟨cc0, cc1, cc2, cc3, cc4, cc5⟩ := HF1.out _ HK.out
  clear cc0 cc1 cc2 cc3 cc4 cc5
  have HKO := Lib.hid (HK.out.new #[.bool r, S k, S f] 26)
  have n0 := (HKO.out.row _ mm0).cell 0
  have n1 := (HKO.out.row _ mm0).cell 1
  have n2 := (HKO.out.row _ mm0).cell 2
  have e0 := (HKO.out.row _ mm1).cell 0
  have e1 := (HKO.out.row _ mm1).cell 1
  have e2 := (HKO.out.row _ mm1).cell 2
  have f0 := (HKO.out.row _ mm1).frozen 0
  have f1 := (HKO.out.row _ mm1).frozen 1
  have f2 := (HKO.out.row _ mm1).frozen 2
  simp only [List.getElem?_cons_zero, List.getElem?_cons_succ] at n0 n1 n2 e0 e1 e2
  go_wp2_with fail
  have hp := HKO.out.put (g := B + 1) mm1 (by have := HBB.out; omega) (.bool r) (S k) (S f)
  refine bodyPost_ret (results_cell_row (P := Tryz.prog) rfl _ _ (B + 1) 26 _ (0, 0) _ rfl hp.1 Tryz.underlying26 rfl (by kernel_rfl)) rfl ?_
  exact ⟨rfl, hp.2⟩
 ·by_cases h0 : bv n % bv d = 0
  ·obtain rfl := hyn.2 h0
   rw [if_neg (by simp [h0])] at hfl
   have H3 := Lib.hid (C_Make (s := true) (n := x) (d := [1]) (r := r) (k := k) (f := f) (by omega) (by decide) (hx ▸ rt_nb _) rt_1 (by simp) (by rw [vx, show bv [1] = 1 from rfl, mq_one, ← hfl]; exact ic))
   clear hfl hp hx vx hy vy hM lx hyn ic iq hn hd h0
   have HT := Lib.hid ht
   have HK := Lib.hid (((Kq.nil w).new #[.bool true, S n, S d] 26).new #[.bool false, S [], S []] 26)
   rw [World.size_alloc] at HK
   obtain ⟨B, hB⟩ : ∃ B, w.heap.size = B := ⟨_, rfl⟩
   rw [hB] at HK
   have HBB := Lib.hid hB
   clear ht
   have HF1 := Lib.hid (show ∀ W, Kq w W [(B + 1, 26, [.bool false, S [], S []]), (B, 26, [.bool true, S n, S d])] → W.cell? ⟨B + 1, 0, none⟩ = some (.bool false) ∧ W.cell? ⟨B + 1, 1, none⟩ = some (S []) ∧ W.cell? ⟨B + 1, 2, none⟩ = some (S []) ∧ W.cell? ⟨B, 0, none⟩ = some (.bool true) ∧ W.cell? ⟨B, 1, none⟩ = some (S n) ∧ W.cell? ⟨B, 2, none⟩ = some (S d) from fun W h => ⟨(h.row _ mm0).cell 0, (h.row _ mm0).cell 1, (h.row _ mm0).cell 2, (h.row _ mm1).cell 0, (h.row _ mm1).cell 1, (h.row _ mm1).cell 2⟩)
   obtain ⟨cc0, cc1, cc2, cc3, cc4, cc5⟩ := HF1.out _ HK.out
   go_enter Tryz.func66, Tryz.ntmps66
   go_wp2_with fail
   clear hB
   refine (H1.out _).mono ?_
   rintro e w1 ⟨rfl, hC⟩
   replace HK := Lib.hid (HK.out.on hC)
   clear hC cc0 cc1 cc2 cc3 cc4 cc5
   obtain ⟨cc0, cc1, cc2, cc3, cc4, cc5⟩ := HF1.out _ HK.out
   go_wp2_with fail
   refine (H3.out _).mono ?_
   rintro e w2 ⟨rfl, hC⟩
   replace HK := Lib.hid (HK.out.on hC)
   clear hC cc0 cc1 cc2 cc3 cc4 cc5
   obtain ⟨cc0, cc1, cc2, cc3, cc4, cc5⟩ := HF1.out _ HK.out
   clear cc0 cc1 cc2 cc3 cc4 cc5
   have HKO := Lib.hid (HK.out.new #[.bool r, S k, S f] 26)
   have n0 := (HKO.out.row _ mm0).cell 0
   have n1 := (HKO.out.row _ mm0).cell 1
   have n2 := (HKO.out.row _ mm0).cell 2
   have e0 := (HKO.out.row _ mm1).cell 0
   have e1 := (HKO.out.row _ mm1).cell 1
   have e2 := (HKO.out.row _ mm1).cell 2
   have f0 := (HKO.out.row _ mm1).frozen 0
   have f1 := (HKO.out.row _ mm1).frozen 1
   have f2 := (HKO.out.row _ mm1).frozen 2
   simp only [List.getElem?_cons_zero, List.getElem?_cons_succ] at n0 n1 n2 e0 e1 e2
   go_wp2_with fail
   have hp := HKO.out.put (g := B + 1) mm1 (by have := HBB.out; omega) (.bool r) (S k) (S f)
   refine bodyPost_ret (results_cell_row (P := Tryz.prog) rfl _ _ (B + 1) 26 _ (0, 0) _ rfl hp.1 Tryz.underlying26 rfl (by kernel_rfl)) rfl ?_
   exact ⟨rfl, hp.2⟩
  ·have hy1 : ¬ y = [] := fun q => h0 (hyn.1 q)
   have hy2 : (y == []) = false := beq_no hy1
   rw [if_pos ⟨rfl, h0⟩] at hfl
   obtain ⟨x2, hx2, vx2⟩ := has_nb (bv n / bv d + 1)
   have lx2 := nbl' (M + 1) hx2 (add_bound (div_lt' (bv_b (by omega))) (Nat.one_lt_pow (by omega) (by decide)))
   have H2 := Lib.hid (C_add (a := x) (b := [1]) hx2 (by omega) (by decide) (by rw [vx]; rfl))
   have H3 := Lib.hid (C_Make (s := true) (n := x2) (d := [1]) (r := r) (k := k) (f := f) (by omega) (by decide) (hx2 ▸ rt_nb _) rt_1 (by simp) (by rw [vx2, show bv [1] = 1 from rfl, mq_one, ← hfl]; exact ic))
   clear hfl hp hx vx hy vy lx hyn ic iq hn hd h0 hx2 vx2 lx2 hM
   have HT := Lib.hid ht
   have HK := Lib.hid (((Kq.nil w).new #[.bool true, S n, S d] 26).new #[.bool false, S [], S []] 26)
   rw [World.size_alloc] at HK
   obtain ⟨B, hB⟩ : ∃ B, w.heap.size = B := ⟨_, rfl⟩
   rw [hB] at HK
   have HBB := Lib.hid hB
   clear ht
   have HF1 := Lib.hid (show ∀ W, Kq w W [(B + 1, 26, [.bool false, S [], S []]), (B, 26, [.bool true, S n, S d])] → W.cell? ⟨B + 1, 0, none⟩ = some (.bool false) ∧ W.cell? ⟨B + 1, 1, none⟩ = some (S []) ∧ W.cell? ⟨B + 1, 2, none⟩ = some (S []) ∧ W.cell? ⟨B, 0, none⟩ = some (.bool true) ∧ W.cell? ⟨B, 1, none⟩ = some (S n) ∧ W.cell? ⟨B, 2, none⟩ = some (S d) from fun W h => ⟨(h.row _ mm0).cell 0, (h.row _ mm0).cell 1, (h.row _ mm0).cell 2, (h.row _ mm1).cell 0, (h.row _ mm1).cell 1, (h.row _ mm1).cell 2⟩)
   obtain ⟨cc0, cc1, cc2, cc3, cc4, cc5⟩ := HF1.out _ HK.out
   go_enter Tryz.func66, Tryz.ntmps66
   go_wp2_with fail
   clear hB
   refine (H1.out _).mono ?_
   rintro e w1 ⟨rfl, hC⟩
   replace HK := Lib.hid (HK.out.on hC)
   clear hC cc0 cc1 cc2 cc3 cc4 cc5
   obtain ⟨cc0, cc1, cc2, cc3, cc4, cc5⟩ := HF1.out _ HK.out
   go_wp2_with fail
   refine (H2.out _).mono ?_
   rintro e w2 ⟨rfl, hC⟩
   replace HK := Lib.hid (HK.out.on hC)
   clear hC cc0 cc1 cc2 cc3 cc4 cc5
   obtain ⟨cc0, cc1, cc2, cc3, cc4, cc5⟩ := HF1.out _ HK.out
   go_wp2_with fail
   refine (H3.out _).mono ?_
   rintro e w3 ⟨rfl, hC⟩
   replace HK := Lib.hid (HK.out.on hC)
   clear hC cc0 cc1 cc2 cc3 cc4 cc5
   obtain ⟨cc0, cc1, cc2, cc3, cc4, cc5⟩ := HF1.out _ HK.out
   clear cc0 cc1 cc2 cc3 cc4 cc5
   have HKO := Lib.hid (HK.out.new #[.bool r, S k, S f] 26)
   have n0 := (HKO.out.row _ mm0).cell 0
   have n1 := (HKO.out.row _ mm0).cell 1
   have n2 := (HKO.out.row _ mm0).cell 2
   have e0 := (HKO.out.row _ mm1).cell 0
   have e1 := (HKO.out.row _ mm1).cell 1
   have e2 := (HKO.out.row _ mm1).cell 2
   have f0 := (HKO.out.row _ mm1).frozen 0
   have f1 := (HKO.out.row _ mm1).frozen 1
   have f2 := (HKO.out.row _ mm1).frozen 2
   simp only [List.getElem?_cons_zero, List.getElem?_cons_succ] at n0 n1 n2 e0 e1 e2
   go_wp2_with fail
   have hp := HKO.out.put (g := B + 1) mm1 (by have := HBB.out; omega) (.bool r) (S k) (S f)
   refine bodyPost_ret (results_cell_row (P := Tryz.prog) rfl _ _ (B + 1) 26 _ (0, 0) _ rfl hp.1 Tryz.underlying26 rfl (by kernel_rfl)) rfl ?_
   exact ⟨rfl, hp.2⟩
set_option maxHeartbeats 3200000 in
theorem C_Down_no {s t : Bool} {n d m e : List UInt8} (hn : n.length ≤ 300) (hd : d.length ≤ 300) (hm : m.length ≤ 300) (he : e.length ≤ 300) (hb : canB s n d t m e = false) : AnsM 23 #[Rv s n d, Rv t m e] (.tuple #[Rv false [] [], .bool false]) := fun w ht => by
 have H1 := Lib.hid (C_canRound hn hd hm he hb)
 clear hn hd hm he hb
 have HT := Lib.hid ht
 have HK := Lib.hid ((((Kq.nil w).new #[.bool s, S n, S d] 26).new #[.bool t, S m, S e] 26).new #[.bool false, S [], S []] 26)
 rw [World.size_alloc, World.size_alloc] at HK
 obtain ⟨B, hB⟩ : ∃ B, w.heap.size = B := ⟨_, rfl⟩
 rw [hB] at HK
 have HBB := Lib.hid hB
 clear ht
 have HF1 := Lib.hid (show ∀ W, Kq w W [(B + 1 + 1, 26, [.bool false, S [], S []]), (B + 1, 26, [.bool t, S m, S e]), (B, 26, [.bool s, S n, S d])] → W.cell? ⟨B + 1 + 1, 0, none⟩ = some (.bool false) ∧ W.cell? ⟨B + 1 + 1, 1, none⟩ = some (S []) ∧ W.cell? ⟨B + 1 + 1, 2, none⟩ = some (S []) ∧ W.cell? ⟨B + 1, 0, none⟩ = some (.bool t) ∧ W.cell? ⟨B + 1, 1, none⟩ = some (S m) ∧ W.cell? ⟨B + 1, 2, none⟩ = some (S e) ∧ W.cell? ⟨B, 0, none⟩ = some (.bool s) ∧ W.cell? ⟨B, 1, none⟩ = some (S n) ∧ W.cell? ⟨B, 2, none⟩ = some (S d) from fun W h => ⟨(h.row _ mm0).cell 0, (h.row _ mm0).cell 1, (h.row _ mm0).cell 2, (h.row _ mm1).cell 0, (h.row _ mm1).cell 1, (h.row _ mm1).cell 2, (h.row _ mm2).cell 0, (h.row _ mm2).cell 1, (h.row _ mm2).cell 2⟩)
 obtain ⟨cc0, cc1, cc2, cc3, cc4, cc5, cc6, cc7, cc8⟩ := HF1.out _ HK.out
 go_enter Tryz.func23, Tryz.ntmps23
 go_wp2_with fail
 clear hB
 refine (H1.out _ (HT.out.ch HK.out.ch)).mono ?_
 rintro e w1 ⟨rfl, hC⟩
 replace HK := Lib.hid (HK.out.on hC)
 clear hC cc0 cc1 cc2 cc3 cc4 cc5 cc6 cc7 cc8
 obtain ⟨cc0, cc1, cc2, cc3, cc4, cc5, cc6, cc7, cc8⟩ := HF1.out _ HK.out
 have f0 := (HK.out.row _ mm0).frozen 0
 have f1 := (HK.out.row _ mm0).frozen 1
 have f2 := (HK.out.row _ mm0).frozen 2
 go_wp2_with fail
 have hp := HK.out.put (g := B + 1 + 1) mm0 (by have := HBB.out; omega) (.bool false) (S []) (S [])
 refine bodyPost_ret (results_cell_row_tmp (P := Tryz.prog) rfl _ _ (B + 1 + 1) 26 _ (0, 0) _ rfl hp.1 Tryz.underlying26 rfl (by kernel_rfl)) rfl ?_
 exact ⟨rfl, hp.2⟩
set_option maxHeartbeats 3200000 in
theorem C_Near_no {s t : Bool} {n d m e : List UInt8} (hn : n.length ≤ 300) (hd : d.length ≤ 300) (hm : m.length ≤ 300) (he : e.length ≤ 300) (hb : canB s n d t m e = false) : AnsM 25 #[Rv s n d, Rv t m e] (.tuple #[Rv false [] [], .bool false]) := fun w ht => by
 have H1 := Lib.hid (C_canRound hn hd hm he hb)
 clear hn hd hm he hb
 have HT := Lib.hid ht
 have HK := Lib.hid ((((Kq.nil w).new #[.bool s, S n, S d] 26).new #[.bool t, S m, S e] 26).new #[.bool false, S [], S []] 26)
 rw [World.size_alloc, World.size_alloc] at HK
 obtain ⟨B, hB⟩ : ∃ B, w.heap.size = B := ⟨_, rfl⟩
 rw [hB] at HK
 have HBB := Lib.hid hB
 clear ht
 have HF1 := Lib.hid (show ∀ W, Kq w W [(B + 1 + 1, 26, [.bool false, S [], S []]), (B + 1, 26, [.bool t, S m, S e]), (B, 26, [.bool s, S n, S d])] → W.cell? ⟨B + 1 + 1, 0, none⟩ = some (.bool false) ∧ W.cell? ⟨B + 1 + 1, 1, none⟩ = some (S []) ∧ W.cell? ⟨B + 1 + 1, 2, none⟩ = some (S []) ∧ W.cell? ⟨B + 1, 0, none⟩ = some (.bool t) ∧ W.cell? ⟨B + 1, 1, none⟩ = some (S m) ∧ W.cell? ⟨B + 1, 2, none⟩ = some (S e) ∧ W.cell? ⟨B, 0, none⟩ = some (.bool s) ∧ W.cell? ⟨B, 1, none⟩ = some (S n) ∧ W.cell? ⟨B, 2, none⟩ = some (S d) from fun W h => ⟨(h.row _ mm0).cell 0, (h.row _ mm0).cell 1, (h.row _ mm0).cell 2, (h.row _ mm1).cell 0, (h.row _ mm1).cell 1, (h.row _ mm1).cell 2, (h.row _ mm2).cell 0, (h.row _ mm2).cell 1, (h.row _ mm2).cell 2⟩)
 obtain ⟨cc0, cc1, cc2, cc3, cc4, cc5, cc6, cc7, cc8⟩ := HF1.out _ HK.out
 go_enter Tryz.func25, Tryz.ntmps25
 go_wp2_with fail
 clear hB
 refine (H1.out _ (HT.out.ch HK.out.ch)).mono ?_
 rintro e w1 ⟨rfl, hC⟩
 replace HK := Lib.hid (HK.out.on hC)
 clear hC cc0 cc1 cc2 cc3 cc4 cc5 cc6 cc7 cc8
 obtain ⟨cc0, cc1, cc2, cc3, cc4, cc5, cc6, cc7, cc8⟩ := HF1.out _ HK.out
 have f0 := (HK.out.row _ mm0).frozen 0
 have f1 := (HK.out.row _ mm0).frozen 1
 have f2 := (HK.out.row _ mm0).frozen 2
 go_wp2_with fail
 have hp := HK.out.put (g := B + 1 + 1) mm0 (by have := HBB.out; omega) (.bool false) (S []) (S [])
 refine bodyPost_ret (results_cell_row_tmp (P := Tryz.prog) rfl _ _ (B + 1 + 1) 26 _ (0, 0) _ rfl hp.1 Tryz.underlying26 rfl (by kernel_rfl)) rfl ?_
 exact ⟨rfl, hp.2⟩
theorem can_pos {s t : Bool} {n d m e : List UInt8} (h : canB s n d t m e = true) : rightR s n d = true ∧ 0 < ratOf t m e := by
 unfold canB at h
 rw [Bool.and_eq_true] at h
 refine ⟨h.1, ?_⟩
 exact sgr_pos (of_decide_eq_true h.2)
set_option maxHeartbeats 3200000 in
theorem C_Down {s t : Bool} {n d m e : List UInt8} {r : Bool} {k f : List UInt8} {a b : Rat} (hn : n.length ≤ 300) (hd : d.length ≤ 300) (hm : m.length ≤ 300) (he : e.length ≤ 300) (hb : canB s n d t m e = true) (ra : ratOf s n d = a) (rb : ratOf t m e = b) (ic : Is (downQ a b) r k f) : AnsM 23 #[Rv s n d, Rv t m e] (.tuple #[Rv r k f, .bool true]) := fun w ht => by
 have H1 := Lib.hid (C_canRound hn hd hm he hb)
 have hpos := (can_pos hb).2
 rw [rb] at hpos
 have hne : b ≠ 0 := Ne.symm (Rat.ne_of_lt hpos)
 obtain ⟨s1, n1, d1, i1⟩ := Is.ex (a / b)
 obtain ⟨s2, n2, d2, i2⟩ := Is.ex (((a / b).floor : Int) : Rat)
 have za : Szq a 300 := by rw [← ra]; exact Szq.of_len hn hd (by omega)
 have zb : Szq b 300 := by rw [← rb]; exact Szq.of_len hm he (by omega)
 obtain ⟨l1, l2⟩ := (za.div zb hne).len i1
 have zf : Szq (((a / b).floor : Int) : Rat) 601 := floor_size (za.div zb hne)
 obtain ⟨l3, l4⟩ := zf.len i2
 have H2 := Lib.hid (C_Quo (by omega) (by omega) (by omega) (by omega) ra rb hne i1)
 have H3 := Lib.hid (C_floor i1 (by omega) (by omega) i2)
 have H4 := Lib.hid (C_Mul (s := s2) (n := n2) (d := d2) (t := t) (m := m) (e := e) (by omega) (by omega) (by omega) (by omega) (ratOf_is i2) rb ic)
 clear hb ra rb ic hpos hne i1 i2 za zb l1 l2 zf l3 l4 hn hd hm he
 have HT := Lib.hid ht
 have HK := Lib.hid ((((Kq.nil w).new #[.bool s, S n, S d] 26).new #[.bool t, S m, S e] 26).new #[.bool false, S [], S []] 26)
 rw [World.size_alloc, World.size_alloc] at HK
 obtain ⟨B, hB⟩ : ∃ B, w.heap.size = B := ⟨_, rfl⟩
 rw [hB] at HK
 have HBB := Lib.hid hB
 clear ht
 have HF1 := Lib.hid (show ∀ W, Kq w W [(B + 1 + 1, 26, [.bool false, S [], S []]), (B + 1, 26, [.bool t, S m, S e]), (B, 26, [.bool s, S n, S d])] → W.cell? ⟨B + 1 + 1, 0, none⟩ = some (.bool false) ∧ W.cell? ⟨B + 1 + 1, 1, none⟩ = some (S []) ∧ W.cell? ⟨B + 1 + 1, 2, none⟩ = some (S []) ∧ W.cell? ⟨B + 1, 0, none⟩ = some (.bool t) ∧ W.cell? ⟨B + 1, 1, none⟩ = some (S m) ∧ W.cell? ⟨B + 1, 2, none⟩ = some (S e) ∧ W.cell? ⟨B, 0, none⟩ = some (.bool s) ∧ W.cell? ⟨B, 1, none⟩ = some (S n) ∧ W.cell? ⟨B, 2, none⟩ = some (S d) from fun W h => ⟨(h.row _ mm0).cell 0, (h.row _ mm0).cell 1, (h.row _ mm0).cell 2, (h.row _ mm1).cell 0, (h.row _ mm1).cell 1, (h.row _ mm1).cell 2, (h.row _ mm2).cell 0, (h.row _ mm2).cell 1, (h.row _ mm2).cell 2⟩)
 obtain ⟨cc0, cc1, cc2, cc3, cc4, cc5, cc6, cc7, cc8⟩ := HF1.out _ HK.out
 go_enter Tryz.func23, Tryz.ntmps23
 go_wp2_with fail
 clear hB
 refine (H1.out _ (HT.out.ch HK.out.ch)).mono ?_
 rintro e w1 ⟨rfl, hC⟩
 replace HK := Lib.hid (HK.out.on hC)
 clear hC cc0 cc1 cc2 cc3 cc4 cc5 cc6 cc7 cc8
 obtain ⟨cc0, cc1, cc2, cc3, cc4, cc5, cc6, cc7, cc8⟩ := HF1.out _ HK.out
 go_wp2_with fail
 refine (H2.out _ (HT.out.ch HK.out.ch).tb).mono ?_
 rintro e w2 ⟨rfl, hC⟩
 replace HK := Lib.hid (HK.out.on hC)
 clear hC cc0 cc1 cc2 cc3 cc4 cc5 cc6 cc7 cc8
 obtain ⟨cc0, cc1, cc2, cc3, cc4, cc5, cc6, cc7, cc8⟩ := HF1.out _ HK.out
 have hall := fun o : Obj => HF1.out _ (HK.out.other o)
 have dd0 : ∀ o : Obj, (w2.alloc o).cell? ⟨B + 1 + 1, 0, none⟩ = some (.bool false) := fun o => (hall o).1
 have dd1 : ∀ o : Obj, (w2.alloc o).cell? ⟨B + 1 + 1, 1, none⟩ = some (S []) := fun o => (hall o).2.1
 have dd2 : ∀ o : Obj, (w2.alloc o).cell? ⟨B + 1 + 1, 2, none⟩ = some (S []) := fun o => (hall o).2.2.1
 have dd3 : ∀ o : Obj, (w2.alloc o).cell? ⟨B + 1, 0, none⟩ = some (.bool t) := fun o => (hall o).2.2.2.1
 have dd4 : ∀ o : Obj, (w2.alloc o).cell? ⟨B + 1, 1, none⟩ = some (S m) := fun o => (hall o).2.2.2.2.1
 have dd5 : ∀ o : Obj, (w2.alloc o).cell? ⟨B + 1, 2, none⟩ = some (S e) := fun o => (hall o).2.2.2.2.2.1
 have dd6 : ∀ o : Obj, (w2.alloc o).cell? ⟨B, 0, none⟩ = some (.bool s) := fun o => (hall o).2.2.2.2.2.2.1
 have dd7 : ∀ o : Obj, (w2.alloc o).cell? ⟨B, 1, none⟩ = some (S n) := fun o => (hall o).2.2.2.2.2.2.2.1
 have dd8 : ∀ o : Obj, (w2.alloc o).cell? ⟨B, 2, none⟩ = some (S d) := fun o => (hall o).2.2.2.2.2.2.2.2
 clear hall
 go_wp2_with fail
 have HQG := Lib.hid (show B + 1 + 1 < w2.heap.size from (HK.out.row _ mm0).lt)
 clear cc0 cc1 cc2 cc3 cc4 cc5 cc6 cc7 cc8 dd0 dd1 dd2 dd3 dd4 dd5 dd6 dd7 dd8
 have HK2 := Lib.hid (HK.out.new #[.bool s1, S n1, S d1] 26)
 obtain ⟨w3, hW⟩ : ∃ W, w2.alloc (.cells #[.bool s1, S n1, S d1] 26 (0, 0)) = W := ⟨_, rfl⟩
 rw [hW] at HK2 ⊢
 obtain ⟨Q, hA⟩ : ∃ A, w2.heap.size = A := ⟨_, rfl⟩
 rw [hA] at HK2 ⊢
 rw [hA] at HQG
 have hqg := HQG.out
 clear hA hW HK
 have HK := HK2
 clear HK2
 have HF2 := Lib.hid (show ∀ W, Kq w W [(Q, 26, [.bool s1, S n1, S d1]), (B + 1 + 1, 26, [.bool false, S [], S []]), (B + 1, 26, [.bool t, S m, S e]), (B, 26, [.bool s, S n, S d])] → W.cell? ⟨Q, 0, none⟩ = some (.bool s1) ∧ W.cell? ⟨Q, 1, none⟩ = some (S n1) ∧ W.cell? ⟨Q, 2, none⟩ = some (S d1) ∧ W.cell? ⟨B + 1 + 1, 0, none⟩ = some (.bool false) ∧ W.cell? ⟨B + 1 + 1, 1, none⟩ = some (S []) ∧ W.cell? ⟨B + 1 + 1, 2, none⟩ = some (S []) ∧ W.cell? ⟨B + 1, 0, none⟩ = some (.bool t) ∧ W.cell? ⟨B + 1, 1, none⟩ = some (S m) ∧ W.cell? ⟨B + 1, 2, none⟩ = some (S e) ∧ W.cell? ⟨B, 0, none⟩ = some (.bool s) ∧ W.cell? ⟨B, 1, none⟩ = some (S n) ∧ W.cell? ⟨B, 2, none⟩ = some (S d) from fun W h => ⟨(h.row _ mm0).cell 0, (h.row _ mm0).cell 1, (h.row _ mm0).cell 2, (h.row _ mm1).cell 0, (h.row _ mm1).cell 1, (h.row _ mm1).cell 2, (h.row _ mm2).cell 0, (h.row _ mm2).cell 1, (h.row _ mm2).cell 2, (h.row _ mm3).cell 0, (h.row _ mm3).cell 1, (h.row _ mm3).cell 2⟩)
 obtain ⟨cc0, cc1, cc2, cc3, cc4, cc5, cc6, cc7, cc8, cc9, cc10, cc11⟩ := HF2.out _ HK.out
 clear cc0 cc1 cc2 cc3 cc4 cc5 cc6 cc7 cc8 cc9 cc10 cc11
 replace HK := Lib.hid HK.out.drew
 have HN0 := Lib.hid (show Q ≠ B + 1 + 1 by omega)
 have HN1 := Lib.hid (show B + 1 ≠ B + 1 + 1 by omega)
 have HCC := Lib.hid (show ∀ W, Kq w W [(Q, 26, [.bool s1, S n1, S d1]), (B + 1 + 1, 26, [.bool false, S [], S []]), (B + 1, 26, [.bool t, S m, S e]), (B, 26, [.bool s, S n, S d])] → W.cell? ⟨Q, 0, none⟩ = some (.bool s1) ∧ W.cell? ⟨Q, 1, none⟩ = some (S n1) ∧ W.cell? ⟨Q, 2, none⟩ = some (S d1) ∧ W.cell? ⟨B + 1, 0, none⟩ = some (.bool t) ∧ W.cell? ⟨B + 1, 1, none⟩ = some (S m) ∧ W.cell? ⟨B + 1, 2, none⟩ = some (S e) from fun W h => ⟨(h.row _ mm0).cell 0, (h.row _ mm0).cell 1, (h.row _ mm0).cell 2, (h.row _ mm2).cell 0, (h.row _ mm2).cell 1, (h.row _ mm2).cell 2⟩)
 go_region_held3 (fun w' => w'.cell? ⟨Q, 0, none⟩ = some (.bool s1) ∧ w'.cell? ⟨Q, 1, none⟩ = some (S n1) ∧ w'.cell? ⟨Q, 2, none⟩ = some (S d1) ∧ w'.cell? ⟨B + 1, 0, none⟩ = some (.bool t) ∧ w'.cell? ⟨B + 1, 1, none⟩ = some (S m) ∧ w'.cell? ⟨B + 1, 2, none⟩ = some (S e))
  (first
   | (with_reducible exact HCC.out _ HK.out)
   | (exact ⟨(HK.out.cellsp (g := Q) (r := B + 1 + 1) mm0 HN0.out _ _ _).1, (HK.out.cellsp (g := Q) (r := B + 1 + 1) mm0 HN0.out _ _ _).2.1, (HK.out.cellsp (g := Q) (r := B + 1 + 1) mm0 HN0.out _ _ _).2.2, (HK.out.cellsp (g := B + 1) (r := B + 1 + 1) mm2 HN1.out _ _ _).1, (HK.out.cellsp (g := B + 1) (r := B + 1 + 1) mm2 HN1.out _ _ _).2.1, (HK.out.cellsp (g := B + 1) (r := B + 1 + 1) mm2 HN1.out _ _ _).2.2⟩)
   | go_keep)
  (first
   | (go_at_call 66; (with_reducible refine (H3.out _ (HT.out.ch HK.out.ch)).mono ?_); rintro e wq ⟨rfl, hCq⟩; replace HK := Lib.hid (HK.out.on hCq); clear hCq)
   | (go_at_call 59; (with_reducible refine (H4.out _ (HT.out.ch HK.out.ch).tb).mono ?_); rintro e wq ⟨rfl, hCq⟩; replace HK := Lib.hid (HK.out.on hCq); clear hCq; have e0 := (HK.out.row _ mm1).cell 0; have e1 := (HK.out.row _ mm1).cell 1; have e2 := (HK.out.row _ mm1).cell 2; have f0 := (HK.out.row _ mm1).frozen 0; have f1 := (HK.out.row _ mm1).frozen 1; have f2 := (HK.out.row _ mm1).frozen 2; simp only [List.getElem?_cons_zero, List.getElem?_cons_succ] at e0 e1 e2))
 go_wp2_with fail
 have hp := HK.out.put (g := B + 1 + 1) mm1 (by have := HBB.out; omega) (.bool r) (S k) (S f)
 refine bodyPost_ret (results_cell_row_tmp (P := Tryz.prog) rfl _ _ (B + 1 + 1) 26 _ (0, 0) _ rfl hp.1 Tryz.underlying26 rfl (by kernel_rfl)) rfl ?_
 exact ⟨rfl, hp.2⟩
def nearQ (a t : Rat) : Rat := downQ (a + t * (1 / 2)) t
set_option maxHeartbeats 3200000 in
theorem C_Near {s t : Bool} {n d m e : List UInt8} {r : Bool} {k f : List UInt8} {a b : Rat} (hn : n.length ≤ 60) (hd : d.length ≤ 60) (hm : m.length ≤ 60) (he : e.length ≤ 60) (hb : canB s n d t m e = true) (ra : ratOf s n d = a) (rb : ratOf t m e = b) (ic : Is (nearQ a b) r k f) : AnsM 25 #[Rv s n d, Rv t m e] (.tuple #[Rv r k f, .bool true]) := fun w ht => by
 have H1 := Lib.hid (C_canRound (s := s) (n := n) (d := d) (t := t) (m := m) (e := e) (by omega) (by omega) (by omega) (by omega) hb)
 obtain ⟨s1, n1, d1, i1⟩ := Is.ex (b * (1 / 2))
 obtain ⟨s2, n2, d2, i2⟩ := Is.ex (a + b * (1 / 2))
 have za : Szq a 60 := by rw [← ra]; exact Szq.of_len hn hd (by omega)
 have zb : Szq b 60 := by rw [← rb]; exact Szq.of_len hm he (by omega)
 have zc : Szq (1 / 2 : Rat) 1 := by constructor <;> decide +kernel
 obtain ⟨l1, l2⟩ := (zb.mul zc).len i1
 obtain ⟨l3, l4⟩ := (za.add (zb.mul zc)).len i2
 have hb2 : canB s2 n2 d2 t m e = true := by
  unfold canB at hb ⊢
  rw [Bool.and_eq_true] at hb ⊢
  exact ⟨rightR_of i2, hb.2⟩
 have H2 := Lib.hid (C_Mul (s := t) (n := m) (d := e) (t := false) (m := [1]) (e := [2]) (by omega) (by omega) (by decide) (by decide) rb (ratOf_is half_is) i1)
 have H3 := Lib.hid (C_Add (s := s) (n := n) (d := d) (t := s1) (m := n1) (e := d1) (by omega) (by omega) (by omega) (by omega) ra (ratOf_is i1) i2)
 have H4 := Lib.hid (C_Down (s := s2) (n := n2) (d := d2) (t := t) (m := m) (e := e) (by omega) (by omega) (by omega) (by omega) hb2 (ratOf_is i2) rb ic)
 clear hb hb2 ra rb ic i1 i2 za zb zc l1 l2 l3 l4 hn hd hm he
 have HT := Lib.hid ht
 have HK := Lib.hid (((((Kq.nil w).add ht.half).new #[.bool s, S n, S d] 26).new #[.bool t, S m, S e] 26).new #[.bool false, S [], S []] 26)
 rw [World.size_alloc, World.size_alloc] at HK
 have hgh := ht.half.lt
 obtain ⟨B, hB⟩ : ∃ B, w.heap.size = B := ⟨_, rfl⟩
 rw [hB] at HK hgh
 have HBB := Lib.hid hB
 clear ht
 have HF1 := Lib.hid (show ∀ W, Kq w W [(B + 1 + 1, 26, [.bool false, S [], S []]), (B + 1, 26, [.bool t, S m, S e]), (B, 26, [.bool s, S n, S d]), (1, 26, [.bool false, S [1], S [2]])] → W.cell? ⟨B + 1 + 1, 0, none⟩ = some (.bool false) ∧ W.cell? ⟨B + 1 + 1, 1, none⟩ = some (S []) ∧ W.cell? ⟨B + 1 + 1, 2, none⟩ = some (S []) ∧ W.cell? ⟨B + 1, 0, none⟩ = some (.bool t) ∧ W.cell? ⟨B + 1, 1, none⟩ = some (S m) ∧ W.cell? ⟨B + 1, 2, none⟩ = some (S e) ∧ W.cell? ⟨B, 0, none⟩ = some (.bool s) ∧ W.cell? ⟨B, 1, none⟩ = some (S n) ∧ W.cell? ⟨B, 2, none⟩ = some (S d) ∧ W.cell? ⟨1, 0, none⟩ = some (.bool false) ∧ W.cell? ⟨1, 1, none⟩ = some (S [1]) ∧ W.cell? ⟨1, 2, none⟩ = some (S [2]) from fun W h => ⟨(h.row _ mm0).cell 0, (h.row _ mm0).cell 1, (h.row _ mm0).cell 2, (h.row _ mm1).cell 0, (h.row _ mm1).cell 1, (h.row _ mm1).cell 2, (h.row _ mm2).cell 0, (h.row _ mm2).cell 1, (h.row _ mm2).cell 2, (h.row _ mm3).cell 0, (h.row _ mm3).cell 1, (h.row _ mm3).cell 2⟩)
 obtain ⟨cc0, cc1, cc2, cc3, cc4, cc5, cc6, cc7, cc8, cc9, cc10, cc11⟩ := HF1.out _ HK.out
 go_enter Tryz.func25, Tryz.ntmps25
 go_wp2_with fail
 clear hB
 refine (H1.out _ (HT.out.ch HK.out.ch)).mono ?_
 rintro e w1 ⟨rfl, hC⟩
 replace HK := Lib.hid (HK.out.on hC)
 clear hC cc0 cc1 cc2 cc3 cc4 cc5 cc6 cc7 cc8 cc9 cc10 cc11
 obtain ⟨cc0, cc1, cc2, cc3, cc4, cc5, cc6, cc7, cc8, cc9, cc10, cc11⟩ := HF1.out _ HK.out
 go_wp2_with fail
 clear cc0 cc1 cc2 cc3 cc4 cc5 cc6 cc7 cc8 cc9 cc10 cc11
 replace HK := Lib.hid HK.out.drew
 have HN0 := Lib.hid (show B ≠ B + 1 + 1 by omega)
 have HN1 := Lib.hid (show B + 1 ≠ B + 1 + 1 by omega)
 have HN2 := Lib.hid (show 1 ≠ B + 1 + 1 by omega)
 have HCC := Lib.hid (show ∀ W, Kq w W [(B + 1 + 1, 26, [.bool false, S [], S []]), (B + 1, 26, [.bool t, S m, S e]), (B, 26, [.bool s, S n, S d]), (1, 26, [.bool false, S [1], S [2]])] → W.cell? ⟨B, 0, none⟩ = some (.bool s) ∧ W.cell? ⟨B, 1, none⟩ = some (S n) ∧ W.cell? ⟨B, 2, none⟩ = some (S d) ∧ W.cell? ⟨B + 1, 0, none⟩ = some (.bool t) ∧ W.cell? ⟨B + 1, 1, none⟩ = some (S m) ∧ W.cell? ⟨B + 1, 2, none⟩ = some (S e) ∧ W.cell? ⟨1, 0, none⟩ = some (.bool false) ∧ W.cell? ⟨1, 1, none⟩ = some (S [1]) ∧ W.cell? ⟨1, 2, none⟩ = some (S [2]) from fun W h => ⟨(h.row _ mm2).cell 0, (h.row _ mm2).cell 1, (h.row _ mm2).cell 2, (h.row _ mm1).cell 0, (h.row _ mm1).cell 1, (h.row _ mm1).cell 2, (h.row _ mm3).cell 0, (h.row _ mm3).cell 1, (h.row _ mm3).cell 2⟩)
 go_region_held3 (fun w' => w'.cell? ⟨B, 0, none⟩ = some (.bool s) ∧ w'.cell? ⟨B, 1, none⟩ = some (S n) ∧ w'.cell? ⟨B, 2, none⟩ = some (S d) ∧ w'.cell? ⟨B + 1, 0, none⟩ = some (.bool t) ∧ w'.cell? ⟨B + 1, 1, none⟩ = some (S m) ∧ w'.cell? ⟨B + 1, 2, none⟩ = some (S e) ∧ w'.cell? ⟨1, 0, none⟩ = some (.bool false) ∧ w'.cell? ⟨1, 1, none⟩ = some (S [1]) ∧ w'.cell? ⟨1, 2, none⟩ = some (S [2]))
  (first
   | (with_reducible exact HCC.out _ HK.out)
   | (exact ⟨(HK.out.cellsp (g := B) (r := B + 1 + 1) mm2 HN0.out _ _ _).1, (HK.out.cellsp (g := B) (r := B + 1 + 1) mm2 HN0.out _ _ _).2.1, (HK.out.cellsp (g := B) (r := B + 1 + 1) mm2 HN0.out _ _ _).2.2, (HK.out.cellsp (g := B + 1) (r := B + 1 + 1) mm1 HN1.out _ _ _).1, (HK.out.cellsp (g := B + 1) (r := B + 1 + 1) mm1 HN1.out _ _ _).2.1, (HK.out.cellsp (g := B + 1) (r := B + 1 + 1) mm1 HN1.out _ _ _).2.2, (HK.out.cellsp (g := 1) (r := B + 1 + 1) mm3 HN2.out _ _ _).1, (HK.out.cellsp (g := 1) (r := B + 1 + 1) mm3 HN2.out _ _ _).2.1, (HK.out.cellsp (g := 1) (r := B + 1 + 1) mm3 HN2.out _ _ _).2.2⟩)
   | go_keep)
  (first
   | (go_at_call 59; (with_reducible refine (H2.out _ (HT.out.ch HK.out.ch).tb).mono ?_); rintro e wq ⟨rfl, hCq⟩; replace HK := Lib.hid (HK.out.on hCq); clear hCq)
   | (go_at_call 67; (with_reducible refine (H3.out _ (HT.out.ch HK.out.ch).tb).mono ?_); rintro e wq ⟨rfl, hCq⟩; replace HK := Lib.hid (HK.out.on hCq); clear hCq)
   | (go_at_call 23; (with_reducible refine (H4.out _ (HT.out.ch HK.out.ch)).mono ?_); rintro e wq ⟨rfl, hCq⟩; replace HK := Lib.hid (HK.out.on hCq); clear hCq; have e0 := (HK.out.row _ mm0).cell 0; have e1 := (HK.out.row _ mm0).cell 1; have e2 := (HK.out.row _ mm0).cell 2; have f0 := (HK.out.row _ mm0).frozen 0; have f1 := (HK.out.row _ mm0).frozen 1; have f2 := (HK.out.row _ mm0).frozen 2; simp only [List.getElem?_cons_zero, List.getElem?_cons_succ] at e0 e1 e2))
 go_wp2_with fail
 have hp := HK.out.put (g := B + 1 + 1) mm0 (by have := HBB.out; omega) (.bool r) (S k) (S f)
 refine bodyPost_ret (results_cell_row_tmp (P := Tryz.prog) rfl _ _ (B + 1 + 1) 26 _ (0, 0) _ rfl hp.1 Tryz.underlying26 rfl (by kernel_rfl)) rfl ?_
 exact ⟨rfl, hp.2⟩
set_option maxHeartbeats 3200000 in
theorem C_Up_no {s t : Bool} {n d m e : List UInt8} (hn : n.length ≤ 300) (hd : d.length ≤ 300) (hm : m.length ≤ 300) (he : e.length ≤ 300) (hb : canB s n d t m e = false) : AnsM 24 #[Rv s n d, Rv t m e] (.tuple #[Rv false [] [], .bool false]) := fun w ht => by
 have H1 := Lib.hid (C_Down_no hn hd hm he hb)
 clear hn hd hm he hb
 have HT := Lib.hid ht
 have HK := Lib.hid ((((Kq.nil w).new #[.bool s, S n, S d] 26).new #[.bool t, S m, S e] 26).new #[.bool false, S [], S []] 26)
 rw [World.size_alloc, World.size_alloc] at HK
 obtain ⟨B, hB⟩ : ∃ B, w.heap.size = B := ⟨_, rfl⟩
 rw [hB] at HK
 have HBB := Lib.hid hB
 clear ht
 have HF1 := Lib.hid (show ∀ W, Kq w W [(B + 1 + 1, 26, [.bool false, S [], S []]), (B + 1, 26, [.bool t, S m, S e]), (B, 26, [.bool s, S n, S d])] → W.cell? ⟨B + 1 + 1, 0, none⟩ = some (.bool false) ∧ W.cell? ⟨B + 1 + 1, 1, none⟩ = some (S []) ∧ W.cell? ⟨B + 1 + 1, 2, none⟩ = some (S []) ∧ W.cell? ⟨B + 1, 0, none⟩ = some (.bool t) ∧ W.cell? ⟨B + 1, 1, none⟩ = some (S m) ∧ W.cell? ⟨B + 1, 2, none⟩ = some (S e) ∧ W.cell? ⟨B, 0, none⟩ = some (.bool s) ∧ W.cell? ⟨B, 1, none⟩ = some (S n) ∧ W.cell? ⟨B, 2, none⟩ = some (S d) from fun W h => ⟨(h.row _ mm0).cell 0, (h.row _ mm0).cell 1, (h.row _ mm0).cell 2, (h.row _ mm1).cell 0, (h.row _ mm1).cell 1, (h.row _ mm1).cell 2, (h.row _ mm2).cell 0, (h.row _ mm2).cell 1, (h.row _ mm2).cell 2⟩)
 obtain ⟨cc0, cc1, cc2, cc3, cc4, cc5, cc6, cc7, cc8⟩ := HF1.out _ HK.out
 go_enter Tryz.func24, Tryz.ntmps24
 go_wp2_with fail
 clear hB
 refine (H1.out _ (HT.out.ch HK.out.ch)).mono ?_
 rintro e w1 ⟨rfl, hC⟩
 replace HK := Lib.hid (HK.out.on hC)
 clear hC cc0 cc1 cc2 cc3 cc4 cc5 cc6 cc7 cc8
 obtain ⟨cc0, cc1, cc2, cc3, cc4, cc5, cc6, cc7, cc8⟩ := HF1.out _ HK.out
 clear cc0 cc1 cc2 cc3 cc4 cc5 cc6 cc7 cc8
 have HKO := Lib.hid (HK.out.new #[.bool false, S [], S []] 26)
 have n0 := (HKO.out.row _ mm0).cell 0
 have n1 := (HKO.out.row _ mm0).cell 1
 have n2 := (HKO.out.row _ mm0).cell 2
 have e0 := (HKO.out.row _ mm1).cell 0
 have f0 := (HKO.out.row _ mm1).frozen 0
 have a0 := (HKO.out.row _ mm3).cell 0
 have e1 := (HKO.out.row _ mm1).cell 1
 have f1 := (HKO.out.row _ mm1).frozen 1
 have a1 := (HKO.out.row _ mm3).cell 1
 have e2 := (HKO.out.row _ mm1).cell 2
 have f2 := (HKO.out.row _ mm1).frozen 2
 have a2 := (HKO.out.row _ mm3).cell 2
 simp only [List.getElem?_cons_zero, List.getElem?_cons_succ] at n0 n1 n2 e0 e1 e2 a0 a1 a2
 go_wp2_with fail
 have hp := HKO.out.put (g := B + 1 + 1) mm1 (by have := HBB.out; omega) (.bool false) (S []) (S [])
 refine bodyPost_ret (results_cell_row_tmp (P := Tryz.prog) rfl _ _ (B + 1 + 1) 26 _ (0, 0) _ rfl hp.1 Tryz.underlying26 rfl (by kernel_rfl)) rfl ?_
 exact ⟨rfl, hp.2⟩
def upQ (a t : Rat) : Rat := if downQ a t = a then a else downQ a t + t
set_option maxHeartbeats 3200000 in
theorem C_Up {s t : Bool} {n d m e : List UInt8} {r : Bool} {k f : List UInt8} {a b : Rat} (hn : n.length ≤ 300) (hd : d.length ≤ 300) (hm : m.length ≤ 300) (he : e.length ≤ 300) (hb : canB s n d t m e = true) (ra : ratOf s n d = a) (rb : ratOf t m e = b) (ic : Is (upQ a b) r k f) : AnsM 24 #[Rv s n d, Rv t m e] (.tuple #[Rv r k f, .bool true]) := fun w ht => by
 obtain ⟨hr, hpos⟩ := can_pos hb
 have ia := rightR_is hr
 rw [ra] at ia
 rw [rb] at hpos
 unfold upQ at ic
 by_cases heq : downQ a b = a
 ·rw [if_pos heq] at ic
  obtain ⟨rfl, rfl, rfl⟩ := ic.eqs ia
  have H1 := Lib.hid (C_Down hn hd hm he hb ra rb (by rw [heq]; exact ia))
  clear hn hd hm he hb ra rb ic heq hr hpos ia
  have HT := Lib.hid ht
  have HK := Lib.hid ((((Kq.nil w).new #[.bool r, S k, S f] 26).new #[.bool t, S m, S e] 26).new #[.bool false, S [], S []] 26)
  rw [World.size_alloc, World.size_alloc] at HK
  obtain ⟨B, hB⟩ : ∃ B, w.heap.size = B := ⟨_, rfl⟩
  rw [hB] at HK
  have HBB := Lib.hid hB
  clear ht
  have HF1 := Lib.hid (show ∀ W, Kq w W [(B + 1 + 1, 26, [.bool false, S [], S []]), (B + 1, 26, [.bool t, S m, S e]), (B, 26, [.bool r, S k, S f])] → W.cell? ⟨B + 1 + 1, 0, none⟩ = some (.bool false) ∧ W.cell? ⟨B + 1 + 1, 1, none⟩ = some (S []) ∧ W.cell? ⟨B + 1 + 1, 2, none⟩ = some (S []) ∧ W.cell? ⟨B + 1, 0, none⟩ = some (.bool t) ∧ W.cell? ⟨B + 1, 1, none⟩ = some (S m) ∧ W.cell? ⟨B + 1, 2, none⟩ = some (S e) ∧ W.cell? ⟨B, 0, none⟩ = some (.bool r) ∧ W.cell? ⟨B, 1, none⟩ = some (S k) ∧ W.cell? ⟨B, 2, none⟩ = some (S f) from fun W h => ⟨(h.row _ mm0).cell 0, (h.row _ mm0).cell 1, (h.row _ mm0).cell 2, (h.row _ mm1).cell 0, (h.row _ mm1).cell 1, (h.row _ mm1).cell 2, (h.row _ mm2).cell 0, (h.row _ mm2).cell 1, (h.row _ mm2).cell 2⟩)
  obtain ⟨cc0, cc1, cc2, cc3, cc4, cc5, cc6, cc7, cc8⟩ := HF1.out _ HK.out
  go_enter Tryz.func24, Tryz.ntmps24
  go_wp2_with fail
  clear hB
  refine (H1.out _ (HT.out.ch HK.out.ch)).mono ?_
  rintro e w1 ⟨rfl, hC⟩
  replace HK := Lib.hid (HK.out.on hC)
  clear hC cc0 cc1 cc2 cc3 cc4 cc5 cc6 cc7 cc8
  obtain ⟨cc0, cc1, cc2, cc3, cc4, cc5, cc6, cc7, cc8⟩ := HF1.out _ HK.out
  clear cc0 cc1 cc2 cc3 cc4 cc5 cc6 cc7 cc8
  have HKO := Lib.hid (HK.out.new #[.bool r, S k, S f] 26)
  have n0 := (HKO.out.row _ mm0).cell 0
  have n1 := (HKO.out.row _ mm0).cell 1
  have n2 := (HKO.out.row _ mm0).cell 2
  have e0 := (HKO.out.row _ mm1).cell 0
  have f0 := (HKO.out.row _ mm1).frozen 0
  have a0 := (HKO.out.row _ mm3).cell 0
  have e1 := (HKO.out.row _ mm1).cell 1
  have f1 := (HKO.out.row _ mm1).frozen 1
  have a1 := (HKO.out.row _ mm3).cell 1
  have e2 := (HKO.out.row _ mm1).cell 2
  have f2 := (HKO.out.row _ mm1).frozen 2
  have a2 := (HKO.out.row _ mm3).cell 2
  simp only [List.getElem?_cons_zero, List.getElem?_cons_succ] at n0 n1 n2 e0 e1 e2 a0 a1 a2
  go_wp2_with fail
  have hp := HKO.out.put (g := B + 1 + 1) mm1 (by have := HBB.out; omega) (.bool r) (S k) (S f)
  refine bodyPost_ret (results_cell_row_tmp (P := Tryz.prog) rfl _ _ (B + 1 + 1) 26 _ (0, 0) _ rfl hp.1 Tryz.underlying26 rfl (by kernel_rfl)) rfl ?_
  exact ⟨rfl, hp.2⟩
 ·rw [if_neg heq] at ic
  have hne : b ≠ 0 := Ne.symm (Rat.ne_of_lt hpos)
  obtain ⟨s1, n1, d1, i1⟩ := Is.ex (downQ a b)
  have za : Szq a 300 := by rw [← ra]; exact Szq.of_len hn hd (by omega)
  have zb : Szq b 300 := by rw [← rb]; exact Szq.of_len hm he (by omega)
  obtain ⟨l1, l2⟩ := (show Szq (downQ a b) 901 from (floor_size (za.div zb hne)).mul zb).len i1
  have H1 := Lib.hid (C_Down hn hd hm he hb ra rb i1)
  have H2 := Lib.hid (C_Add (s := s1) (n := n1) (d := d1) (t := t) (m := m) (e := e) (by omega) (by omega) (by omega) (by omega) (ratOf_is i1) rb ic)
  have hdiff : ¬ (s1 = s ∧ n1 = n ∧ d1 = d) := fun ⟨h1, h2, h3⟩ => by
   subst h1 h2 h3
   exact heq (i1.inj ia)
  clear hn hd hm he hb ra rb ic heq hr hpos ia hne i1 za zb l1 l2
  by_cases q1 : s1 = s
  ·subst q1
   by_cases q2 : n1 = n
   ·subst q2
    have q3 : (d1 == d) = false := beq_no fun h => hdiff ⟨rfl, rfl, h⟩
    have q4 : ¬ d1 = d := fun h => hdiff ⟨rfl, rfl, h⟩
    clear hdiff
    have HT := Lib.hid ht
    have HK := Lib.hid ((((Kq.nil w).new #[.bool s1, S n1, S d] 26).new #[.bool t, S m, S e] 26).new #[.bool false, S [], S []] 26)
    rw [World.size_alloc, World.size_alloc] at HK
    obtain ⟨B, hB⟩ : ∃ B, w.heap.size = B := ⟨_, rfl⟩
    rw [hB] at HK
    have HBB := Lib.hid hB
    clear ht
    have HF1 := Lib.hid (show ∀ W, Kq w W [(B + 1 + 1, 26, [.bool false, S [], S []]), (B + 1, 26, [.bool t, S m, S e]), (B, 26, [.bool s1, S n1, S d])] → W.cell? ⟨B + 1 + 1, 0, none⟩ = some (.bool false) ∧ W.cell? ⟨B + 1 + 1, 1, none⟩ = some (S []) ∧ W.cell? ⟨B + 1 + 1, 2, none⟩ = some (S []) ∧ W.cell? ⟨B + 1, 0, none⟩ = some (.bool t) ∧ W.cell? ⟨B + 1, 1, none⟩ = some (S m) ∧ W.cell? ⟨B + 1, 2, none⟩ = some (S e) ∧ W.cell? ⟨B, 0, none⟩ = some (.bool s1) ∧ W.cell? ⟨B, 1, none⟩ = some (S n1) ∧ W.cell? ⟨B, 2, none⟩ = some (S d) from fun W h => ⟨(h.row _ mm0).cell 0, (h.row _ mm0).cell 1, (h.row _ mm0).cell 2, (h.row _ mm1).cell 0, (h.row _ mm1).cell 1, (h.row _ mm1).cell 2, (h.row _ mm2).cell 0, (h.row _ mm2).cell 1, (h.row _ mm2).cell 2⟩)
    obtain ⟨cc0, cc1, cc2, cc3, cc4, cc5, cc6, cc7, cc8⟩ := HF1.out _ HK.out
    go_enter Tryz.func24, Tryz.ntmps24
    go_wp2_with fail
    clear hB
    refine (H1.out _ (HT.out.ch HK.out.ch)).mono ?_
    rintro e w1 ⟨rfl, hC⟩
    replace HK := Lib.hid (HK.out.on hC)
    clear hC cc0 cc1 cc2 cc3 cc4 cc5 cc6 cc7 cc8
    obtain ⟨cc0, cc1, cc2, cc3, cc4, cc5, cc6, cc7, cc8⟩ := HF1.out _ HK.out
    have hall := fun o : Obj => HF1.out _ (HK.out.other o)
    have dd0 : ∀ o : Obj, (w1.alloc o).cell? ⟨B + 1 + 1, 0, none⟩ = some (.bool false) := fun o => (hall o).1
    have dd1 : ∀ o : Obj, (w1.alloc o).cell? ⟨B + 1 + 1, 1, none⟩ = some (S []) := fun o => (hall o).2.1
    have dd2 : ∀ o : Obj, (w1.alloc o).cell? ⟨B + 1 + 1, 2, none⟩ = some (S []) := fun o => (hall o).2.2.1
    have dd3 : ∀ o : Obj, (w1.alloc o).cell? ⟨B + 1, 0, none⟩ = some (.bool t) := fun o => (hall o).2.2.2.1
    have dd4 : ∀ o : Obj, (w1.alloc o).cell? ⟨B + 1, 1, none⟩ = some (S m) := fun o => (hall o).2.2.2.2.1
    have dd5 : ∀ o : Obj, (w1.alloc o).cell? ⟨B + 1, 2, none⟩ = some (S e) := fun o => (hall o).2.2.2.2.2.1
    have dd6 : ∀ o : Obj, (w1.alloc o).cell? ⟨B, 0, none⟩ = some (.bool s1) := fun o => (hall o).2.2.2.2.2.2.1
    have dd7 : ∀ o : Obj, (w1.alloc o).cell? ⟨B, 1, none⟩ = some (S n1) := fun o => (hall o).2.2.2.2.2.2.2.1
    have dd8 : ∀ o : Obj, (w1.alloc o).cell? ⟨B, 2, none⟩ = some (S d) := fun o => (hall o).2.2.2.2.2.2.2.2
    clear hall
    go_wp2_with fail
    clear cc0 cc1 cc2 cc3 cc4 cc5 cc6 cc7 cc8 dd0 dd1 dd2 dd3 dd4 dd5 dd6 dd7 dd8
    have HK2 := Lib.hid (HK.out.new #[.bool s1, S n1, S d1] 26)
    obtain ⟨w2, hW⟩ : ∃ W, w1.alloc (.cells #[.bool s1, S n1, S d1] 26 (0, 0)) = W := ⟨_, rfl⟩
    rw [hW] at HK2 ⊢
    obtain ⟨Q, hA⟩ : ∃ A, w1.heap.size = A := ⟨_, rfl⟩
    rw [hA] at HK2 ⊢
    clear hA hW HK
    have HK := HK2
    clear HK2
    have HF2 := Lib.hid (show ∀ W, Kq w W [(Q, 26, [.bool s1, S n1, S d1]), (B + 1 + 1, 26, [.bool false, S [], S []]), (B + 1, 26, [.bool t, S m, S e]), (B, 26, [.bool s1, S n1, S d])] → W.cell? ⟨Q, 0, none⟩ = some (.bool s1) ∧ W.cell? ⟨Q, 1, none⟩ = some (S n1) ∧ W.cell? ⟨Q, 2, none⟩ = some (S d1) ∧ W.cell? ⟨B + 1 + 1, 0, none⟩ = some (.bool false) ∧ W.cell? ⟨B + 1 + 1, 1, none⟩ = some (S []) ∧ W.cell? ⟨B + 1 + 1, 2, none⟩ = some (S []) ∧ W.cell? ⟨B + 1, 0, none⟩ = some (.bool t) ∧ W.cell? ⟨B + 1, 1, none⟩ = some (S m) ∧ W.cell? ⟨B + 1, 2, none⟩ = some (S e) ∧ W.cell? ⟨B, 0, none⟩ = some (.bool s1) ∧ W.cell? ⟨B, 1, none⟩ = some (S n1) ∧ W.cell? ⟨B, 2, none⟩ = some (S d) from fun W h => ⟨(h.row _ mm0).cell 0, (h.row _ mm0).cell 1, (h.row _ mm0).cell 2, (h.row _ mm1).cell 0, (h.row _ mm1).cell 1, (h.row _ mm1).cell 2, (h.row _ mm2).cell 0, (h.row _ mm2).cell 1, (h.row _ mm2).cell 2, (h.row _ mm3).cell 0, (h.row _ mm3).cell 1, (h.row _ mm3).cell 2⟩)
    obtain ⟨cc0, cc1, cc2, cc3, cc4, cc5, cc6, cc7, cc8, cc9, cc10, cc11⟩ := HF2.out _ HK.out
    refine (H2.out _ (HT.out.ch HK.out.ch).tb).mono ?_
    rintro e w3 ⟨rfl, hC⟩
    replace HK := Lib.hid (HK.out.on hC)
    clear hC cc0 cc1 cc2 cc3 cc4 cc5 cc6 cc7 cc8 cc9 cc10 cc11
    obtain ⟨cc0, cc1, cc2, cc3, cc4, cc5, cc6, cc7, cc8, cc9, cc10, cc11⟩ := HF2.out _ HK.out
    have f0 := (HK.out.row _ mm1).frozen 0
    have f1 := (HK.out.row _ mm1).frozen 1
    have f2 := (HK.out.row _ mm1).frozen 2
    go_wp2_with fail
    have hp := HK.out.put (g := B + 1 + 1) mm1 (by have := HBB.out; omega) (.bool r) (S k) (S f)
    refine bodyPost_ret (results_cell_row_tmp (P := Tryz.prog) rfl _ _ (B + 1 + 1) 26 _ (0, 0) _ rfl hp.1 Tryz.underlying26 rfl (by kernel_rfl)) rfl ?_
    exact ⟨rfl, hp.2⟩
   ·have q3 : (n1 == n) = false := beq_no q2
    clear hdiff
    have HT := Lib.hid ht
    have HK := Lib.hid ((((Kq.nil w).new #[.bool s1, S n, S d] 26).new #[.bool t, S m, S e] 26).new #[.bool false, S [], S []] 26)
    rw [World.size_alloc, World.size_alloc] at HK
    obtain ⟨B, hB⟩ : ∃ B, w.heap.size = B := ⟨_, rfl⟩
    rw [hB] at HK
    have HBB := Lib.hid hB
    clear ht
    have HF1 := Lib.hid (show ∀ W, Kq w W [(B + 1 + 1, 26, [.bool false, S [], S []]), (B + 1, 26, [.bool t, S m, S e]), (B, 26, [.bool s1, S n, S d])] → W.cell? ⟨B + 1 + 1, 0, none⟩ = some (.bool false) ∧ W.cell? ⟨B + 1 + 1, 1, none⟩ = some (S []) ∧ W.cell? ⟨B + 1 + 1, 2, none⟩ = some (S []) ∧ W.cell? ⟨B + 1, 0, none⟩ = some (.bool t) ∧ W.cell? ⟨B + 1, 1, none⟩ = some (S m) ∧ W.cell? ⟨B + 1, 2, none⟩ = some (S e) ∧ W.cell? ⟨B, 0, none⟩ = some (.bool s1) ∧ W.cell? ⟨B, 1, none⟩ = some (S n) ∧ W.cell? ⟨B, 2, none⟩ = some (S d) from fun W h => ⟨(h.row _ mm0).cell 0, (h.row _ mm0).cell 1, (h.row _ mm0).cell 2, (h.row _ mm1).cell 0, (h.row _ mm1).cell 1, (h.row _ mm1).cell 2, (h.row _ mm2).cell 0, (h.row _ mm2).cell 1, (h.row _ mm2).cell 2⟩)
    obtain ⟨cc0, cc1, cc2, cc3, cc4, cc5, cc6, cc7, cc8⟩ := HF1.out _ HK.out
    go_enter Tryz.func24, Tryz.ntmps24
    go_wp2_with fail
    clear hB
    refine (H1.out _ (HT.out.ch HK.out.ch)).mono ?_
    rintro e w1 ⟨rfl, hC⟩
    replace HK := Lib.hid (HK.out.on hC)
    clear hC cc0 cc1 cc2 cc3 cc4 cc5 cc6 cc7 cc8
    obtain ⟨cc0, cc1, cc2, cc3, cc4, cc5, cc6, cc7, cc8⟩ := HF1.out _ HK.out
    have hall := fun o : Obj => HF1.out _ (HK.out.other o)
    have dd0 : ∀ o : Obj, (w1.alloc o).cell? ⟨B + 1 + 1, 0, none⟩ = some (.bool false) := fun o => (hall o).1
    have dd1 : ∀ o : Obj, (w1.alloc o).cell? ⟨B + 1 + 1, 1, none⟩ = some (S []) := fun o => (hall o).2.1
    have dd2 : ∀ o : Obj, (w1.alloc o).cell? ⟨B + 1 + 1, 2, none⟩ = some (S []) := fun o => (hall o).2.2.1
    have dd3 : ∀ o : Obj, (w1.alloc o).cell? ⟨B + 1, 0, none⟩ = some (.bool t) := fun o => (hall o).2.2.2.1
    have dd4 : ∀ o : Obj, (w1.alloc o).cell? ⟨B + 1, 1, none⟩ = some (S m) := fun o => (hall o).2.2.2.2.1
    have dd5 : ∀ o : Obj, (w1.alloc o).cell? ⟨B + 1, 2, none⟩ = some (S e) := fun o => (hall o).2.2.2.2.2.1
    have dd6 : ∀ o : Obj, (w1.alloc o).cell? ⟨B, 0, none⟩ = some (.bool s1) := fun o => (hall o).2.2.2.2.2.2.1
    have dd7 : ∀ o : Obj, (w1.alloc o).cell? ⟨B, 1, none⟩ = some (S n) := fun o => (hall o).2.2.2.2.2.2.2.1
    have dd8 : ∀ o : Obj, (w1.alloc o).cell? ⟨B, 2, none⟩ = some (S d) := fun o => (hall o).2.2.2.2.2.2.2.2
    clear hall
    go_wp2_with fail
    clear cc0 cc1 cc2 cc3 cc4 cc5 cc6 cc7 cc8 dd0 dd1 dd2 dd3 dd4 dd5 dd6 dd7 dd8
    have HK2 := Lib.hid (HK.out.new #[.bool s1, S n1, S d1] 26)
    obtain ⟨w2, hW⟩ : ∃ W, w1.alloc (.cells #[.bool s1, S n1, S d1] 26 (0, 0)) = W := ⟨_, rfl⟩
    rw [hW] at HK2 ⊢
    obtain ⟨Q, hA⟩ : ∃ A, w1.heap.size = A := ⟨_, rfl⟩
    rw [hA] at HK2 ⊢
    clear hA hW HK
    have HK := HK2
    clear HK2
    have HF2 := Lib.hid (show ∀ W, Kq w W [(Q, 26, [.bool s1, S n1, S d1]), (B + 1 + 1, 26, [.bool false, S [], S []]), (B + 1, 26, [.bool t, S m, S e]), (B, 26, [.bool s1, S n, S d])] → W.cell? ⟨Q, 0, none⟩ = some (.bool s1) ∧ W.cell? ⟨Q, 1, none⟩ = some (S n1) ∧ W.cell? ⟨Q, 2, none⟩ = some (S d1) ∧ W.cell? ⟨B + 1 + 1, 0, none⟩ = some (.bool false) ∧ W.cell? ⟨B + 1 + 1, 1, none⟩ = some (S []) ∧ W.cell? ⟨B + 1 + 1, 2, none⟩ = some (S []) ∧ W.cell? ⟨B + 1, 0, none⟩ = some (.bool t) ∧ W.cell? ⟨B + 1, 1, none⟩ = some (S m) ∧ W.cell? ⟨B + 1, 2, none⟩ = some (S e) ∧ W.cell? ⟨B, 0, none⟩ = some (.bool s1) ∧ W.cell? ⟨B, 1, none⟩ = some (S n) ∧ W.cell? ⟨B, 2, none⟩ = some (S d) from fun W h => ⟨(h.row _ mm0).cell 0, (h.row _ mm0).cell 1, (h.row _ mm0).cell 2, (h.row _ mm1).cell 0, (h.row _ mm1).cell 1, (h.row _ mm1).cell 2, (h.row _ mm2).cell 0, (h.row _ mm2).cell 1, (h.row _ mm2).cell 2, (h.row _ mm3).cell 0, (h.row _ mm3).cell 1, (h.row _ mm3).cell 2⟩)
    obtain ⟨cc0, cc1, cc2, cc3, cc4, cc5, cc6, cc7, cc8, cc9, cc10, cc11⟩ := HF2.out _ HK.out
    refine (H2.out _ (HT.out.ch HK.out.ch).tb).mono ?_
    rintro e w3 ⟨rfl, hC⟩
    replace HK := Lib.hid (HK.out.on hC)
    clear hC cc0 cc1 cc2 cc3 cc4 cc5 cc6 cc7 cc8 cc9 cc10 cc11
    obtain ⟨cc0, cc1, cc2, cc3, cc4, cc5, cc6, cc7, cc8, cc9, cc10, cc11⟩ := HF2.out _ HK.out
    have f0 := (HK.out.row _ mm1).frozen 0
    have f1 := (HK.out.row _ mm1).frozen 1
    have f2 := (HK.out.row _ mm1).frozen 2
    go_wp2_with fail
    have hp := HK.out.put (g := B + 1 + 1) mm1 (by have := HBB.out; omega) (.bool r) (S k) (S f)
    refine bodyPost_ret (results_cell_row_tmp (P := Tryz.prog) rfl _ _ (B + 1 + 1) 26 _ (0, 0) _ rfl hp.1 Tryz.underlying26 rfl (by kernel_rfl)) rfl ?_
    exact ⟨rfl, hp.2⟩
  ·have q3 : (s1 == s) = false := beq_eq_false_iff_ne.2 q1
   clear hdiff
   have HT := Lib.hid ht
   have HK := Lib.hid ((((Kq.nil w).new #[.bool s, S n, S d] 26).new #[.bool t, S m, S e] 26).new #[.bool false, S [], S []] 26)
   rw [World.size_alloc, World.size_alloc] at HK
   obtain ⟨B, hB⟩ : ∃ B, w.heap.size = B := ⟨_, rfl⟩
   rw [hB] at HK
   have HBB := Lib.hid hB
   clear ht
   have HF1 := Lib.hid (show ∀ W, Kq w W [(B + 1 + 1, 26, [.bool false, S [], S []]), (B + 1, 26, [.bool t, S m, S e]), (B, 26, [.bool s, S n, S d])] → W.cell? ⟨B + 1 + 1, 0, none⟩ = some (.bool false) ∧ W.cell? ⟨B + 1 + 1, 1, none⟩ = some (S []) ∧ W.cell? ⟨B + 1 + 1, 2, none⟩ = some (S []) ∧ W.cell? ⟨B + 1, 0, none⟩ = some (.bool t) ∧ W.cell? ⟨B + 1, 1, none⟩ = some (S m) ∧ W.cell? ⟨B + 1, 2, none⟩ = some (S e) ∧ W.cell? ⟨B, 0, none⟩ = some (.bool s) ∧ W.cell? ⟨B, 1, none⟩ = some (S n) ∧ W.cell? ⟨B, 2, none⟩ = some (S d) from fun W h => ⟨(h.row _ mm0).cell 0, (h.row _ mm0).cell 1, (h.row _ mm0).cell 2, (h.row _ mm1).cell 0, (h.row _ mm1).cell 1, (h.row _ mm1).cell 2, (h.row _ mm2).cell 0, (h.row _ mm2).cell 1, (h.row _ mm2).cell 2⟩)
   obtain ⟨cc0, cc1, cc2, cc3, cc4, cc5, cc6, cc7, cc8⟩ := HF1.out _ HK.out
   go_enter Tryz.func24, Tryz.ntmps24
   go_wp2_with fail
   clear hB
   refine (H1.out _ (HT.out.ch HK.out.ch)).mono ?_
   rintro e w1 ⟨rfl, hC⟩
   replace HK := Lib.hid (HK.out.on hC)
   clear hC cc0 cc1 cc2 cc3 cc4 cc5 cc6 cc7 cc8
   obtain ⟨cc0, cc1, cc2, cc3, cc4, cc5, cc6, cc7, cc8⟩ := HF1.out _ HK.out
   have hall := fun o : Obj => HF1.out _ (HK.out.other o)
   have dd0 : ∀ o : Obj, (w1.alloc o).cell? ⟨B + 1 + 1, 0, none⟩ = some (.bool false) := fun o => (hall o).1
   have dd1 : ∀ o : Obj, (w1.alloc o).cell? ⟨B + 1 + 1, 1, none⟩ = some (S []) := fun o => (hall o).2.1
   have dd2 : ∀ o : Obj, (w1.alloc o).cell? ⟨B + 1 + 1, 2, none⟩ = some (S []) := fun o => (hall o).2.2.1
   have dd3 : ∀ o : Obj, (w1.alloc o).cell? ⟨B + 1, 0, none⟩ = some (.bool t) := fun o => (hall o).2.2.2.1
   have dd4 : ∀ o : Obj, (w1.alloc o).cell? ⟨B + 1, 1, none⟩ = some (S m) := fun o => (hall o).2.2.2.2.1
   have dd5 : ∀ o : Obj, (w1.alloc o).cell? ⟨B + 1, 2, none⟩ = some (S e) := fun o => (hall o).2.2.2.2.2.1
   have dd6 : ∀ o : Obj, (w1.alloc o).cell? ⟨B, 0, none⟩ = some (.bool s) := fun o => (hall o).2.2.2.2.2.2.1
   have dd7 : ∀ o : Obj, (w1.alloc o).cell? ⟨B, 1, none⟩ = some (S n) := fun o => (hall o).2.2.2.2.2.2.2.1
   have dd8 : ∀ o : Obj, (w1.alloc o).cell? ⟨B, 2, none⟩ = some (S d) := fun o => (hall o).2.2.2.2.2.2.2.2
   clear hall
   go_wp2_with fail
   clear cc0 cc1 cc2 cc3 cc4 cc5 cc6 cc7 cc8 dd0 dd1 dd2 dd3 dd4 dd5 dd6 dd7 dd8
   have HK2 := Lib.hid (HK.out.new #[.bool s1, S n1, S d1] 26)
   obtain ⟨w2, hW⟩ : ∃ W, w1.alloc (.cells #[.bool s1, S n1, S d1] 26 (0, 0)) = W := ⟨_, rfl⟩
   rw [hW] at HK2 ⊢
   obtain ⟨Q, hA⟩ : ∃ A, w1.heap.size = A := ⟨_, rfl⟩
   rw [hA] at HK2 ⊢
   clear hA hW HK
   have HK := HK2
   clear HK2
   have HF2 := Lib.hid (show ∀ W, Kq w W [(Q, 26, [.bool s1, S n1, S d1]), (B + 1 + 1, 26, [.bool false, S [], S []]), (B + 1, 26, [.bool t, S m, S e]), (B, 26, [.bool s, S n, S d])] → W.cell? ⟨Q, 0, none⟩ = some (.bool s1) ∧ W.cell? ⟨Q, 1, none⟩ = some (S n1) ∧ W.cell? ⟨Q, 2, none⟩ = some (S d1) ∧ W.cell? ⟨B + 1 + 1, 0, none⟩ = some (.bool false) ∧ W.cell? ⟨B + 1 + 1, 1, none⟩ = some (S []) ∧ W.cell? ⟨B + 1 + 1, 2, none⟩ = some (S []) ∧ W.cell? ⟨B + 1, 0, none⟩ = some (.bool t) ∧ W.cell? ⟨B + 1, 1, none⟩ = some (S m) ∧ W.cell? ⟨B + 1, 2, none⟩ = some (S e) ∧ W.cell? ⟨B, 0, none⟩ = some (.bool s) ∧ W.cell? ⟨B, 1, none⟩ = some (S n) ∧ W.cell? ⟨B, 2, none⟩ = some (S d) from fun W h => ⟨(h.row _ mm0).cell 0, (h.row _ mm0).cell 1, (h.row _ mm0).cell 2, (h.row _ mm1).cell 0, (h.row _ mm1).cell 1, (h.row _ mm1).cell 2, (h.row _ mm2).cell 0, (h.row _ mm2).cell 1, (h.row _ mm2).cell 2, (h.row _ mm3).cell 0, (h.row _ mm3).cell 1, (h.row _ mm3).cell 2⟩)
   obtain ⟨cc0, cc1, cc2, cc3, cc4, cc5, cc6, cc7, cc8, cc9, cc10, cc11⟩ := HF2.out _ HK.out
   refine (H2.out _ (HT.out.ch HK.out.ch).tb).mono ?_
   rintro e w3 ⟨rfl, hC⟩
   replace HK := Lib.hid (HK.out.on hC)
   clear hC cc0 cc1 cc2 cc3 cc4 cc5 cc6 cc7 cc8 cc9 cc10 cc11
   obtain ⟨cc0, cc1, cc2, cc3, cc4, cc5, cc6, cc7, cc8, cc9, cc10, cc11⟩ := HF2.out _ HK.out
   have f0 := (HK.out.row _ mm1).frozen 0
   have f1 := (HK.out.row _ mm1).frozen 1
   have f2 := (HK.out.row _ mm1).frozen 2
   go_wp2_with fail
   have hp := HK.out.put (g := B + 1 + 1) mm1 (by have := HBB.out; omega) (.bool r) (S k) (S f)
   refine bodyPost_ret (results_cell_row_tmp (P := Tryz.prog) rfl _ _ (B + 1 + 1) 26 _ (0, 0) _ rfl hp.1 Tryz.underlying26 rfl (by kernel_rfl)) rfl ?_
   exact ⟨rfl, hp.2⟩
end Go.Proofs.YtkeomlpecjjhiaaGreatDoor
