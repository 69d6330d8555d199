/- The reference model of layer 2: lowest, Right, value. -/
import Derived.Test.YtkeomlpecjjhiaaGreatDoorQi
namespace Go.Proofs.YtkeomlpecjjhiaaGreatDoor
open Go.RowKit
set_option maxRecDepth 100000
theorem Box.upd {w W : World} {g : Nat} {rows : List (List Value)} (h : Box w W g rows) {i : Nat} {x y z : Value} (hr : rows[i]? = some [x, y, z]) (a b c : Value) :
  Box w (((W.setCell ⟨g + i, 0, none⟩ a).setCell ⟨g + i, 1, none⟩ b).setCell ⟨g + i, 2, none⟩ c) g (rows.set i [a, b, c]) := by
 obtain ⟨h1, h2⟩ := h.put hr a b c
 refine ⟨h2, h.ge, fun j r hj => ?_⟩
 by_cases e : i = j
 ·subst e
  have hlt : i < rows.length := (List.getElem?_eq_some_iff.1 hr).1
  rw [List.getElem?_set_self hlt] at hj
  obtain rfl := Option.some.inj hj
  exact h1
 ·rw [List.getElem?_set_ne e] at hj
  have hne : g + j ≠ g + i := by omega
  exact (((h.row j r hj).set_other hne 0 a).set_other hne 1 b).set_other hne 2 c
theorem cmpN_zero (x y : Nat) : (cmpN x y == 0) = (x == y) := by
 unfold cmpN
 split
 ·rw [Bool.eq_iff_iff]; simp; omega
 ·split
  ·rw [Bool.eq_iff_iff]; simp; omega
  ·rw [Bool.eq_iff_iff]; simp; omega
theorem rt_one {d : List UInt8} (h : Rt d) : (bv d == bv [1]) = (d == [1]) := by
 rw [Bool.eq_iff_iff]
 simp only [beq_iff_eq]
 constructor
 ·intro e
  exact rt_inj _ _ h (.inr ⟨1, [], rfl, by decide⟩) e
 ·intro e
  rw [e]
theorem C_one : Ans 40 #[.int .i64 1] (S [1]) := C_refOf (n := 1) (l := [1]) nb_one (by decide) (by decide)
set_option maxHeartbeats 3200000 in
theorem C_lowest {s r : Bool} {n d k f : List UInt8} (hn : n.length ≤ 1000) (hd : d.length ≤ 1000) (h1 : Rt n) (h2 : 0 < bv d) (ic : Is (mq s (bv n) (bv d)) r k f) : Ans 43 #[.bool s, S n, S d] (Rv r k f) := fun w => by
 have HB := Lib.hid (Box.one w #[.bool false, S [], S []])
 obtain ⟨B, hB⟩ : ∃ B, w.heap.size = B := ⟨_, rfl⟩
 rw [hB] at HB
 obtain ⟨p1, p2⟩ := mq_parts s (bv n) (bv d) (by omega)
 have bn := bv_b hn
 have bd := bv_b hd
 by_cases hn0 : n = []
 ·subst hn0
  have hz : mq s (bv []) (bv d) = 0 := by
   apply Rat.num_eq_zero.1
   rw [p1, bv_nil, Nat.zero_div]
   unfold sv
   cases s <;> rfl
  rw [hz] at ic
  obtain ⟨rfl, rfl, rfl⟩ := ic.eqs Is.zero
  have H1 := Lib.hid C_one
  clear p1 p2 hz h1 h2 ic hn hd bn bd
  go_enter Tryz.func43, Tryz.ntmps43
  go_wp2_with fail
  refine (H1.out _).mono ?_
  rintro e w1 ⟨rfl, hC⟩
  have HB2 := Lib.hid (HB.out.on hC)
  clear hC HB
  have HB := HB2
  clear HB2
  obtain ⟨e0, e1, e2, f0, f1, f2⟩ := HB.out.store0
  go_wp2_with fail
  have hp := HB.out.put (i := 0) rfl (.bool false) (S []) (S [1])
  refine bodyPost_ret (results_cell_row (P := Tryz.prog) rfl _ _ B 26 _ (0, 0) _ rfl hp.1 Tryz.underlying26 rfl (by kernel_rfl)) rfl ?_
  exact ⟨rfl, hp.2⟩
 ·have e1 := beq_no hn0
  obtain ⟨G, hG⟩ : ∃ G, Nat.gcd (bv n) (bv d) = G := ⟨_, rfl⟩
  have hG0 : 0 < G := by rw [← hG]; exact Nat.gcd_pos_of_pos_right _ h2
  obtain ⟨g, eg, vg⟩ := has_nb G
  have lg := nbl' 1000 eg (by rw [← hG]; exact gcd_lt bn bd)
  have hGn : 0 < bv n / G := Nat.div_pos (Nat.le_of_dvd (rt_pos h1 hn0) (hG ▸ Nat.gcd_dvd_left _ _)) hG0
  rw [hG] at p1 p2
  obtain ⟨p, ep, vp⟩ := has_nb (bv n / G)
  obtain ⟨q, eq, vq⟩ := has_nb (bv d / G)
  obtain ⟨q1, q2, q3⟩ := ic.eqs (Is.of p1 p2 ep eq)
  have hp1 : (bv n / G != 0) = true := by rw [bne_iff_ne]; omega
  rw [hp1, Bool.and_true] at q1
  obtain ⟨m1, hm1⟩ : ∃ m, nb (bv n % G) = m := ⟨_, rfl⟩
  obtain ⟨m2, hm2⟩ : ∃ m, nb (bv d % G) = m := ⟨_, rfl⟩
  have k1 := C_rgcd (a := n) (b := d) eg (by omega) (by omega) hG
  have k2 := C_rquo (a := n) (b := g) ep hm1 (by omega) (by omega) (by rw [vg]; exact hG0) (by rw [vg]) (by rw [vg])
  have k3 := C_rquo (a := d) (b := g) eq hm2 (by omega) (by omega) (by rw [vg]; exact hG0) (by rw [vg]) (by rw [vg])
  rw [← q2] at k2
  rw [← q3] at k3
  subst q1
  have H1 := Lib.hid k1
  have H2 := Lib.hid k2
  have H3 := Lib.hid k3
  clear k1 k2 k3 q2 q3 ic p1 p2 hG hG0 eg vg lg ep vp eq vq h1 h2 hn hd hn0 hGn hp1 hm1 hm2 bn bd
  go_enter Tryz.func43, Tryz.ntmps43
  go_wp2_with fail
  refine (H1.out _).mono ?_
  rintro e w1 ⟨rfl, hC⟩
  have HB2 := Lib.hid (HB.out.on hC)
  clear hC HB
  have HB := HB2
  clear HB2
  go_wp2_with fail
  refine (H2.out _).mono ?_
  rintro e w2 ⟨rfl, hC⟩
  have HB2 := Lib.hid (HB.out.on hC)
  clear hC HB
  have HB := HB2
  clear HB2
  go_wp2_with fail
  refine (H3.out _).mono ?_
  rintro e w3 ⟨rfl, hC⟩
  have HB2 := Lib.hid (HB.out.on hC)
  clear hC HB
  have HB := HB2
  clear HB2
  obtain ⟨e0, e1, e2, f0, f1, f2⟩ := HB.out.store0
  go_wp2_with fail
  have hp := HB.out.put (i := 0) rfl (.bool r) (S k) (S f)
  refine bodyPost_ret (results_cell_row (P := Tryz.prog) rfl _ _ B 26 _ (0, 0) _ rfl hp.1 Tryz.underlying26 rfl (by kernel_rfl)) rfl ?_
  exact ⟨rfl, hp.2⟩
set_option maxHeartbeats 3200000 in
theorem C_rRight {s : Bool} {n d : List UInt8} {r : Bool} (hn : n.length ≤ 1000) (hd : d.length ≤ 1000) (hr : rightR s n d = r) : Ans 85 #[Rv s n d] (.bool r) := fun w => by
 obtain ⟨r1, hr1⟩ : ∃ r, rightB n = r := ⟨_, rfl⟩
 obtain ⟨r2, hr2⟩ : ∃ r, rightB d = r := ⟨_, rfl⟩
 have H1 := Lib.hid (C_refRight (a := n) (by omega) hr1)
 have H2 := Lib.hid (C_refRight (a := d) (by omega) hr2)
 have bn := bv_b hn
 have bd := bv_b hd
 obtain ⟨g, hg⟩ : ∃ g, nb (Nat.gcd (bv n) (bv d)) = g := ⟨_, rfl⟩
 have lg := nbl' 1000 hg (gcd_lt bn bd)
 have H3 := Lib.hid (C_rgcd (a := n) (b := d) hg (by omega) (by omega) rfl)
 have H4 := Lib.hid C_one
 have H5 := Lib.hid (C_rcmp (a := g) (b := [1]) (by omega) (by decide) rfl)
 have H6 := Lib.hid (C_rcmp (a := d) (b := [1]) (by omega) (by decide) rfl)
 have hgv : bv g = Nat.gcd (bv n) (bv d) := by rw [← hg, bv_nb]
 have hrd := (rightB_iff d)
 rw [hr2] at hrd
 unfold rightR at hr
 rw [hr1, hr2] at hr
 obtain ⟨c5, hc5⟩ : ∃ c, cmpN (bv g) (bv [1]) = c := ⟨_, rfl⟩
 obtain ⟨c6, hc6⟩ : ∃ c, cmpN (bv d) (bv [1]) = c := ⟨_, rfl⟩
 have h5 : (c5 == 0) = (Nat.gcd (bv n) (bv d) == 1) := by rw [← hc5, hgv, cmpN_zero]; rfl
 have h6 : r2 = true → (c6 == 0) = (d == [1]) := fun h => by
  rw [← hc6, cmpN_zero]
  exact rt_one (hrd.1 h)
 rw [hc5] at H5
 rw [hc6] at H6
 have K5 := Lib.hid h5
 have K6 := Lib.hid h6
 clear hr1 hr2 hn hd bn bd hg lg hgv hrd hc5 hc6 h5 h6
 have HB := Lib.hid (Box.one w #[.bool s, S n, S d])
 obtain ⟨B, hB⟩ : ∃ B, w.heap.size = B := ⟨_, rfl⟩
 rw [hB] at HB
 obtain ⟨a0, a1, a2⟩ := HB.out.cells1
 go_enter Tryz.func85, Tryz.ntmps85
 go_wp2_with fail
 refine (H1.out _).mono ?_
 rintro e w1 ⟨rfl, hC⟩
 have HB2 := Lib.hid (HB.out.on hC)
 clear hC HB a0 a1 a2
 have HB := HB2
 clear HB2
 obtain ⟨a0, a1, a2⟩ := HB.out.cells1
 go_wp2_with fail
 refine (H2.out _).mono ?_
 rintro e w2 ⟨rfl, hC⟩
 have HB2 := Lib.hid (HB.out.on hC)
 clear hC HB a0 a1 a2
 have HB := HB2
 clear HB2
 obtain ⟨a0, a1, a2⟩ := HB.out.cells1
 cases r1 with
 | false =>
  obtain rfl : false = r := by simpa using hr
  clear hr
  go_wp2_with fail
  go_ret
  exact ⟨rfl, HB.out.ch⟩
 | true =>
  cases r2 with
  | false =>
   obtain rfl : false = r := by simpa using hr
   clear hr
   go_wp2_with fail
   go_ret
   exact ⟨rfl, HB.out.ch⟩
  | true =>
   simp only [Bool.true_and] at hr
   by_cases hd0 : d = []
   ·subst hd0
    obtain rfl : false = r := by simpa using hr
    clear hr
    go_wp2_with fail
    go_ret
    exact ⟨rfl, HB.out.ch⟩
   ·have e1 := beq_no hd0
    have e2 : d.isEmpty = false := by cases d with
     | nil => exact absurd rfl hd0
     | cons _ _ => rfl
    rw [e2] at hr
    by_cases hn0 : n = []
    ·subst hn0
     rw [if_pos rfl] at hr
     cases s with
     | true =>
      obtain rfl : false = r := by simpa using hr
      clear hr hd0
      go_wp2_with fail
      go_quiet (fail)
      go_wp2_with fail
      go_ret
      exact ⟨rfl, HB.out.ch.drewN _⟩
     | false =>
      have hk : (c6 == 0) = r := by rw [K6.out rfl]; simpa using hr
      clear hr hd0
      go_wp2_with fail
      clear a0 a1 a2
      have HBD := Lib.hid HB.out.drew
      clear HB
      have HB := HBD
      clear HBD
      go_region_held3 (fun w' => w'.cell? ⟨B, 0, none⟩ = some (.bool false) ∧ w'.cell? ⟨B, 1, none⟩ = some (S []) ∧ w'.cell? ⟨B, 2, none⟩ = some (S d))
       (first
        | (with_reducible exact HB.out.cells1)
        | go_keep)
       (first
        | (go_at_call 40; with_reducible refine (H4.out _).mono ?_; rintro e wq ⟨rfl, hCq⟩; have HB2 := Lib.hid (HB.out.on hCq); clear hCq HB; have HB := HB2; clear HB2)
        | (go_at_call 74; with_reducible refine (H6.out _).mono ?_; rintro e wq ⟨rfl, hCq⟩; have HB2 := Lib.hid (HB.out.on hCq); clear hCq HB; have HB := HB2; clear HB2))
      obtain ⟨a0, a1, a2⟩ := HB.out.cells1
      go_wp2_with fail
      go_ret
      exact ⟨rfl, HB.out.ch⟩
    ·have e3 := beq_no hn0
     have e4 : n.isEmpty = false := by cases n with
      | nil => exact absurd rfl hn0
      | cons _ _ => rfl
     rw [if_neg hn0] at hr
     have hk : (c5 == 0) = r := by rw [K5.out]; simpa using hr
     clear hd0 hn0 hr
     go_wp2_with fail
     refine (H3.out _).mono ?_
     rintro e w3 ⟨rfl, hC⟩
     have HB2 := Lib.hid (HB.out.on hC)
     clear hC HB a0 a1 a2
     have HB := HB2
     clear HB2
     go_wp2_with fail
     refine (H4.out _).mono ?_
     rintro e w4 ⟨rfl, hC⟩
     have HB2 := Lib.hid (HB.out.on hC)
     clear hC HB
     have HB := HB2
     clear HB2
     go_wp2_with fail
     refine (H5.out _).mono ?_
     rintro e w5 ⟨rfl, hC⟩
     have HB2 := Lib.hid (HB.out.on hC)
     clear hC HB
     have HB := HB2
     clear HB2
     go_wp2_with fail
     go_ret
     exact ⟨rfl, HB.out.ch⟩
set_option maxHeartbeats 3200000 in
theorem C_value {q : Rat} {s : Bool} {n d : List UInt8} {s' : Bool} {n' d' : List UInt8} (hn : n.length ≤ 1000) (hd : d.length ≤ 1000) (hq : ratOf s n d = q) (hi : Is q s' n' d') : Ans 52 #[Rv s n d] (Rv s' n' d') := fun w => by
 have HB := Lib.hid (Box.two w #[.bool s, S n, S d] #[.bool false, S [], S []])
 obtain ⟨B, hB⟩ : ∃ B, w.heap.size = B := ⟨_, rfl⟩
 rw [hB] at HB
 have H2 := Lib.hid C_one
 obtain ⟨a0, a1, a2⟩ := HB.out.cells1
 cases hr : rightR s n d with
 | true =>
  have H1 := Lib.hid (C_rRight hn hd hr)
  have h1 := rightR_is hr
  rw [hq] at h1
  obtain ⟨rfl, rfl, rfl⟩ := hi.eqs h1
  clear h1 hr hi hq hn hd
  go_enter Tryz.func52, Tryz.ntmps52
  go_wp2_with fail
  refine (H1.out _).mono ?_
  rintro e w1 ⟨rfl, hC⟩
  have HB2 := Lib.hid (HB.out.on hC)
  clear hC HB a0 a1 a2
  have HB := HB2
  clear HB2
  obtain ⟨a0, a1, a2⟩ := HB.out.cells1
  obtain ⟨e0, e1, e2, f0, f1, f2⟩ := HB.out.store (i := 1) rfl
  go_wp2_with fail
  have hp := HB.out.put (i := 1) rfl (.bool s') (S n') (S d')
  refine bodyPost_ret (results_cell_row (P := Tryz.prog) rfl _ _ (B + 1) 26 _ (0, 0) _ rfl hp.1 Tryz.underlying26 rfl (by kernel_rfl)) rfl ?_
  exact ⟨rfl, hp.2⟩
 | false =>
  have H1 := Lib.hid (C_rRight hn hd hr)
  rw [← hq, ratOf_no hr] at hi
  obtain ⟨rfl, rfl, rfl⟩ := hi.eqs Is.zero
  clear hr hi hq hn hd
  go_enter Tryz.func52, Tryz.ntmps52
  go_wp2_with fail
  refine (H1.out _).mono ?_
  rintro e w1 ⟨rfl, hC⟩
  have HB2 := Lib.hid (HB.out.on hC)
  clear hC HB a0 a1 a2
  have HB := HB2
  clear HB2
  obtain ⟨a0, a1, a2⟩ := HB.out.cells1
  go_wp2_with fail
  refine (H2.out _).mono ?_
  rintro e w2 ⟨rfl, hC⟩
  have HB2 := Lib.hid (HB.out.on hC)
  clear hC HB a0 a1 a2
  have HB := HB2
  clear HB2
  obtain ⟨a0, a1, a2⟩ := HB.out.cells1
  obtain ⟨e0, e1, e2, f0, f1, f2⟩ := HB.out.store (i := 1) rfl
  go_wp2_with fail
  have hp := HB.out.put (i := 1) rfl (.bool false) (S []) (S [1])
  refine bodyPost_ret (results_cell_row (P := Tryz.prog) rfl _ _ (B + 1) 26 _ (0, 0) _ rfl hp.1 Tryz.underlying26 rfl (by kernel_rfl)) rfl ?_
  exact ⟨rfl, hp.2⟩
end Go.Proofs.YtkeomlpecjjhiaaGreatDoor
