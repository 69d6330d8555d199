/- Package ratio's Of, Make. -/
import Derived.Test.YtnblmmhpndnjcaaGreatDoorQh
namespace Go.Proofs.YtnblmmhpndnjcaaGreatDoor
open Go.RowKit
theorem Is.int (n : Int) {k : List UInt8} (hk : nb n.natAbs = k) : Is (n : Rat) (decide (n < 0)) k [1] :=
  ⟨by rw [Rat.num_intCast], by rw [Rat.num_intCast]; exact hk, by rw [Rat.den_intCast]; exact nb_one⟩
set_option maxRecDepth 100000 in
set_option maxHeartbeats 3200000 in
theorem C_Of (n : Int) {k : List UInt8} (h1 : -9223372036854775808 ≤ n) (h2 : n ≤ 9223372036854775807) (hk : nb n.natAbs = k) : Ans 60 #[.int .i64 n] (Rv (decide (n < 0)) k [1]) := fun w => by
  have HB := Lib.hid (Box.one w #[.bool false, S [], S []])
  obtain ⟨B, hB⟩ : ∃ B, w.heap.size = B := ⟨_, rfl⟩
  rw [hB] at HB
  by_cases hn : n < 0
  · obtain ⟨l, el, vl⟩ := has_nb (-(n + 1)).toNat
    have ll := nbl' 8 el (by rw [show (256 : Nat) ^ 8 = 18446744073709551616 from rfl]; omega)
    have H1 := Lib.hid (C_of (n := -(n + 1)) (l := l) el (by omega) (by omega))
    have H2 := Lib.hid (C_add (a := l) (b := [1]) (l := k) hk (by omega) (by decide) (by rw [vl, show bv [1] = 1 from rfl]; omega))
    have hw1 : IntKind.i64.wrap (n + 1) = n + 1 := IntWalk.i64_in _ (by omega)
    have hw2 : IntKind.i64.wrap (-(n + 1)) = -(n + 1) := IntWalk.i64_in _ (by omega)
    have hd : decide (n < 0) = true := decide_eq_true hn
    have hng : (n + 1) ≤ 0 := by omega
    clear el vl ll hk
    rw [hd]
    go_enter Tryz.func60, Tryz.ntmps60
    go_wp2_with fail
    refine (H1.out _).mono ?_
    rintro e w1 ⟨rfl, hC⟩
    have HB2 := Lib.hid (HB.out.on hC)
    clear hC HB
    have HB := HB2
    clear HB2
    go_wp2_with fail
    refine (H2.out _).mono ?_
    rintro e w2 ⟨rfl, hC⟩
    have HB2 := Lib.hid (HB.out.on hC)
    clear hC HB
    have HB := HB2
    clear HB2
    obtain ⟨e0, e1, e2, f0, f1, f2⟩ := HB.out.store0
    go_wp2_with fail
    have hp := HB.out.put (i := 0) rfl (.bool true) (S k) (S [1])
    refine bodyPost_ret (results_cell_row (P := Tryz.prog) rfl _ _ B 26 _ (0, 0) _ rfl hp.1 Tryz.underlying26 rfl (by kernel_rfl)) rfl ?_
    exact ⟨rfl, hp.2⟩
  · have hd : decide (n < 0) = false := decide_eq_false hn
    have H1 := Lib.hid (C_of (n := n) (l := k) (by rw [← hk]; congr 1; omega) (by omega) (by omega))
    have hn2 : 0 ≤ n := by omega
    clear hk
    rw [hd]
    go_enter Tryz.func60, Tryz.ntmps60
    go_wp2_with fail
    refine (H1.out _).mono ?_
    rintro e w1 ⟨rfl, hC⟩
    have HB2 := Lib.hid (HB.out.on hC)
    clear hC HB
    have HB := HB2
    clear HB2
    obtain ⟨e0, e1, e2, f0, f1, f2⟩ := HB.out.store0
    go_wp2_with fail
    have hp := HB.out.put (i := 0) rfl (.bool false) (S k) (S [1])
    refine bodyPost_ret (results_cell_row (P := Tryz.prog) rfl _ _ B 26 _ (0, 0) _ rfl hp.1 Tryz.underlying26 rfl (by kernel_rfl)) rfl ?_
    exact ⟨rfl, hp.2⟩
set_option maxRecDepth 100000 in
set_option maxHeartbeats 3200000 in
theorem C_Make {s r : Bool} {n d k f : List UInt8} (hn : n.length ≤ 1000) (hd : d.length ≤ 1000) (h1 : Rt n) (h2 : Rt d) (h3 : d ≠ []) (ic : Is (mq s (bv n) (bv d)) r k f) : Ans 101 #[.bool s, S n, S d] (.tuple #[Rv r k f, .bool true]) := fun w => by
  have HB := Lib.hid (Box.one w #[.bool false, S [], S []])
  obtain ⟨B, hB⟩ : ∃ B, w.heap.size = B := ⟨_, rfl⟩
  rw [hB] at HB
  have hd0 := rt_pos h2 h3
  obtain ⟨p1, p2⟩ := mq_parts s (bv n) (bv d) (by omega)
  obtain ⟨G, hG⟩ : ∃ G, Nat.gcd (bv n) (bv d) = G := ⟨_, rfl⟩
  have hG0 : 0 < G := by rw [← hG]; exact Nat.gcd_pos_of_pos_right _ hd0
  obtain ⟨g, eg, vg⟩ := has_nb G
  have bn := bv_b hn
  have bd := bv_b hd
  have lg := nbl' 1000 eg (by rw [← hG]; exact gcd_lt bn bd)
  rw [hG] at p1 p2
  obtain ⟨p, ep, vp⟩ := has_nb (bv n / G)
  obtain ⟨q, eq, vq⟩ := has_nb (bv d / G)
  obtain ⟨q1, q2, q3⟩ := ic.eqs (Is.of p1 p2 ep eq)
  rw [← ne_empty ep] at q1
  have k1 := C_right (a := n) (by omega) ((rightB_iff n).2 h1)
  have k2 := C_right (a := d) (by omega) ((rightB_iff d).2 h2)
  have k3 := C_common (a := n) (b := d) eg (by omega) (by omega) hG
  have k4 := C_quotient (a := n) (g := g) ep (by omega) (by omega) h1 (by rw [vg]; exact hG0) (by rw [vg])
  have k5 := C_quotient (a := d) (g := g) eq (by omega) (by omega) h2 (by rw [vg]; exact hG0) (by rw [vg])
  have k6 := C_signed s p q
  rw [← q1, ← q2, ← q3] at k6
  rw [← q2] at k4
  rw [← q3] at k5
  have H1 := Lib.hid k1
  have H2 := Lib.hid k2
  have H3 := Lib.hid k3
  have H4 := Lib.hid k4
  have H5 := Lib.hid k5
  have H6 := Lib.hid k6
  have e1 := beq_no h3
  clear k1 k2 k3 k4 k5 k6 q1 q2 q3 ic p1 p2 hG hG0 eg vg lg ep vp eq vq h1 h2 h3 hd0 hn hd bn bd
  go_enter Tryz.func101, Tryz.ntmps101
  go_wp2_with fail
  refine (H1.out _).mono ?_
  rintro e w1 ⟨rfl, hC⟩
  have HB2 := Lib.hid (HB.out.on hC)
  clear hC HB
  have HB := HB2
  clear HB2
  go_wp2_with fail
  refine (H2.out _).mono ?_
  rintro e w2 ⟨rfl, hC⟩
  have HB2 := Lib.hid (HB.out.on hC)
  clear hC HB
  have HB := HB2
  clear HB2
  go_wp2_with fail
  refine (H3.out _).mono ?_
  rintro e w3 ⟨rfl, hC⟩
  have HB2 := Lib.hid (HB.out.on hC)
  clear hC HB
  have HB := HB2
  clear HB2
  go_wp2_with fail
  refine (H4.out _).mono ?_
  rintro e w4 ⟨rfl, hC⟩
  have HB2 := Lib.hid (HB.out.on hC)
  clear hC HB
  have HB := HB2
  clear HB2
  go_wp2_with fail
  refine (H5.out _).mono ?_
  rintro e w5 ⟨rfl, hC⟩
  have HB2 := Lib.hid (HB.out.on hC)
  clear hC HB
  have HB := HB2
  clear HB2
  go_wp2_with fail
  refine (H6.out _).mono ?_
  rintro e w6 ⟨rfl, hC⟩
  have HB2 := Lib.hid (HB.out.on hC)
  clear hC HB
  have HB := HB2
  clear HB2
  obtain ⟨e0, e1, e2, f0, f1, f2⟩ := HB.out.store0
  go_wp2_with fail
  have hp := HB.out.put (i := 0) rfl (.bool r) (S k) (S f)
  refine bodyPost_ret (results_cell_row_tmp (P := Tryz.prog) rfl _ _ B 26 _ (0, 0) _ rfl hp.1 Tryz.underlying26 rfl (by kernel_rfl)) rfl ?_
  exact ⟨rfl, hp.2⟩
set_option maxRecDepth 100000 in
set_option maxHeartbeats 3200000 in
theorem C_Make_no {s : Bool} {n d : List UInt8} (hn : n.length ≤ 1000) (hd : d.length ≤ 1000) (h : ¬ (Rt n ∧ Rt d ∧ d ≠ [])) : Ans 101 #[.bool s, S n, S d] (.tuple #[Rv false [] [], .bool false]) := fun w => by
  have HB := Lib.hid (Box.one w #[.bool false, S [], S []])
  obtain ⟨B, hB⟩ : ∃ B, w.heap.size = B := ⟨_, rfl⟩
  rw [hB] at HB
  obtain ⟨r1, hr1⟩ : ∃ r, rightB n = r := ⟨_, rfl⟩
  obtain ⟨r2, hr2⟩ : ∃ r, rightB d = r := ⟨_, rfl⟩
  have H1 := Lib.hid (C_right (a := n) (by omega) hr1)
  have H2 := Lib.hid (C_right (a := d) (by omega) hr2)
  rw [← rightB_iff, ← rightB_iff, hr1, hr2] at h
  clear hr1 hr2 hn hd
  go_enter Tryz.func101, Tryz.ntmps101
  go_wp2_with fail
  refine (H1.out _).mono ?_
  rintro e w1 ⟨rfl, hC⟩
  have HB2 := Lib.hid (HB.out.on hC)
  clear hC HB
  have HB := HB2
  clear HB2
  obtain ⟨e0, e1, e2, f0, f1, f2⟩ := HB.out.store0
  cases r1 with
  | false =>
    clear h
    go_wp2_with fail
    have hp := HB.out.put (i := 0) rfl (.bool false) (S []) (S [])
    refine bodyPost_ret (results_cell_row_tmp (P := Tryz.prog) rfl _ _ B 26 _ (0, 0) _ rfl hp.1 Tryz.underlying26 rfl (by kernel_rfl)) rfl ?_
    exact ⟨rfl, hp.2⟩
  | true =>
    clear e0 e1 e2 f0 f1 f2
    go_wp2_with fail
    refine (H2.out _).mono ?_
    rintro e w2 ⟨rfl, hC⟩
    have HB2 := Lib.hid (HB.out.on hC)
    clear hC HB
    have HB := HB2
    clear HB2
    obtain ⟨e0, e1, e2, f0, f1, f2⟩ := HB.out.store0
    cases r2 with
    | false =>
      clear h
      go_wp2_with fail
      have hp := HB.out.put (i := 0) rfl (.bool false) (S []) (S [])
      refine bodyPost_ret (results_cell_row_tmp (P := Tryz.prog) rfl _ _ B 26 _ (0, 0) _ rfl hp.1 Tryz.underlying26 rfl (by kernel_rfl)) rfl ?_
      exact ⟨rfl, hp.2⟩
    | true =>
      obtain rfl : d = [] := by
        rcases Classical.em (d = []) with q | q
        · exact q
        · exact absurd (by simp [q]) h
      clear h
      go_wp2_with fail
      have hp := HB.out.put (i := 0) rfl (.bool false) (S []) (S [])
      refine bodyPost_ret (results_cell_row_tmp (P := Tryz.prog) rfl _ _ B 26 _ (0, 0) _ rfl hp.1 Tryz.underlying26 rfl (by kernel_rfl)) rfl ?_
      exact ⟨rfl, hp.2⟩
end Go.Proofs.YtnblmmhpndnjcaaGreatDoor
