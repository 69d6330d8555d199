/- The reference model of layer 2: Sign, Neg, Sub, Cmp, Of, Make. -/
import Derived.Test.YtbpoghgokkpckaaGreatDoorQk
namespace Go.Proofs.YtbpoghgokkpckaaGreatDoor
open Go.RowKit
theorem Box.neg {w W : World} {g : Nat} {rows : List (List Value)} (h : Box w W g rows) {i : Nat} {x y z : Value} (hr : rows[i]? = some [x, y, z]) (a : Value) :
    Box w (W.setCell ⟨g + i, 0, none⟩ a) g (rows.set i [a, y, z]) := by
  have hge := h.ge
  refine ⟨h.ch.setCell (p := ⟨g + i, 0, none⟩) (.inl (Nat.le_trans hge (Nat.le_add_right _ _))) a, h.ge, fun j r hj => ?_⟩
  by_cases e : i = j
  · subst e
    have hlt : i < rows.length := (List.getElem?_eq_some_iff.1 hr).1
    rw [List.getElem?_set_self hlt] at hj
    obtain rfl := Option.some.inj hj
    exact (h.row i _ hr).set 0 a
  · rw [List.getElem?_set_ne e] at hj
    have hne : g + j ≠ g + i := by omega
    exact (h.row j r hj).set_other hne 0 a
set_option maxRecDepth 100000 in
set_option maxHeartbeats 3200000 in
theorem C_rOf (n : Int) {k : List UInt8} (h1 : -9223372036854775808 ≤ n) (h2 : n ≤ 9223372036854775807) (hk : nb n.natAbs = k) : Ans 45 #[.int .i64 n] (Rv (decide (n < 0)) k [1]) := fun w => by
  have HB := Lib.hid (Box.one w #[.bool false, S [], S []])
  obtain ⟨B, hB⟩ : ∃ B, w.heap.size = B := ⟨_, rfl⟩
  rw [hB] at HB
  have H0 := Lib.hid C_one
  by_cases hn : n < 0
  · obtain ⟨l, el, vl⟩ := has_nb (-(n + 1)).toNat
    have ll := nbl' 8 el (by rw [show (256 : Nat) ^ 8 = 18446744073709551616 from rfl]; omega)
    have H1 := Lib.hid (C_refOf (n := -(n + 1)) (l := l) el (by omega) (by omega))
    have H2 := Lib.hid (C_radd (a := l) (b := [1]) (l := k) hk (by omega) (by decide) (by rw [vl, show bv [1] = 1 from rfl]; omega))
    have hw1 : IntKind.i64.wrap (n + 1) = n + 1 := IntWalk.i64_in _ (by omega)
    have hw2 : IntKind.i64.wrap (-(n + 1)) = -(n + 1) := IntWalk.i64_in _ (by omega)
    have hd : decide (n < 0) = true := decide_eq_true hn
    have hng : (n + 1) ≤ 0 := by omega
    have hng2 : ¬ 0 ≤ n := by omega
    clear el vl ll hk
    rw [hd]
    go_enter Tryz.func45, Tryz.ntmps45
    go_wp2_with fail
    refine (H1.out _).mono ?_
    rintro e w1 ⟨rfl, hC⟩
    have HB2 := Lib.hid (HB.out.on hC)
    clear hC HB 
    have HB := HB2
    clear HB2
    go_wp2_with fail
    refine (H0.out _).mono ?_
    rintro e w2 ⟨rfl, hC⟩
    have HB2 := Lib.hid (HB.out.on hC)
    clear hC HB 
    have HB := HB2
    clear HB2
    go_wp2_with fail
    refine (H2.out _).mono ?_
    rintro e w3 ⟨rfl, hC⟩
    have HB2 := Lib.hid (HB.out.on hC)
    clear hC HB 
    have HB := HB2
    clear HB2
    go_wp2_with fail
    refine (H0.out _).mono ?_
    rintro e w4 ⟨rfl, hC⟩
    have HB2 := Lib.hid (HB.out.on hC)
    clear hC HB 
    have HB := HB2
    clear HB2
    obtain ⟨e0, e1, e2, f0, f1, f2⟩ := HB.out.store0
    go_wp2_with fail
    have hp := HB.out.put (i := 0) rfl (.bool true) (S k) (S [1])
    refine bodyPost_ret (results_cell_row (P := Tryz.prog) rfl _ _ B 25 _ (0, 0) _ rfl hp.1 Tryz.underlying25 rfl (by kernel_rfl)) rfl ?_
    exact ⟨rfl, hp.2⟩
  · have hd : decide (n < 0) = false := decide_eq_false hn
    have H1 := Lib.hid (C_refOf (n := n) (l := k) (by rw [← hk]; congr 1; omega) (by omega) (by omega))
    have hn2 : 0 ≤ n := by omega
    clear hk
    rw [hd]
    go_enter Tryz.func45, Tryz.ntmps45
    go_wp2_with fail
    refine (H1.out _).mono ?_
    rintro e w1 ⟨rfl, hC⟩
    have HB2 := Lib.hid (HB.out.on hC)
    clear hC HB 
    have HB := HB2
    clear HB2
    go_wp2_with fail
    refine (H0.out _).mono ?_
    rintro e w2 ⟨rfl, hC⟩
    have HB2 := Lib.hid (HB.out.on hC)
    clear hC HB 
    have HB := HB2
    clear HB2
    obtain ⟨e0, e1, e2, f0, f1, f2⟩ := HB.out.store0
    go_wp2_with fail
    have hp := HB.out.put (i := 0) rfl (.bool false) (S k) (S [1])
    refine bodyPost_ret (results_cell_row (P := Tryz.prog) rfl _ _ B 25 _ (0, 0) _ rfl hp.1 Tryz.underlying25 rfl (by kernel_rfl)) rfl ?_
    exact ⟨rfl, hp.2⟩
end Go.Proofs.YtbpoghgokkpckaaGreatDoor
