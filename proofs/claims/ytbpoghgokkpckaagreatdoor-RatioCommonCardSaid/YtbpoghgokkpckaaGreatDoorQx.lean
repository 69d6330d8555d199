/- What the examples of the chapter need: fractions of ints, lists compared. -/
import Derived.Test.YtbpoghgokkpckaaGreatDoorQw
import Derived.Test.YtbpoghgokkpckaaGreatDoorQq
namespace Go.Proofs.YtbpoghgokkpckaaGreatDoor
open Go.RowKit
set_option maxRecDepth 100000 in
set_option maxHeartbeats 3200000 in
theorem C_frac {n d : Int} {r : Bool} {k f : List UInt8} (hn : -9223372036854775808 ≤ n ∧ n ≤ 9223372036854775807) (hd : -9223372036854775808 ≤ d ∧ d ≤ 9223372036854775807) (h0 : d ≠ 0) (ic : Is ((n : Rat) / (d : Rat)) r k f) : Ans 15 #[.int .i64 n, .int .i64 d] (Rv r k f) := fun w => by
  have HB := Lib.hid (Box.one w #[.bool false, S [], S []])
  obtain ⟨B, hB⟩ : ∃ B, w.heap.size = B := ⟨_, rfl⟩
  rw [hB] at HB
  have p8' := p8
  obtain ⟨x, ex, vx⟩ := has_nb n.natAbs
  obtain ⟨y, ey, vy⟩ := has_nb d.natAbs
  have lx := nbl' 8 ex (by omega)
  have ly := nbl' 8 ey (by omega)
  have hd0 : (d : Rat) ≠ 0 := fun e => h0 (by have := congrArg Rat.num e; simpa using this)
  have H1 := Lib.hid (C_rOf n hn.1 hn.2 ex)
  have H2 := Lib.hid (C_rOf d hd.1 hd.2 ey)
  have H3 := Lib.hid (C_rQuo (a := (n : Rat)) (b := (d : Rat)) (s := decide (n < 0)) (n := x) (d := [1]) (t := decide (d < 0)) (m := y) (e := [1]) (by omega) (by decide) (by omega) (by decide) (ratOf_is (Is.int n ex)) (ratOf_is (Is.int d ey)) hd0 ic)
  obtain ⟨s1, hs1⟩ : ∃ s, decide (n < 0) = s := ⟨_, rfl⟩
  obtain ⟨s2, hs2⟩ : ∃ s, decide (d < 0) = s := ⟨_, rfl⟩
  rw [hs1] at H1 H3
  rw [hs2] at H2 H3
  clear hs1 hs2 p8' ex vx ey vy lx ly hd0 ic hn hd h0
  go_enter Tryz.func15, Tryz.ntmps15
  go_wp2_with fail
  refine (H1.out _).mono ?_
  rintro e w1 ⟨rfl, hC⟩
  have HB2 := Lib.hid (HB.out.on hC)
  clear hC HB 
  have HB := HB2
  clear HB2
  go_wp2_with fail
  refine (H2.out _).mono ?_
  rintro e w2 ⟨rfl, hC⟩
  have HB2 := Lib.hid (HB.out.on hC)
  clear hC HB 
  have HB := HB2
  clear HB2
  go_wp2_with fail
  refine (H3.out _).mono ?_
  rintro e w3 ⟨rfl, hC⟩
  have HB2 := Lib.hid (HB.out.on hC)
  clear hC HB 
  have HB := HB2
  clear HB2
  have hal : ∀ o : Obj, Ch w3.heap.size none1 w3 (w3.alloc o) := fun o => (Ch.refl _ _ _).alloc (Nat.le_refl _) o
  have e0 : ∀ o : Obj, (w3.alloc o).cell? ⟨B, 0, none⟩ = some (.bool false) := fun o => (HB.out.on (hal o)).store0.1
  have e1 : ∀ o : Obj, (w3.alloc o).cell? ⟨B, 1, none⟩ = some (S []) := fun o => (HB.out.on (hal o)).store0.2.1
  have e2 : ∀ o : Obj, (w3.alloc o).cell? ⟨B, 2, none⟩ = some (S []) := fun o => (HB.out.on (hal o)).store0.2.2.1
  have f0 : ∀ o : Obj, (w3.alloc o).frozen? ⟨B, 0, none⟩ = false := fun o => (HB.out.on (hal o)).store0.2.2.2.1
  have f1 : ∀ o : Obj, (w3.alloc o).frozen? ⟨B, 1, none⟩ = false := fun o => (HB.out.on (hal o)).store0.2.2.2.2.1
  have f2 : ∀ o : Obj, (w3.alloc o).frozen? ⟨B, 2, none⟩ = false := fun o => (HB.out.on (hal o)).store0.2.2.2.2.2
  have HAL := Lib.hid hal
  clear hal
  go_wp2_with fail
  have hp := (HB.out.on (HAL.out (.cells #[.bool r, S k, S f] 25 (0, 0)))).put (i := 0) rfl (.bool r) (S k) (S f)
  refine bodyPost_ret (results_cell_row (P := Tryz.prog) rfl _ _ B 25 _ (0, 0) _ rfl hp.1 Tryz.underlying25 rfl (by kernel_rfl)) rfl ?_
  exact ⟨rfl, hp.2⟩
set_option maxRecDepth 100000 in
set_option maxHeartbeats 3200000 in
theorem same_true (w : World) (p q : Option Addr) (n c1 c2 : Nat) (l : List (List UInt8)) (hp : Vs w p n (l.map S)) (hq : Vs w q n (l.map S)) (hn : n ≤ 1000) : Calls Tryz.prog 8 #[.slice p n c1, .slice q n c2] w (Yld w (.bool true)) := by
  have HP := Lib.hid hp
  have HQ := Lib.hid hq
  clear hp hq
  have HC := Lib.hid (Ch.refl w.heap.size none1 w)
  go_enter Tryz.func8, Tryz.ntmps8
  go_wp2_with fail
  go_loopw [5] (fun i wr => ∃ k : Nat, k ≤ n ∧ i = .int .i64 k ∧ Ch w.heap.size none1 w wr) (fun i _ => n - (intOf i).toNat)
  case atStart => exact ⟨0, Nat.zero_le _, rfl, HC.out⟩
  case round =>
    obtain ⟨k, hk, rfl, hC⟩ := hrel
    have HR := Lib.hid hC
    clear hC HC
    by_cases hlt : k < n
    · obtain ⟨g1, o1, rfl⟩ := HP.out.addr (by omega)
      obtain ⟨g2, o2, rfl⟩ := HQ.out.addr (by omega)
      obtain ⟨t, ht⟩ : ∃ t, (l.map S)[k]? = some t := ⟨(l.map S)[k]'(by rw [HP.out.len]; exact hlt), List.getElem?_eq_getElem _⟩
      obtain ⟨x, hx, rfl⟩ : ∃ x, l[k]? = some x ∧ t = S x := by
        rw [List.getElem?_map] at ht
        cases hh : l[k]? with
        | none => rw [hh] at ht; simp at ht
        | some x => rw [hh] at ht; exact ⟨x, rfl, (Option.some.inj ht).symm⟩
      have c1' := (HP.out.ch HR.out).get ht
      have c2' := (HQ.out.ch HR.out).get ht
      clear ht hx
      go_wp2_with fail
      go_quiet (fail)
      go_wp2_with fail
      exact ⟨⟨k + 1, by omega, by go_num, HR.out.drewN _⟩, by simp [intOf]; omega⟩
    · have hkn : k = n := by omega
      subst hkn
      go_wp2
      go_ret
      exact ⟨rfl, HR.out⟩
theorem kis {q : Rat} {s : Bool} {n d : List UInt8} (h1 : decide (q.num < 0) = s) (h2 : bv n = q.num.natAbs) (h3 : bv d = q.den) (t1 : trimL n = n) (t2 : trimL d = d) : Is q s n d := ⟨h1, nb_is n _ h2 t1, nb_is d _ h3 t2⟩
theorem i_12 : Is ((1 : Int) / (2 : Int) : Rat) false [1] [2] := kis (by decide +kernel) (by decide +kernel) (by decide +kernel) (by decide) (by decide)
theorem i_14 : Is ((-1 : Int) / (4 : Int) : Rat) true [1] [4] := kis (by decide +kernel) (by decide +kernel) (by decide +kernel) (by decide) (by decide)
theorem i_13 : Is ((1 : Int) / (3 : Int) : Rat) false [1] [3] := kis (by decide +kernel) (by decide +kernel) (by decide +kernel) (by decide) (by decide)
theorem i_n13 : Is ((-1 : Int) / (3 : Int) : Rat) true [1] [3] := kis (by decide +kernel) (by decide +kernel) (by decide +kernel) (by decide) (by decide)
theorem i_01 : Is ((0 : Int) / (1 : Int) : Rat) false [] [1] := kis (by decide +kernel) (by decide +kernel) (by decide +kernel) (by decide) (by decide)
theorem i_n32 : Is ((-3 : Int) / (2 : Int) : Rat) true [3] [2] := kis (by decide +kernel) (by decide +kernel) (by decide +kernel) (by decide) (by decide)
theorem i_16 : Is ((1 : Int) / (6 : Int) : Rat) false [1] [6] := kis (by decide +kernel) (by decide +kernel) (by decide +kernel) (by decide) (by decide)
theorem i_n21 : Is ((-2 : Int) / (1 : Int) : Rat) true [2] [1] := kis (by decide +kernel) (by decide +kernel) (by decide +kernel) (by decide) (by decide)
theorem d_64 : decR [54, 47, 52] = none := by decide +kernel
theorem d_n0 : decR [45, 48] = none := by decide +kernel
theorem d_31 : decR [51, 47, 49] = none := by decide +kernel
theorem x_n32 : rtx (true, [3], [2]) = [45, 51, 47, 50] := by decide +kernel
theorem i_sum : Is (((1 : Int) / (2 : Int) : Rat) + ((-1 : Int) / (3 : Int) : Rat)) false [1] [6] := kis (by decide +kernel) (by decide +kernel) (by decide +kernel) (by decide) (by decide)
theorem i_quo : Is (((1 : Int) / (2 : Int) : Rat) / ((-1 : Int) / (4 : Int) : Rat)) true [2] [1] := kis (by decide +kernel) (by decide +kernel) (by decide +kernel) (by decide) (by decide)
theorem i_mk : Is (mq true (bv [6]) (bv [4])) true [3] [2] := kis (by decide +kernel) (by decide +kernel) (by decide +kernel) (by decide) (by decide)
abbrev L3 : List T3 := [(false, [1], [2]), (false, [1], [3]), (false, [], [1])]
theorem l3_bad : bad L3 = false := by decide +kernel
theorem l3_neg : negs L3 = false := by decide
theorem l3_den : nb (dens L3) = [6] := nb_is [6] _ (by decide +kernel) (by decide)
theorem l3_wh : wholes [6] L3 = [[3], [2], []].map S := by
  have h1 : nb (bv [1] * (bv [6] / bv [2])) = [3] := nb_is [3] _ (by decide) (by decide)
  have h2 : nb (bv [1] * (bv [6] / bv [3])) = [2] := nb_is [2] _ (by decide) (by decide)
  have h3 : nb (bv [] * (bv [6] / bv [1])) = [] := nb_is [] _ (by decide) (by decide)
  unfold wholes
  simp only [List.map_cons, List.map_nil, h1, h2, h3]
end Go.Proofs.YtbpoghgokkpckaaGreatDoor
