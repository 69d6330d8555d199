/- The reference's Mod and Layout of layer 3. -/
import Derived.Test.YtehgkpbjbkeoeaaDoorDx
import Derived.Test.YtehgkpbjbkeoeaaDoorHa
import Derived.Deep.CutRange
namespace Go.Proofs.YtehgkpbjbkeoeaaDoor
open Go.RowKit Go.Shelf
attribute [local go_sem] Oper.semAt_some
theorem mod_eq (n m : Int) (h0 : 0 < m) : (n.tmod m + m).tmod m = n % m := by
  have h1 : n = m * n.tdiv m + n.tmod m := (Int.mul_tdiv_add_tmod n m).symm
  have h2 : n.tmod m < m := Int.tmod_lt_of_pos n h0
  have h3 : -m < n.tmod m := by
    have := Int.lt_tmod_of_pos n h0
    omega
  rw [Int.tmod_eq_emod_of_nonneg (by omega), Int.add_emod_right]
  conv => rhs; rw [h1]
  rw [Int.add_comm, Int.add_mul_emod_self_left]
set_option maxRecDepth 100000 in
set_option maxHeartbeats 1600000 in
theorem Mod_any (n m : Int) (h0 : 0 < m) (h1 : m ≤ 4611686018427387904) (w : World) :
    Calls Tryd.prog 15 #[iz n, iz m] w fun e w' => e = .returned (iz (n % m)) ∧ w = w' := by
  have hm := mod_eq n m h0
  have h2 : n.tmod m < m := Int.tmod_lt_of_pos n h0
  have h3 : -m < n.tmod m := by
    have := Int.lt_tmod_of_pos n h0
    omega
  obtain ⟨t, ht⟩ : ∃ t, n.tmod m = t := ⟨_, rfl⟩
  rw [ht] at hm h2 h3
  obtain ⟨r, hr⟩ : ∃ r, (t + m).tmod m = r := ⟨_, rfl⟩
  rw [hr] at hm
  rw [← hm]
  have hz : (m == 0) = false := beq_eq_false_iff_ne.2 (by omega)
  have hz' : ¬ m = 0 := by omega
  have hr0 : -m < r ∧ r < m := by
    rw [← hr]
    exact ⟨by have := Int.lt_tmod_of_pos (t + m) h0; omega, Int.tmod_lt_of_pos (t + m) h0⟩
  have w1 : IntKind.i64.wrap t = t := IntWalk.i64_in _ (by omega)
  have w2 : IntKind.i64.wrap (t + m) = t + m := IntWalk.i64_in _ (by omega)
  have w3 : IntKind.i64.wrap r = r := IntWalk.i64_in _ (by omega)
  clear hm hr0
  go_enter Tryd.func15, Tryd.ntmps15
  go_wp2_with fail
  go_ret
  exact ⟨rfl, rfl⟩
theorem tdiv_in (q m : Int) (hm : 1 < m) (h1 : -9223372036854775808 ≤ q) (h2 : q ≤ 9223372036854775807) : -9223372036854775808 ≤ q.tdiv m ∧ q.tdiv m ≤ 9223372036854775807 := by
  have key : ∀ x : Int, 0 ≤ x → 0 ≤ x.tdiv m ∧ x.tdiv m ≤ x := fun x hx => by
    rw [Int.tdiv_eq_ediv_of_nonneg hx]
    exact ⟨Int.ediv_nonneg hx (by omega), Int.ediv_le_self m hx⟩
  rcases Int.le_total 0 q with h | h
  · have := key q h; omega
  · have e : q.tdiv m = -((-q).tdiv m) := by rw [Int.neg_tdiv]; omega
    have := key (-q) (by omega)
    omega
theorem S_inj {a b : List UInt8} (h : S a = S b) : a = b := by
  have := congrArg (fun v => match v with | .string s => s.data.toList | _ => []) h
  simpa using this
theorem Kq.tail {w W : World} {p : Nat × TypeId × List Value} {l : List (Nat × TypeId × List Value)} (h : Kq w W (p :: l)) : Kq w W l := ⟨h.ch, fun q hq => h.row q (.tail _ hq)⟩
theorem dch0 (w : World) (o : Obj) : Ch w.heap.size none1 w (w.alloc o) := (Ch.refl _ _ _).alloc (Nat.le_refl _) o
def seps : List (List UInt8) := [[45], [46], [47], [32], [44, 32], [120], [32, 111, 102, 32], [95]]
/-- The three places of an order, and what stands there. -/
inductive Row3 (x1 x2 : List UInt8) : Nat → Nat → Nat → List UInt8 → List UInt8 → List UInt8 → Prop
  | r0 : Row3 x1 x2 0 1 2 [89, 89, 89, 89] x1 x2
  | r1 : Row3 x1 x2 0 2 1 [89, 89, 89, 89] x2 x1
  | r2 : Row3 x1 x2 1 0 2 x1 [89, 89, 89, 89] x2
  | r3 : Row3 x1 x2 1 2 0 x1 x2 [89, 89, 89, 89]
  | r4 : Row3 x1 x2 2 0 1 x2 [89, 89, 89, 89] x1
  | r5 : Row3 x1 x2 2 1 0 x2 x1 [89, 89, 89, 89]
theorem Row3.rows {x1 x2 u0 u1 u2 : List UInt8} {a b c : Nat} (h : Row3 x1 x2 a b c u0 u1 u2) : [S [89, 89, 89, 89], S x1, S x2][a]? = some (S u0) ∧ [S [89, 89, 89, 89], S x1, S x2][b]? = some (S u1) ∧ [S [89, 89, 89, 89], S x1, S x2][c]? = some (S u2) := by
  cases h <;> exact ⟨rfl, rfl, rfl⟩
theorem Row3.bds {x1 x2 u0 u1 u2 : List UInt8} {a b c : Nat} (h : Row3 x1 x2 a b c u0 u1 u2) : a < 3 ∧ b < 3 ∧ c < 3 := by
  cases h <;> decide
theorem Row3.lens {x1 x2 u0 u1 u2 : List UInt8} {a b c : Nat} (h : Row3 x1 x2 a b c u0 u1 u2) (hx : (x1 = [77, 77] ∨ x1 = [77]) ∧ (x2 = [68, 68] ∨ x2 = [68])) : u0.length ≤ 4 ∧ u1.length ≤ 4 ∧ u2.length ≤ 4 := by
  obtain ⟨h1, h2⟩ := hx
  have l1 : x1.length ≤ 4 := by rcases h1 with rfl | rfl <;> decide
  have l2 : x2.length ≤ 4 := by rcases h2 with rfl | rfl <;> decide
  cases h <;> exact ⟨by first | assumption | decide, by first | assumption | decide, by first | assumption | decide⟩
theorem lay_right : ∀ x1 ∈ ([[77, 77], [77]] : List (List UInt8)), ∀ x2 ∈ ([[68, 68], [68]] : List (List UInt8)), ∀ sp ∈ seps,
    (Lay.right ([89, 89, 89, 89] ++ sp ++ x1 ++ sp ++ x2) && (Lay.right ([89, 89, 89, 89] ++ sp ++ x2 ++ sp ++ x1) && (Lay.right (x1 ++ sp ++ [89, 89, 89, 89] ++ sp ++ x2) && (Lay.right (x1 ++ sp ++ x2 ++ sp ++ [89, 89, 89, 89]) && (Lay.right (x2 ++ sp ++ [89, 89, 89, 89] ++ sp ++ x1) && Lay.right (x2 ++ sp ++ x1 ++ sp ++ [89, 89, 89, 89])))))) = true := by decide +kernel
theorem Row3.right {x1 x2 u0 u1 u2 sp : List UInt8} {a b c : Nat} (h : Row3 x1 x2 a b c u0 u1 u2) (hx : (x1 = [77, 77] ∨ x1 = [77]) ∧ (x2 = [68, 68] ∨ x2 = [68])) (hs : sp ∈ seps) : Lay.right (u0 ++ sp ++ u1 ++ sp ++ u2) = true := by
  have hm1 : x1 ∈ ([[77, 77], [77]] : List (List UInt8)) := by rcases hx.1 with rfl | rfl <;> simp
  have hm2 : x2 ∈ ([[68, 68], [68]] : List (List UInt8)) := by rcases hx.2 with rfl | rfl <;> simp
  have k := lay_right x1 hm1 x2 hm2 sp hs
  simp only [Bool.and_eq_true] at k
  obtain ⟨k0, k1, k2, k3, k4, k5⟩ := k
  cases h <;> assumption
theorem str_end {v : Value} (s : ByteArray) (hv : v = .string s) (h : s.size ≤ 200) : ∃ l, Ending.returned v = .returned (S l) ∧ l.length ≤ 200 ∧ (true = false → Lay.right l = true) := ⟨s.data.toList, by rw [hv], by simpa using h, fun q => nomatch q⟩
theorem bsz (a : Array UInt8) : (ByteArray.mk a).size = a.size := rfl
/-- What stands in the slots of the fields. -/
def Fld (b1 b2 : Bool) : List (List UInt8) := [[89, 89, 89, 89], if b1 then [77] else [77, 77], if b2 then [68] else [68, 68]]
set_option maxRecDepth 100000 in
set_option maxHeartbeats 8000000 in
theorem Layout_any (q0 q1 q2 : Int) (b : Bool) (w : World) (k0 : -9223372036854775808 ≤ q0) (k1 : q0 ≤ 9223372036854775807) (k2 : -9223372036854775808 ≤ q2) (k3 : q2 ≤ 9223372036854775807) :
    Calls Tryd.prog 12 #[.agg #[iz q0, iz q1, iz q2], .bool b] w fun e w' => (∃ l, e = .returned (S l) ∧ l.length ≤ 200 ∧ (b = false → Lay.right l = true)) ∧ Ch w.heap.size none1 w w' := by
  obtain ⟨B, hB⟩ : ∃ B, w.heap.size = B := ⟨_, rfl⟩
  have hq := Blk.new w #[iz q0, iz q1, iz q2] 30
  rw [hB] at hq
  have c0 := hq.cell 0
  have c1 := hq.cell 1
  have c2 := hq.cell 2
  simp only [List.getElem?_cons_zero, List.getElem?_cons_succ] at c0 c1 c2
  have HM0 := Lib.hid (fun w' => Mod_any q0 2 (by omega) (by omega) w')
  have HM1 := Lib.hid (fun w' => Mod_any (q0.tdiv 2) 2 (by omega) (by omega) w')
  have HM2 := Lib.hid (fun w' => Mod_any q1 6 (by omega) (by omega) w')
  have HM3 := Lib.hid (fun w' => Mod_any q2 8 (by omega) (by omega) w')
  have HM4 := Lib.hid (fun w' => Mod_any (q2.tdiv 8) 9 (by omega) (by omega) w')
  obtain ⟨t1, t2⟩ := tdiv_in q0 2 (by omega) k0 k1
  obtain ⟨t3, t4⟩ := tdiv_in q2 8 (by omega) k2 k3
  have hw0 : IntKind.i64.wrap (q0.tdiv 2) = q0.tdiv 2 := IntWalk.i64_in _ (by omega)
  have hw2 : IntKind.i64.wrap (q2.tdiv 8) = q2.tdiv 8 := IntWalk.i64_in _ (by omega)
  have z2 : ((2 : Int) == 0) = false := rfl
  have z8 : ((8 : Int) == 0) = false := rfl
  go_enter Tryd.func12, Tryd.ntmps12
  go_upto_region 1 with fail
  obtain ⟨W0, hW0⟩ : ∃ W, w.alloc (.cells #[iz q0, iz q1, iz q2] 30) = W := ⟨_, rfl⟩
  rw [hW0] at c0 c1 c2 ⊢
  have HQ := Lib.hid (show Blk W0 B 30 [iz q0, iz q1, iz q2] by rw [← hW0]; exact hq)
  have HB := Lib.hid (show Ch w.heap.size none1 w W0 by rw [← hW0]; exact dch0 _ _)
  have HBB := Lib.hid hB
  clear hW0 hq hB
  obtain ⟨i, hi⟩ : ∃ i : Nat, q0 % 2 = (i : Int) := ⟨(q0 % 2).toNat, by omega⟩
  obtain ⟨j, hj⟩ : ∃ j : Nat, q0.tdiv 2 % 2 = (j : Int) := ⟨(q0.tdiv 2 % 2).toNat, by omega⟩
  have i2 : (i : Int) < 2 := by omega
  have j2 : (j : Int) < 2 := by omega
  rw [hi] at HM0
  rw [hj] at HM1
  clear hi hj
  go_cut [5] from 10 to 23 (fun f wx => ∃ (g : Nat) (x1 x2 : List UInt8), f = .slice (some ⟨g, 0, none⟩) 3 3 ∧ Blk wx g 9 [S [89, 89, 89, 89], S x1, S x2] ∧ ((x1 = [77, 77] ∨ x1 = [77]) ∧ (x2 = [68, 68] ∨ x2 = [68])) ∧ Ch W0.heap.size none1 W0 wx)
  case first =>
    obtain ⟨x1, hx1⟩ : ∃ x : List UInt8, [S [77, 77], S [77]][i]? = some (S x) := by
      rcases (show i = 0 ∨ i = 1 by omega) with rfl | rfl
      · exact ⟨_, rfl⟩
      · exact ⟨_, rfl⟩
    obtain ⟨x2, hx2⟩ : ∃ x : List UInt8, [S [68, 68], S [68]][j]? = some (S x) := by
      rcases (show j = 0 ∨ j = 1 by omega) with rfl | rfl
      · exact ⟨_, rfl⟩
      · exact ⟨_, rfl⟩
    have HX := Lib.hid (show (x1 = [77, 77] ∨ x1 = [77]) ∧ (x2 = [68, 68] ∨ x2 = [68]) by
      constructor
      · rcases (show i = 0 ∨ i = 1 by omega) with rfl | rfl
        · exact .inl (S_inj (Option.some.inj hx1)).symm
        · exact .inr (S_inj (Option.some.inj hx1)).symm
      · rcases (show j = 0 ∨ j = 1 by omega) with rfl | rfl
        · exact .inl (S_inj (Option.some.inj hx2)).symm
        · exact .inr (S_inj (Option.some.inj hx2)).symm)
    have HX1 := Lib.hid hx1
    have HX2 := Lib.hid hx2
    clear hx1 hx2 c0 c1 c2
    have HK := Lib.hid (show Kq W0 W0.drew [(B, 30, [iz q0, iz q1, iz q2])] from ⟨(Ch.refl _ _ _).drew, fun p hp => by
      obtain rfl := List.mem_singleton.1 hp
      exact HQ.out.drew⟩)
    have HS0 := Lib.hid (show ∀ W, Kq W0 W [(B, 30, [iz q0, iz q1, iz q2])] → W.cell? ⟨B, 0, none⟩ = some (iz q0) from fun W h => (h.row _ (.head _)).cell 0)
    refine wp_region_held_drew (S := fun w' => w'.cell? ⟨B, 0, none⟩ = some (iz q0)) (by kernel_rfl) ?_ (fun hHeld => ?_)
    · (try dsimp only); exact HS0.out _ HK.out
    obtain ⟨Wd, hWd⟩ : ∃ W, W0.drew = W := ⟨_, rfl⟩
    rw [hWd] at HK hHeld ⊢
    clear hWd
    refine tk 1 (v := ?_) hHeld ?_ ?_
    rotate_left 1
    · intro _ hw; (try dsimp only at hw); go_simp; try with_reducible rfl
    (try simp only [Act.put, List.setIfInBounds_toArray, List.set_cons_zero, List.set_cons_succ])
    refine tk 2 (v := ?_) hHeld ?_ ?_
    rotate_left 1
    · intro _ hw; (try dsimp only at hw); go_simp; try with_reducible rfl
    (try simp only [Act.put, List.setIfInBounds_toArray, List.set_cons_zero, List.set_cons_succ])
    refine tk 7 (v := ?_) hHeld ?_ ?_
    rotate_left 1
    · intro _ hw; (try dsimp only at hw); go_simp; try with_reducible rfl
    (try simp only [Act.put, List.setIfInBounds_toArray, List.set_cons_zero, List.set_cons_succ])
    refine tk 8 (v := ?_) hHeld ?_ ?_
    rotate_left 1
    · intro _ hw; (try dsimp only at hw); go_simp; try with_reducible rfl
    (try simp only [Act.put, List.setIfInBounds_toArray, List.set_cons_zero, List.set_cons_succ])
    refine tk 9 (v := ?_) hHeld ?_ ?_
    rotate_left 1
    · intro _ hw; (try dsimp only at hw); go_simp; try with_reducible rfl
    (try simp only [Act.put, List.setIfInBounds_toArray, List.set_cons_zero, List.set_cons_succ])
    refine wpAnyH_ready (rs := [0, 3, 6]) (by kernel_rfl) (by simp) ?_
    refine AllReadyH.cons (at_list rfl) (fun K hK => ?_) (AllReadyH.cons (at_list rfl) (fun K hK => ?_) (AllReadyH.cons (at_list rfl) (fun K hK => ?_) (AllReadyH.nil)))
    · go_simp
      clear hHeld
      have HK2 := Lib.hid (HK.out.new #[S [77, 77], S [77]] 9)
      refine hK.out _ _ ?_ (fun hHeld => ?_)
      · (try dsimp only); exact HS0.out _ HK2.out.tail
      clear hK K HK hHeld
      have HK := HK2
      clear HK2
      obtain ⟨A, hg⟩ : ∃ g, Wd.heap.size = g := ⟨_, rfl⟩
      rw [hg] at HK ⊢
      clear hg
      obtain ⟨W1, hW⟩ : ∃ W, Wd.alloc (.cells #[S [77, 77], S [77]] 9 (0, 0)) = W := ⟨_, rfl⟩
      rw [hW] at HK ⊢
      clear hW
      (try simp only [Act.put, List.setIfInBounds_toArray, List.set_cons_zero, List.set_cons_succ])
      have HS1 := Lib.hid (show ∀ W, Kq W0 W [(A, 9, [S [77, 77], S [77]]), (B, 30, [iz q0, iz q1, iz q2])] → W.cell? ⟨B, 0, none⟩ = some (iz q0) ∧ W.cell? ⟨A, i, none⟩ = some (S x1) from fun W h => ⟨(h.row _ (.tail _ (.head _))).cell 0, ((h.row _ (.head _)).cell i).trans HX1.out⟩)
      refine wpAnyH_more (S' := fun w' => w'.cell? ⟨B, 0, none⟩ = some (iz q0) ∧ w'.cell? ⟨A, i, none⟩ = some (S x1)) (fun w' h => h.1) _ _ _ _ ?_
      have hHeld := HS1.out _ HK.out
      refine wpAnyH_ready (rs := [3, 6]) (by kernel_rfl) (by simp) ?_
      refine AllReadyH.cons (at_list rfl) (fun K hK => ?_) (AllReadyH.cons (at_list rfl) (fun K hK => ?_) (AllReadyH.nil))
      · go_simp
        go_at_call 15; with_reducible refine (HM0.out _).mono ?_; rintro e wq ⟨rfl, rfl⟩
        clear hHeld
        refine hK.out _ _ ?_ (fun hHeld => ?_)
        · (try dsimp only); exact HS1.out _ HK.out
        clear hK K
        (try simp only [Act.put, List.setIfInBounds_toArray, List.set_cons_zero, List.set_cons_succ])
        refine tk 4 (v := ?_) hHeld ?_ ?_
        rotate_left 1
        · intro _ hw; (try dsimp only at hw); go_simp; try with_reducible rfl
        (try simp only [Act.put, List.setIfInBounds_toArray, List.set_cons_zero, List.set_cons_succ])
        refine tk 5 (v := ?_) hHeld ?_ ?_
        rotate_left 1
        · intro _ hw; (try dsimp only at hw); go_simp; try with_reducible rfl
        (try simp only [Act.put, List.setIfInBounds_toArray, List.set_cons_zero, List.set_cons_succ])
        refine wpAnyH_ready (rs := [6, 10]) (by kernel_rfl) (by simp) ?_
        refine AllReadyH.cons (at_list rfl) (fun K hK => ?_) (AllReadyH.cons (at_list rfl) (fun K hK => ?_) (AllReadyH.nil))
        · go_simp
          clear hHeld
          have HK2 := Lib.hid (HK.out.new #[S [68, 68], S [68]] 9)
          refine hK.out _ _ ?_ (fun hHeld => ?_)
          · (try dsimp only); exact HS1.out _ HK2.out.tail
          clear hK K HK hHeld
          have HK := HK2
          clear HK2
          obtain ⟨C, hg⟩ : ∃ g, W1.heap.size = g := ⟨_, rfl⟩
          rw [hg] at HK ⊢
          clear hg
          obtain ⟨W2, hW⟩ : ∃ W, W1.alloc (.cells #[S [68, 68], S [68]] 9 (0, 0)) = W := ⟨_, rfl⟩
          rw [hW] at HK ⊢
          clear hW
          (try simp only [Act.put, List.setIfInBounds_toArray, List.set_cons_zero, List.set_cons_succ])
          have HS2 := Lib.hid (show ∀ W, Kq W0 W [(C, 9, [S [68, 68], S [68]]), (A, 9, [S [77, 77], S [77]]), (B, 30, [iz q0, iz q1, iz q2])] → W.cell? ⟨B, 0, none⟩ = some (iz q0) ∧ W.cell? ⟨A, i, none⟩ = some (S x1) ∧ W.cell? ⟨C, j, none⟩ = some (S x2) from fun W h => ⟨(h.row _ (.tail _ (.tail _ (.head _)))).cell 0, ((h.row _ (.tail _ (.head _))).cell i).trans HX1.out, ((h.row _ (.head _)).cell j).trans HX2.out⟩)
          refine wpAnyH_more (S' := fun w' => w'.cell? ⟨B, 0, none⟩ = some (iz q0) ∧ w'.cell? ⟨A, i, none⟩ = some (S x1) ∧ w'.cell? ⟨C, j, none⟩ = some (S x2)) (fun w' h => ⟨h.1, h.2.1⟩) _ _ _ _ ?_
          have hHeld := HS2.out _ HK.out
          refine wpAnyH_ready (rs := [10]) (by kernel_rfl) (by simp) ?_
          refine AllReadyH.cons (at_list rfl) (fun K hK => ?_) (AllReadyH.nil)
          go_simp
          go_at_call 15; with_reducible refine (HM1.out _).mono ?_; rintro e wq ⟨rfl, rfl⟩
          clear hHeld
          refine hK.out _ _ ?_ (fun hHeld => ?_)
          · (try dsimp only); exact HS2.out _ HK.out
          clear hK K
          (try simp only [Act.put, List.setIfInBounds_toArray, List.set_cons_zero, List.set_cons_succ])
          refine tk 11 (v := ?_) hHeld ?_ ?_
          rotate_left 1
          · intro _ hw; (try dsimp only at hw); go_simp; try with_reducible rfl
          (try simp only [Act.put, List.setIfInBounds_toArray, List.set_cons_zero, List.set_cons_succ])
          refine tk 12 (v := ?_) hHeld ?_ ?_
          rotate_left 1
          · intro _ hw; (try dsimp only at hw); go_simp; try with_reducible rfl
          (try simp only [Act.put, List.setIfInBounds_toArray, List.set_cons_zero, List.set_cons_succ])
          refine wpAnyH_ready (rs := [13]) (by kernel_rfl) (by simp) ?_
          refine AllReadyH.cons (at_list rfl) (fun K hK => ?_) (AllReadyH.nil)
          go_simp
          clear hHeld
          have HK2 := Lib.hid (HK.out.new #[S [89, 89, 89, 89], S x1, S x2] 9)
          refine hK.out _ _ ?_ (fun hHeld => ?_)
          · (try dsimp only); exact HS2.out _ HK2.out.tail
          clear hK K HK hHeld
          have HK := HK2
          clear HK2
          obtain ⟨F, hg⟩ : ∃ g, W2.heap.size = g := ⟨_, rfl⟩
          rw [hg] at HK ⊢
          clear hg
          obtain ⟨W3, hW⟩ : ∃ W, W2.alloc (.cells #[S [89, 89, 89, 89], S x1, S x2] 9 (0, 0)) = W := ⟨_, rfl⟩
          rw [hW] at HK ⊢
          clear hW
          (try simp only [Act.put, List.setIfInBounds_toArray, List.set_cons_zero, List.set_cons_succ])
          have HS3 := Lib.hid (show ∀ W, Kq W0 W [(F, 9, [S [89, 89, 89, 89], S x1, S x2]), (C, 9, [S [68, 68], S [68]]), (A, 9, [S [77, 77], S [77]]), (B, 30, [iz q0, iz q1, iz q2])] → W.cell? ⟨B, 0, none⟩ = some (iz q0) ∧ W.cell? ⟨A, i, none⟩ = some (S x1) ∧ W.cell? ⟨C, j, none⟩ = some (S x2) from fun W h => ⟨(h.row _ (.tail _ (.tail _ (.tail _ (.head _))))).cell 0, ((h.row _ (.tail _ (.tail _ (.head _)))).cell i).trans HX1.out, ((h.row _ (.tail _ (.head _))).cell j).trans HX2.out⟩)
          have hHeld := HS3.out _ HK.out
          refine tk 14 (v := ?_) hHeld ?_ ?_
          rotate_left 1
          · intro _ hw; (try dsimp only at hw); go_simp; try with_reducible rfl
          (try simp only [Act.put, List.setIfInBounds_toArray, List.set_cons_zero, List.set_cons_succ])
          refine wpAnyH_done (by kernel_rfl) ?_ _
          clear hHeld
          go_wp2_with fail
          go_meet
          exact ⟨F, x1, x2, rfl, HK.out.row _ (.head _), HX.out, HK.out.ch⟩
        · go_simp
          go_at_call 15; with_reducible refine (HM1.out _).mono ?_; rintro e wq ⟨rfl, rfl⟩
          clear hHeld
          refine hK.out _ _ ?_ (fun hHeld => ?_)
          · (try dsimp only); exact HS1.out _ HK.out
          clear hK K
          (try simp only [Act.put, List.setIfInBounds_toArray, List.set_cons_zero, List.set_cons_succ])
          refine wpAnyH_ready (rs := [6]) (by kernel_rfl) (by simp) ?_
          refine AllReadyH.cons (at_list rfl) (fun K hK => ?_) (AllReadyH.nil)
          go_simp
          clear hHeld
          have HK2 := Lib.hid (HK.out.new #[S [68, 68], S [68]] 9)
          refine hK.out _ _ ?_ (fun hHeld => ?_)
          · (try dsimp only); exact HS1.out _ HK2.out.tail
          clear hK K HK hHeld
          have HK := HK2
          clear HK2
          obtain ⟨C, hg⟩ : ∃ g, W1.heap.size = g := ⟨_, rfl⟩
          rw [hg] at HK ⊢
          clear hg
          obtain ⟨W2, hW⟩ : ∃ W, W1.alloc (.cells #[S [68, 68], S [68]] 9 (0, 0)) = W := ⟨_, rfl⟩
          rw [hW] at HK ⊢
          clear hW
          (try simp only [Act.put, List.setIfInBounds_toArray, List.set_cons_zero, List.set_cons_succ])
          have HS2 := Lib.hid (show ∀ W, Kq W0 W [(C, 9, [S [68, 68], S [68]]), (A, 9, [S [77, 77], S [77]]), (B, 30, [iz q0, iz q1, iz q2])] → W.cell? ⟨B, 0, none⟩ = some (iz q0) ∧ W.cell? ⟨A, i, none⟩ = some (S x1) ∧ W.cell? ⟨C, j, none⟩ = some (S x2) from fun W h => ⟨(h.row _ (.tail _ (.tail _ (.head _)))).cell 0, ((h.row _ (.tail _ (.head _))).cell i).trans HX1.out, ((h.row _ (.head _)).cell j).trans HX2.out⟩)
          refine wpAnyH_more (S' := fun w' => w'.cell? ⟨B, 0, none⟩ = some (iz q0) ∧ w'.cell? ⟨A, i, none⟩ = some (S x1) ∧ w'.cell? ⟨C, j, none⟩ = some (S x2)) (fun w' h => ⟨h.1, h.2.1⟩) _ _ _ _ ?_
          have hHeld := HS2.out _ HK.out
          refine tk 11 (v := ?_) hHeld ?_ ?_
          rotate_left 1
          · intro _ hw; (try dsimp only at hw); go_simp; try with_reducible rfl
          (try simp only [Act.put, List.setIfInBounds_toArray, List.set_cons_zero, List.set_cons_succ])
          refine tk 12 (v := ?_) hHeld ?_ ?_
          rotate_left 1
          · intro _ hw; (try dsimp only at hw); go_simp; try with_reducible rfl
          (try simp only [Act.put, List.setIfInBounds_toArray, List.set_cons_zero, List.set_cons_succ])
          refine wpAnyH_ready (rs := [13]) (by kernel_rfl) (by simp) ?_
          refine AllReadyH.cons (at_list rfl) (fun K hK => ?_) (AllReadyH.nil)
          go_simp
          clear hHeld
          have HK2 := Lib.hid (HK.out.new #[S [89, 89, 89, 89], S x1, S x2] 9)
          refine hK.out _ _ ?_ (fun hHeld => ?_)
          · (try dsimp only); exact HS2.out _ HK2.out.tail
          clear hK K HK hHeld
          have HK := HK2
          clear HK2
          obtain ⟨F, hg⟩ : ∃ g, W2.heap.size = g := ⟨_, rfl⟩
          rw [hg] at HK ⊢
          clear hg
          obtain ⟨W3, hW⟩ : ∃ W, W2.alloc (.cells #[S [89, 89, 89, 89], S x1, S x2] 9 (0, 0)) = W := ⟨_, rfl⟩
          rw [hW] at HK ⊢
          clear hW
          (try simp only [Act.put, List.setIfInBounds_toArray, List.set_cons_zero, List.set_cons_succ])
          have HS3 := Lib.hid (show ∀ W, Kq W0 W [(F, 9, [S [89, 89, 89, 89], S x1, S x2]), (C, 9, [S [68, 68], S [68]]), (A, 9, [S [77, 77], S [77]]), (B, 30, [iz q0, iz q1, iz q2])] → W.cell? ⟨B, 0, none⟩ = some (iz q0) ∧ W.cell? ⟨A, i, none⟩ = some (S x1) ∧ W.cell? ⟨C, j, none⟩ = some (S x2) from fun W h => ⟨(h.row _ (.tail _ (.tail _ (.tail _ (.head _))))).cell 0, ((h.row _ (.tail _ (.tail _ (.head _)))).cell i).trans HX1.out, ((h.row _ (.tail _ (.head _))).cell j).trans HX2.out⟩)
          have hHeld := HS3.out _ HK.out
          refine tk 14 (v := ?_) hHeld ?_ ?_
          rotate_left 1
          · intro _ hw; (try dsimp only at hw); go_simp; try with_reducible rfl
          (try simp only [Act.put, List.setIfInBounds_toArray, List.set_cons_zero, List.set_cons_succ])
          refine wpAnyH_done (by kernel_rfl) ?_ _
          clear hHeld
          go_wp2_with fail
          go_meet
          exact ⟨F, x1, x2, rfl, HK.out.row _ (.head _), HX.out, HK.out.ch⟩
      · go_simp
        clear hHeld
        have HK2 := Lib.hid (HK.out.new #[S [68, 68], S [68]] 9)
        refine hK.out _ _ ?_ (fun hHeld => ?_)
        · (try dsimp only); exact HS1.out _ HK2.out.tail
        clear hK K HK hHeld
        have HK := HK2
        clear HK2
        obtain ⟨C, hg⟩ : ∃ g, W1.heap.size = g := ⟨_, rfl⟩
        rw [hg] at HK ⊢
        clear hg
        obtain ⟨W2, hW⟩ : ∃ W, W1.alloc (.cells #[S [68, 68], S [68]] 9 (0, 0)) = W := ⟨_, rfl⟩
        rw [hW] at HK ⊢
        clear hW
        (try simp only [Act.put, List.setIfInBounds_toArray, List.set_cons_zero, List.set_cons_succ])
        have HS2 := Lib.hid (show ∀ W, Kq W0 W [(C, 9, [S [68, 68], S [68]]), (A, 9, [S [77, 77], S [77]]), (B, 30, [iz q0, iz q1, iz q2])] → W.cell? ⟨B, 0, none⟩ = some (iz q0) ∧ W.cell? ⟨A, i, none⟩ = some (S x1) ∧ W.cell? ⟨C, j, none⟩ = some (S x2) from fun W h => ⟨(h.row _ (.tail _ (.tail _ (.head _)))).cell 0, ((h.row _ (.tail _ (.head _))).cell i).trans HX1.out, ((h.row _ (.head _)).cell j).trans HX2.out⟩)
        refine wpAnyH_more (S' := fun w' => w'.cell? ⟨B, 0, none⟩ = some (iz q0) ∧ w'.cell? ⟨A, i, none⟩ = some (S x1) ∧ w'.cell? ⟨C, j, none⟩ = some (S x2)) (fun w' h => ⟨h.1, h.2.1⟩) _ _ _ _ ?_
        have hHeld := HS2.out _ HK.out
        refine wpAnyH_ready (rs := [3]) (by kernel_rfl) (by simp) ?_
        refine AllReadyH.cons (at_list rfl) (fun K hK => ?_) (AllReadyH.nil)
        go_simp
        go_at_call 15; with_reducible refine (HM0.out _).mono ?_; rintro e wq ⟨rfl, rfl⟩
        clear hHeld
        refine hK.out _ _ ?_ (fun hHeld => ?_)
        · (try dsimp only); exact HS2.out _ HK.out
        clear hK K
        (try simp only [Act.put, List.setIfInBounds_toArray, List.set_cons_zero, List.set_cons_succ])
        refine tk 4 (v := ?_) hHeld ?_ ?_
        rotate_left 1
        · intro _ hw; (try dsimp only at hw); go_simp; try with_reducible rfl
        (try simp only [Act.put, List.setIfInBounds_toArray, List.set_cons_zero, List.set_cons_succ])
        refine tk 5 (v := ?_) hHeld ?_ ?_
        rotate_left 1
        · intro _ hw; (try dsimp only at hw); go_simp; try with_reducible rfl
        (try simp only [Act.put, List.setIfInBounds_toArray, List.set_cons_zero, List.set_cons_succ])
        refine wpAnyH_ready (rs := [10]) (by kernel_rfl) (by simp) ?_
        refine AllReadyH.cons (at_list rfl) (fun K hK => ?_) (AllReadyH.nil)
        go_simp
        go_at_call 15; with_reducible refine (HM1.out _).mono ?_; rintro e wq ⟨rfl, rfl⟩
        clear hHeld
        refine hK.out _ _ ?_ (fun hHeld => ?_)
        · (try dsimp only); exact HS2.out _ HK.out
        clear hK K
        (try simp only [Act.put, List.setIfInBounds_toArray, List.set_cons_zero, List.set_cons_succ])
        refine tk 11 (v := ?_) hHeld ?_ ?_
        rotate_left 1
        · intro _ hw; (try dsimp only at hw); go_simp; try with_reducible rfl
        (try simp only [Act.put, List.setIfInBounds_toArray, List.set_cons_zero, List.set_cons_succ])
        refine tk 12 (v := ?_) hHeld ?_ ?_
        rotate_left 1
        · intro _ hw; (try dsimp only at hw); go_simp; try with_reducible rfl
        (try simp only [Act.put, List.setIfInBounds_toArray, List.set_cons_zero, List.set_cons_succ])
        refine wpAnyH_ready (rs := [13]) (by kernel_rfl) (by simp) ?_
        refine AllReadyH.cons (at_list rfl) (fun K hK => ?_) (AllReadyH.nil)
        go_simp
        clear hHeld
        have HK2 := Lib.hid (HK.out.new #[S [89, 89, 89, 89], S x1, S x2] 9)
        refine hK.out _ _ ?_ (fun hHeld => ?_)
        · (try dsimp only); exact HS2.out _ HK2.out.tail
        clear hK K HK hHeld
        have HK := HK2
        clear HK2
        obtain ⟨F, hg⟩ : ∃ g, W2.heap.size = g := ⟨_, rfl⟩
        rw [hg] at HK ⊢
        clear hg
        obtain ⟨W3, hW⟩ : ∃ W, W2.alloc (.cells #[S [89, 89, 89, 89], S x1, S x2] 9 (0, 0)) = W := ⟨_, rfl⟩
        rw [hW] at HK ⊢
        clear hW
        (try simp only [Act.put, List.setIfInBounds_toArray, List.set_cons_zero, List.set_cons_succ])
        have HS3 := Lib.hid (show ∀ W, Kq W0 W [(F, 9, [S [89, 89, 89, 89], S x1, S x2]), (C, 9, [S [68, 68], S [68]]), (A, 9, [S [77, 77], S [77]]), (B, 30, [iz q0, iz q1, iz q2])] → W.cell? ⟨B, 0, none⟩ = some (iz q0) ∧ W.cell? ⟨A, i, none⟩ = some (S x1) ∧ W.cell? ⟨C, j, none⟩ = some (S x2) from fun W h => ⟨(h.row _ (.tail _ (.tail _ (.tail _ (.head _))))).cell 0, ((h.row _ (.tail _ (.tail _ (.head _)))).cell i).trans HX1.out, ((h.row _ (.tail _ (.head _))).cell j).trans HX2.out⟩)
        have hHeld := HS3.out _ HK.out
        refine tk 14 (v := ?_) hHeld ?_ ?_
        rotate_left 1
        · intro _ hw; (try dsimp only at hw); go_simp; try with_reducible rfl
        (try simp only [Act.put, List.setIfInBounds_toArray, List.set_cons_zero, List.set_cons_succ])
        refine wpAnyH_done (by kernel_rfl) ?_ _
        clear hHeld
        go_wp2_with fail
        go_meet
        exact ⟨F, x1, x2, rfl, HK.out.row _ (.head _), HX.out, HK.out.ch⟩
    · go_simp
      go_at_call 15; with_reducible refine (HM0.out _).mono ?_; rintro e wq ⟨rfl, rfl⟩
      clear hHeld
      refine hK.out _ _ ?_ (fun hHeld => ?_)
      · (try dsimp only); exact HS0.out _ HK.out
      clear hK K
      (try simp only [Act.put, List.setIfInBounds_toArray, List.set_cons_zero, List.set_cons_succ])
      refine wpAnyH_ready (rs := [0, 6, 10]) (by kernel_rfl) (by simp) ?_
      refine AllReadyH.cons (at_list rfl) (fun K hK => ?_) (AllReadyH.cons (at_list rfl) (fun K hK => ?_) (AllReadyH.cons (at_list rfl) (fun K hK => ?_) (AllReadyH.nil)))
      · go_simp
        clear hHeld
        have HK2 := Lib.hid (HK.out.new #[S [77, 77], S [77]] 9)
        refine hK.out _ _ ?_ (fun hHeld => ?_)
        · (try dsimp only); exact HS0.out _ HK2.out.tail
        clear hK K HK hHeld
        have HK := HK2
        clear HK2
        obtain ⟨A, hg⟩ : ∃ g, Wd.heap.size = g := ⟨_, rfl⟩
        rw [hg] at HK ⊢
        clear hg
        obtain ⟨W1, hW⟩ : ∃ W, Wd.alloc (.cells #[S [77, 77], S [77]] 9 (0, 0)) = W := ⟨_, rfl⟩
        rw [hW] at HK ⊢
        clear hW
        (try simp only [Act.put, List.setIfInBounds_toArray, List.set_cons_zero, List.set_cons_succ])
        have HS1 := Lib.hid (show ∀ W, Kq W0 W [(A, 9, [S [77, 77], S [77]]), (B, 30, [iz q0, iz q1, iz q2])] → W.cell? ⟨B, 0, none⟩ = some (iz q0) ∧ W.cell? ⟨A, i, none⟩ = some (S x1) from fun W h => ⟨(h.row _ (.tail _ (.head _))).cell 0, ((h.row _ (.head _)).cell i).trans HX1.out⟩)
        refine wpAnyH_more (S' := fun w' => w'.cell? ⟨B, 0, none⟩ = some (iz q0) ∧ w'.cell? ⟨A, i, none⟩ = some (S x1)) (fun w' h => h.1) _ _ _ _ ?_
        have hHeld := HS1.out _ HK.out
        refine tk 4 (v := ?_) hHeld ?_ ?_
        rotate_left 1
        · intro _ hw; (try dsimp only at hw); go_simp; try with_reducible rfl
        (try simp only [Act.put, List.setIfInBounds_toArray, List.set_cons_zero, List.set_cons_succ])
        refine tk 5 (v := ?_) hHeld ?_ ?_
        rotate_left 1
        · intro _ hw; (try dsimp only at hw); go_simp; try with_reducible rfl
        (try simp only [Act.put, List.setIfInBounds_toArray, List.set_cons_zero, List.set_cons_succ])
        refine wpAnyH_ready (rs := [6, 10]) (by kernel_rfl) (by simp) ?_
        refine AllReadyH.cons (at_list rfl) (fun K hK => ?_) (AllReadyH.cons (at_list rfl) (fun K hK => ?_) (AllReadyH.nil))
        · go_simp
          clear hHeld
          have HK2 := Lib.hid (HK.out.new #[S [68, 68], S [68]] 9)
          refine hK.out _ _ ?_ (fun hHeld => ?_)
          · (try dsimp only); exact HS1.out _ HK2.out.tail
          clear hK K HK hHeld
          have HK := HK2
          clear HK2
          obtain ⟨C, hg⟩ : ∃ g, W1.heap.size = g := ⟨_, rfl⟩
          rw [hg] at HK ⊢
          clear hg
          obtain ⟨W2, hW⟩ : ∃ W, W1.alloc (.cells #[S [68, 68], S [68]] 9 (0, 0)) = W := ⟨_, rfl⟩
          rw [hW] at HK ⊢
          clear hW
          (try simp only [Act.put, List.setIfInBounds_toArray, List.set_cons_zero, List.set_cons_succ])
          have HS2 := Lib.hid (show ∀ W, Kq W0 W [(C, 9, [S [68, 68], S [68]]), (A, 9, [S [77, 77], S [77]]), (B, 30, [iz q0, iz q1, iz q2])] → W.cell? ⟨B, 0, none⟩ = some (iz q0) ∧ W.cell? ⟨A, i, none⟩ = some (S x1) ∧ W.cell? ⟨C, j, none⟩ = some (S x2) from fun W h => ⟨(h.row _ (.tail _ (.tail _ (.head _)))).cell 0, ((h.row _ (.tail _ (.head _))).cell i).trans HX1.out, ((h.row _ (.head _)).cell j).trans HX2.out⟩)
          refine wpAnyH_more (S' := fun w' => w'.cell? ⟨B, 0, none⟩ = some (iz q0) ∧ w'.cell? ⟨A, i, none⟩ = some (S x1) ∧ w'.cell? ⟨C, j, none⟩ = some (S x2)) (fun w' h => ⟨h.1, h.2.1⟩) _ _ _ _ ?_
          have hHeld := HS2.out _ HK.out
          refine wpAnyH_ready (rs := [10]) (by kernel_rfl) (by simp) ?_
          refine AllReadyH.cons (at_list rfl) (fun K hK => ?_) (AllReadyH.nil)
          go_simp
          go_at_call 15; with_reducible refine (HM1.out _).mono ?_; rintro e wq ⟨rfl, rfl⟩
          clear hHeld
          refine hK.out _ _ ?_ (fun hHeld => ?_)
          · (try dsimp only); exact HS2.out _ HK.out
          clear hK K
          (try simp only [Act.put, List.setIfInBounds_toArray, List.set_cons_zero, List.set_cons_succ])
          refine tk 11 (v := ?_) hHeld ?_ ?_
          rotate_left 1
          · intro _ hw; (try dsimp only at hw); go_simp; try with_reducible rfl
          (try simp only [Act.put, List.setIfInBounds_toArray, List.set_cons_zero, List.set_cons_succ])
          refine tk 12 (v := ?_) hHeld ?_ ?_
          rotate_left 1
          · intro _ hw; (try dsimp only at hw); go_simp; try with_reducible rfl
          (try simp only [Act.put, List.setIfInBounds_toArray, List.set_cons_zero, List.set_cons_succ])
          refine wpAnyH_ready (rs := [13]) (by kernel_rfl) (by simp) ?_
          refine AllReadyH.cons (at_list rfl) (fun K hK => ?_) (AllReadyH.nil)
          go_simp
          clear hHeld
          have HK2 := Lib.hid (HK.out.new #[S [89, 89, 89, 89], S x1, S x2] 9)
          refine hK.out _ _ ?_ (fun hHeld => ?_)
          · (try dsimp only); exact HS2.out _ HK2.out.tail
          clear hK K HK hHeld
          have HK := HK2
          clear HK2
          obtain ⟨F, hg⟩ : ∃ g, W2.heap.size = g := ⟨_, rfl⟩
          rw [hg] at HK ⊢
          clear hg
          obtain ⟨W3, hW⟩ : ∃ W, W2.alloc (.cells #[S [89, 89, 89, 89], S x1, S x2] 9 (0, 0)) = W := ⟨_, rfl⟩
          rw [hW] at HK ⊢
          clear hW
          (try simp only [Act.put, List.setIfInBounds_toArray, List.set_cons_zero, List.set_cons_succ])
          have HS3 := Lib.hid (show ∀ W, Kq W0 W [(F, 9, [S [89, 89, 89, 89], S x1, S x2]), (C, 9, [S [68, 68], S [68]]), (A, 9, [S [77, 77], S [77]]), (B, 30, [iz q0, iz q1, iz q2])] → W.cell? ⟨B, 0, none⟩ = some (iz q0) ∧ W.cell? ⟨A, i, none⟩ = some (S x1) ∧ W.cell? ⟨C, j, none⟩ = some (S x2) from fun W h => ⟨(h.row _ (.tail _ (.tail _ (.tail _ (.head _))))).cell 0, ((h.row _ (.tail _ (.tail _ (.head _)))).cell i).trans HX1.out, ((h.row _ (.tail _ (.head _))).cell j).trans HX2.out⟩)
          have hHeld := HS3.out _ HK.out
          refine tk 14 (v := ?_) hHeld ?_ ?_
          rotate_left 1
          · intro _ hw; (try dsimp only at hw); go_simp; try with_reducible rfl
          (try simp only [Act.put, List.setIfInBounds_toArray, List.set_cons_zero, List.set_cons_succ])
          refine wpAnyH_done (by kernel_rfl) ?_ _
          clear hHeld
          go_wp2_with fail
          go_meet
          exact ⟨F, x1, x2, rfl, HK.out.row _ (.head _), HX.out, HK.out.ch⟩
        · go_simp
          go_at_call 15; with_reducible refine (HM1.out _).mono ?_; rintro e wq ⟨rfl, rfl⟩
          clear hHeld
          refine hK.out _ _ ?_ (fun hHeld => ?_)
          · (try dsimp only); exact HS1.out _ HK.out
          clear hK K
          (try simp only [Act.put, List.setIfInBounds_toArray, List.set_cons_zero, List.set_cons_succ])
          refine wpAnyH_ready (rs := [6]) (by kernel_rfl) (by simp) ?_
          refine AllReadyH.cons (at_list rfl) (fun K hK => ?_) (AllReadyH.nil)
          go_simp
          clear hHeld
          have HK2 := Lib.hid (HK.out.new #[S [68, 68], S [68]] 9)
          refine hK.out _ _ ?_ (fun hHeld => ?_)
          · (try dsimp only); exact HS1.out _ HK2.out.tail
          clear hK K HK hHeld
          have HK := HK2
          clear HK2
          obtain ⟨C, hg⟩ : ∃ g, W1.heap.size = g := ⟨_, rfl⟩
          rw [hg] at HK ⊢
          clear hg
          obtain ⟨W2, hW⟩ : ∃ W, W1.alloc (.cells #[S [68, 68], S [68]] 9 (0, 0)) = W := ⟨_, rfl⟩
          rw [hW] at HK ⊢
          clear hW
          (try simp only [Act.put, List.setIfInBounds_toArray, List.set_cons_zero, List.set_cons_succ])
          have HS2 := Lib.hid (show ∀ W, Kq W0 W [(C, 9, [S [68, 68], S [68]]), (A, 9, [S [77, 77], S [77]]), (B, 30, [iz q0, iz q1, iz q2])] → W.cell? ⟨B, 0, none⟩ = some (iz q0) ∧ W.cell? ⟨A, i, none⟩ = some (S x1) ∧ W.cell? ⟨C, j, none⟩ = some (S x2) from fun W h => ⟨(h.row _ (.tail _ (.tail _ (.head _)))).cell 0, ((h.row _ (.tail _ (.head _))).cell i).trans HX1.out, ((h.row _ (.head _)).cell j).trans HX2.out⟩)
          refine wpAnyH_more (S' := fun w' => w'.cell? ⟨B, 0, none⟩ = some (iz q0) ∧ w'.cell? ⟨A, i, none⟩ = some (S x1) ∧ w'.cell? ⟨C, j, none⟩ = some (S x2)) (fun w' h => ⟨h.1, h.2.1⟩) _ _ _ _ ?_
          have hHeld := HS2.out _ HK.out
          refine tk 11 (v := ?_) hHeld ?_ ?_
          rotate_left 1
          · intro _ hw; (try dsimp only at hw); go_simp; try with_reducible rfl
          (try simp only [Act.put, List.setIfInBounds_toArray, List.set_cons_zero, List.set_cons_succ])
          refine tk 12 (v := ?_) hHeld ?_ ?_
          rotate_left 1
          · intro _ hw; (try dsimp only at hw); go_simp; try with_reducible rfl
          (try simp only [Act.put, List.setIfInBounds_toArray, List.set_cons_zero, List.set_cons_succ])
          refine wpAnyH_ready (rs := [13]) (by kernel_rfl) (by simp) ?_
          refine AllReadyH.cons (at_list rfl) (fun K hK => ?_) (AllReadyH.nil)
          go_simp
          clear hHeld
          have HK2 := Lib.hid (HK.out.new #[S [89, 89, 89, 89], S x1, S x2] 9)
          refine hK.out _ _ ?_ (fun hHeld => ?_)
          · (try dsimp only); exact HS2.out _ HK2.out.tail
          clear hK K HK hHeld
          have HK := HK2
          clear HK2
          obtain ⟨F, hg⟩ : ∃ g, W2.heap.size = g := ⟨_, rfl⟩
          rw [hg] at HK ⊢
          clear hg
          obtain ⟨W3, hW⟩ : ∃ W, W2.alloc (.cells #[S [89, 89, 89, 89], S x1, S x2] 9 (0, 0)) = W := ⟨_, rfl⟩
          rw [hW] at HK ⊢
          clear hW
          (try simp only [Act.put, List.setIfInBounds_toArray, List.set_cons_zero, List.set_cons_succ])
          have HS3 := Lib.hid (show ∀ W, Kq W0 W [(F, 9, [S [89, 89, 89, 89], S x1, S x2]), (C, 9, [S [68, 68], S [68]]), (A, 9, [S [77, 77], S [77]]), (B, 30, [iz q0, iz q1, iz q2])] → W.cell? ⟨B, 0, none⟩ = some (iz q0) ∧ W.cell? ⟨A, i, none⟩ = some (S x1) ∧ W.cell? ⟨C, j, none⟩ = some (S x2) from fun W h => ⟨(h.row _ (.tail _ (.tail _ (.tail _ (.head _))))).cell 0, ((h.row _ (.tail _ (.tail _ (.head _)))).cell i).trans HX1.out, ((h.row _ (.tail _ (.head _))).cell j).trans HX2.out⟩)
          have hHeld := HS3.out _ HK.out
          refine tk 14 (v := ?_) hHeld ?_ ?_
          rotate_left 1
          · intro _ hw; (try dsimp only at hw); go_simp; try with_reducible rfl
          (try simp only [Act.put, List.setIfInBounds_toArray, List.set_cons_zero, List.set_cons_succ])
          refine wpAnyH_done (by kernel_rfl) ?_ _
          clear hHeld
          go_wp2_with fail
          go_meet
          exact ⟨F, x1, x2, rfl, HK.out.row _ (.head _), HX.out, HK.out.ch⟩
      · go_simp
        clear hHeld
        have HK2 := Lib.hid (HK.out.new #[S [68, 68], S [68]] 9)
        refine hK.out _ _ ?_ (fun hHeld => ?_)
        · (try dsimp only); exact HS0.out _ HK2.out.tail
        clear hK K HK hHeld
        have HK := HK2
        clear HK2
        obtain ⟨C, hg⟩ : ∃ g, Wd.heap.size = g := ⟨_, rfl⟩
        rw [hg] at HK ⊢
        clear hg
        obtain ⟨W1, hW⟩ : ∃ W, Wd.alloc (.cells #[S [68, 68], S [68]] 9 (0, 0)) = W := ⟨_, rfl⟩
        rw [hW] at HK ⊢
        clear hW
        (try simp only [Act.put, List.setIfInBounds_toArray, List.set_cons_zero, List.set_cons_succ])
        have HS1 := Lib.hid (show ∀ W, Kq W0 W [(C, 9, [S [68, 68], S [68]]), (B, 30, [iz q0, iz q1, iz q2])] → W.cell? ⟨B, 0, none⟩ = some (iz q0) ∧ W.cell? ⟨C, j, none⟩ = some (S x2) from fun W h => ⟨(h.row _ (.tail _ (.head _))).cell 0, ((h.row _ (.head _)).cell j).trans HX2.out⟩)
        refine wpAnyH_more (S' := fun w' => w'.cell? ⟨B, 0, none⟩ = some (iz q0) ∧ w'.cell? ⟨C, j, none⟩ = some (S x2)) (fun w' h => h.1) _ _ _ _ ?_
        have hHeld := HS1.out _ HK.out
        refine wpAnyH_ready (rs := [0, 10]) (by kernel_rfl) (by simp) ?_
        refine AllReadyH.cons (at_list rfl) (fun K hK => ?_) (AllReadyH.cons (at_list rfl) (fun K hK => ?_) (AllReadyH.nil))
        · go_simp
          clear hHeld
          have HK2 := Lib.hid (HK.out.new #[S [77, 77], S [77]] 9)
          refine hK.out _ _ ?_ (fun hHeld => ?_)
          · (try dsimp only); exact HS1.out _ HK2.out.tail
          clear hK K HK hHeld
          have HK := HK2
          clear HK2
          obtain ⟨A, hg⟩ : ∃ g, W1.heap.size = g := ⟨_, rfl⟩
          rw [hg] at HK ⊢
          clear hg
          obtain ⟨W2, hW⟩ : ∃ W, W1.alloc (.cells #[S [77, 77], S [77]] 9 (0, 0)) = W := ⟨_, rfl⟩
          rw [hW] at HK ⊢
          clear hW
          (try simp only [Act.put, List.setIfInBounds_toArray, List.set_cons_zero, List.set_cons_succ])
          have HS2 := Lib.hid (show ∀ W, Kq W0 W [(A, 9, [S [77, 77], S [77]]), (C, 9, [S [68, 68], S [68]]), (B, 30, [iz q0, iz q1, iz q2])] → W.cell? ⟨B, 0, none⟩ = some (iz q0) ∧ W.cell? ⟨C, j, none⟩ = some (S x2) ∧ W.cell? ⟨A, i, none⟩ = some (S x1) from fun W h => ⟨(h.row _ (.tail _ (.tail _ (.head _)))).cell 0, ((h.row _ (.tail _ (.head _))).cell j).trans HX2.out, ((h.row _ (.head _)).cell i).trans HX1.out⟩)
          refine wpAnyH_more (S' := fun w' => w'.cell? ⟨B, 0, none⟩ = some (iz q0) ∧ w'.cell? ⟨C, j, none⟩ = some (S x2) ∧ w'.cell? ⟨A, i, none⟩ = some (S x1)) (fun w' h => ⟨h.1, h.2.1⟩) _ _ _ _ ?_
          have hHeld := HS2.out _ HK.out
          refine tk 4 (v := ?_) hHeld ?_ ?_
          rotate_left 1
          · intro _ hw; (try dsimp only at hw); go_simp; try with_reducible rfl
          (try simp only [Act.put, List.setIfInBounds_toArray, List.set_cons_zero, List.set_cons_succ])
          refine tk 5 (v := ?_) hHeld ?_ ?_
          rotate_left 1
          · intro _ hw; (try dsimp only at hw); go_simp; try with_reducible rfl
          (try simp only [Act.put, List.setIfInBounds_toArray, List.set_cons_zero, List.set_cons_succ])
          refine wpAnyH_ready (rs := [10]) (by kernel_rfl) (by simp) ?_
          refine AllReadyH.cons (at_list rfl) (fun K hK => ?_) (AllReadyH.nil)
          go_simp
          go_at_call 15; with_reducible refine (HM1.out _).mono ?_; rintro e wq ⟨rfl, rfl⟩
          clear hHeld
          refine hK.out _ _ ?_ (fun hHeld => ?_)
          · (try dsimp only); exact HS2.out _ HK.out
          clear hK K
          (try simp only [Act.put, List.setIfInBounds_toArray, List.set_cons_zero, List.set_cons_succ])
          refine tk 11 (v := ?_) hHeld ?_ ?_
          rotate_left 1
          · intro _ hw; (try dsimp only at hw); go_simp; try with_reducible rfl
          (try simp only [Act.put, List.setIfInBounds_toArray, List.set_cons_zero, List.set_cons_succ])
          refine tk 12 (v := ?_) hHeld ?_ ?_
          rotate_left 1
          · intro _ hw; (try dsimp only at hw); go_simp; try with_reducible rfl
          (try simp only [Act.put, List.setIfInBounds_toArray, List.set_cons_zero, List.set_cons_succ])
          refine wpAnyH_ready (rs := [13]) (by kernel_rfl) (by simp) ?_
          refine AllReadyH.cons (at_list rfl) (fun K hK => ?_) (AllReadyH.nil)
          go_simp
          clear hHeld
          have HK2 := Lib.hid (HK.out.new #[S [89, 89, 89, 89], S x1, S x2] 9)
          refine hK.out _ _ ?_ (fun hHeld => ?_)
          · (try dsimp only); exact HS2.out _ HK2.out.tail
          clear hK K HK hHeld
          have HK := HK2
          clear HK2
          obtain ⟨F, hg⟩ : ∃ g, W2.heap.size = g := ⟨_, rfl⟩
          rw [hg] at HK ⊢
          clear hg
          obtain ⟨W3, hW⟩ : ∃ W, W2.alloc (.cells #[S [89, 89, 89, 89], S x1, S x2] 9 (0, 0)) = W := ⟨_, rfl⟩
          rw [hW] at HK ⊢
          clear hW
          (try simp only [Act.put, List.setIfInBounds_toArray, List.set_cons_zero, List.set_cons_succ])
          have HS3 := Lib.hid (show ∀ W, Kq W0 W [(F, 9, [S [89, 89, 89, 89], S x1, S x2]), (A, 9, [S [77, 77], S [77]]), (C, 9, [S [68, 68], S [68]]), (B, 30, [iz q0, iz q1, iz q2])] → W.cell? ⟨B, 0, none⟩ = some (iz q0) ∧ W.cell? ⟨C, j, none⟩ = some (S x2) ∧ W.cell? ⟨A, i, none⟩ = some (S x1) from fun W h => ⟨(h.row _ (.tail _ (.tail _ (.tail _ (.head _))))).cell 0, ((h.row _ (.tail _ (.tail _ (.head _)))).cell j).trans HX2.out, ((h.row _ (.tail _ (.head _))).cell i).trans HX1.out⟩)
          have hHeld := HS3.out _ HK.out
          refine tk 14 (v := ?_) hHeld ?_ ?_
          rotate_left 1
          · intro _ hw; (try dsimp only at hw); go_simp; try with_reducible rfl
          (try simp only [Act.put, List.setIfInBounds_toArray, List.set_cons_zero, List.set_cons_succ])
          refine wpAnyH_done (by kernel_rfl) ?_ _
          clear hHeld
          go_wp2_with fail
          go_meet
          exact ⟨F, x1, x2, rfl, HK.out.row _ (.head _), HX.out, HK.out.ch⟩
        · go_simp
          go_at_call 15; with_reducible refine (HM1.out _).mono ?_; rintro e wq ⟨rfl, rfl⟩
          clear hHeld
          refine hK.out _ _ ?_ (fun hHeld => ?_)
          · (try dsimp only); exact HS1.out _ HK.out
          clear hK K
          (try simp only [Act.put, List.setIfInBounds_toArray, List.set_cons_zero, List.set_cons_succ])
          refine tk 11 (v := ?_) hHeld ?_ ?_
          rotate_left 1
          · intro _ hw; (try dsimp only at hw); go_simp; try with_reducible rfl
          (try simp only [Act.put, List.setIfInBounds_toArray, List.set_cons_zero, List.set_cons_succ])
          refine tk 12 (v := ?_) hHeld ?_ ?_
          rotate_left 1
          · intro _ hw; (try dsimp only at hw); go_simp; try with_reducible rfl
          (try simp only [Act.put, List.setIfInBounds_toArray, List.set_cons_zero, List.set_cons_succ])
          refine wpAnyH_ready (rs := [0]) (by kernel_rfl) (by simp) ?_
          refine AllReadyH.cons (at_list rfl) (fun K hK => ?_) (AllReadyH.nil)
          go_simp
          clear hHeld
          have HK2 := Lib.hid (HK.out.new #[S [77, 77], S [77]] 9)
          refine hK.out _ _ ?_ (fun hHeld => ?_)
          · (try dsimp only); exact HS1.out _ HK2.out.tail
          clear hK K HK hHeld
          have HK := HK2
          clear HK2
          obtain ⟨A, hg⟩ : ∃ g, W1.heap.size = g := ⟨_, rfl⟩
          rw [hg] at HK ⊢
          clear hg
          obtain ⟨W2, hW⟩ : ∃ W, W1.alloc (.cells #[S [77, 77], S [77]] 9 (0, 0)) = W := ⟨_, rfl⟩
          rw [hW] at HK ⊢
          clear hW
          (try simp only [Act.put, List.setIfInBounds_toArray, List.set_cons_zero, List.set_cons_succ])
          have HS2 := Lib.hid (show ∀ W, Kq W0 W [(A, 9, [S [77, 77], S [77]]), (C, 9, [S [68, 68], S [68]]), (B, 30, [iz q0, iz q1, iz q2])] → W.cell? ⟨B, 0, none⟩ = some (iz q0) ∧ W.cell? ⟨C, j, none⟩ = some (S x2) ∧ W.cell? ⟨A, i, none⟩ = some (S x1) from fun W h => ⟨(h.row _ (.tail _ (.tail _ (.head _)))).cell 0, ((h.row _ (.tail _ (.head _))).cell j).trans HX2.out, ((h.row _ (.head _)).cell i).trans HX1.out⟩)
          refine wpAnyH_more (S' := fun w' => w'.cell? ⟨B, 0, none⟩ = some (iz q0) ∧ w'.cell? ⟨C, j, none⟩ = some (S x2) ∧ w'.cell? ⟨A, i, none⟩ = some (S x1)) (fun w' h => ⟨h.1, h.2.1⟩) _ _ _ _ ?_
          have hHeld := HS2.out _ HK.out
          refine tk 4 (v := ?_) hHeld ?_ ?_
          rotate_left 1
          · intro _ hw; (try dsimp only at hw); go_simp; try with_reducible rfl
          (try simp only [Act.put, List.setIfInBounds_toArray, List.set_cons_zero, List.set_cons_succ])
          refine tk 5 (v := ?_) hHeld ?_ ?_
          rotate_left 1
          · intro _ hw; (try dsimp only at hw); go_simp; try with_reducible rfl
          (try simp only [Act.put, List.setIfInBounds_toArray, List.set_cons_zero, List.set_cons_succ])
          refine wpAnyH_ready (rs := [13]) (by kernel_rfl) (by simp) ?_
          refine AllReadyH.cons (at_list rfl) (fun K hK => ?_) (AllReadyH.nil)
          go_simp
          clear hHeld
          have HK2 := Lib.hid (HK.out.new #[S [89, 89, 89, 89], S x1, S x2] 9)
          refine hK.out _ _ ?_ (fun hHeld => ?_)
          · (try dsimp only); exact HS2.out _ HK2.out.tail
          clear hK K HK hHeld
          have HK := HK2
          clear HK2
          obtain ⟨F, hg⟩ : ∃ g, W2.heap.size = g := ⟨_, rfl⟩
          rw [hg] at HK ⊢
          clear hg
          obtain ⟨W3, hW⟩ : ∃ W, W2.alloc (.cells #[S [89, 89, 89, 89], S x1, S x2] 9 (0, 0)) = W := ⟨_, rfl⟩
          rw [hW] at HK ⊢
          clear hW
          (try simp only [Act.put, List.setIfInBounds_toArray, List.set_cons_zero, List.set_cons_succ])
          have HS3 := Lib.hid (show ∀ W, Kq W0 W [(F, 9, [S [89, 89, 89, 89], S x1, S x2]), (A, 9, [S [77, 77], S [77]]), (C, 9, [S [68, 68], S [68]]), (B, 30, [iz q0, iz q1, iz q2])] → W.cell? ⟨B, 0, none⟩ = some (iz q0) ∧ W.cell? ⟨C, j, none⟩ = some (S x2) ∧ W.cell? ⟨A, i, none⟩ = some (S x1) from fun W h => ⟨(h.row _ (.tail _ (.tail _ (.tail _ (.head _))))).cell 0, ((h.row _ (.tail _ (.tail _ (.head _)))).cell j).trans HX2.out, ((h.row _ (.tail _ (.head _))).cell i).trans HX1.out⟩)
          have hHeld := HS3.out _ HK.out
          refine tk 14 (v := ?_) hHeld ?_ ?_
          rotate_left 1
          · intro _ hw; (try dsimp only at hw); go_simp; try with_reducible rfl
          (try simp only [Act.put, List.setIfInBounds_toArray, List.set_cons_zero, List.set_cons_succ])
          refine wpAnyH_done (by kernel_rfl) ?_ _
          clear hHeld
          go_wp2_with fail
          go_meet
          exact ⟨F, x1, x2, rfl, HK.out.row _ (.head _), HX.out, HK.out.ch⟩
      · go_simp
        go_at_call 15; with_reducible refine (HM1.out _).mono ?_; rintro e wq ⟨rfl, rfl⟩
        clear hHeld
        refine hK.out _ _ ?_ (fun hHeld => ?_)
        · (try dsimp only); exact HS0.out _ HK.out
        clear hK K
        (try simp only [Act.put, List.setIfInBounds_toArray, List.set_cons_zero, List.set_cons_succ])
        refine wpAnyH_ready (rs := [0, 6]) (by kernel_rfl) (by simp) ?_
        refine AllReadyH.cons (at_list rfl) (fun K hK => ?_) (AllReadyH.cons (at_list rfl) (fun K hK => ?_) (AllReadyH.nil))
        · go_simp
          clear hHeld
          have HK2 := Lib.hid (HK.out.new #[S [77, 77], S [77]] 9)
          refine hK.out _ _ ?_ (fun hHeld => ?_)
          · (try dsimp only); exact HS0.out _ HK2.out.tail
          clear hK K HK hHeld
          have HK := HK2
          clear HK2
          obtain ⟨A, hg⟩ : ∃ g, Wd.heap.size = g := ⟨_, rfl⟩
          rw [hg] at HK ⊢
          clear hg
          obtain ⟨W1, hW⟩ : ∃ W, Wd.alloc (.cells #[S [77, 77], S [77]] 9 (0, 0)) = W := ⟨_, rfl⟩
          rw [hW] at HK ⊢
          clear hW
          (try simp only [Act.put, List.setIfInBounds_toArray, List.set_cons_zero, List.set_cons_succ])
          have HS1 := Lib.hid (show ∀ W, Kq W0 W [(A, 9, [S [77, 77], S [77]]), (B, 30, [iz q0, iz q1, iz q2])] → W.cell? ⟨B, 0, none⟩ = some (iz q0) ∧ W.cell? ⟨A, i, none⟩ = some (S x1) from fun W h => ⟨(h.row _ (.tail _ (.head _))).cell 0, ((h.row _ (.head _)).cell i).trans HX1.out⟩)
          refine wpAnyH_more (S' := fun w' => w'.cell? ⟨B, 0, none⟩ = some (iz q0) ∧ w'.cell? ⟨A, i, none⟩ = some (S x1)) (fun w' h => h.1) _ _ _ _ ?_
          have hHeld := HS1.out _ HK.out
          refine tk 4 (v := ?_) hHeld ?_ ?_
          rotate_left 1
          · intro _ hw; (try dsimp only at hw); go_simp; try with_reducible rfl
          (try simp only [Act.put, List.setIfInBounds_toArray, List.set_cons_zero, List.set_cons_succ])
          refine tk 5 (v := ?_) hHeld ?_ ?_
          rotate_left 1
          · intro _ hw; (try dsimp only at hw); go_simp; try with_reducible rfl
          (try simp only [Act.put, List.setIfInBounds_toArray, List.set_cons_zero, List.set_cons_succ])
          refine wpAnyH_ready (rs := [6]) (by kernel_rfl) (by simp) ?_
          refine AllReadyH.cons (at_list rfl) (fun K hK => ?_) (AllReadyH.nil)
          go_simp
          clear hHeld
          have HK2 := Lib.hid (HK.out.new #[S [68, 68], S [68]] 9)
          refine hK.out _ _ ?_ (fun hHeld => ?_)
          · (try dsimp only); exact HS1.out _ HK2.out.tail
          clear hK K HK hHeld
          have HK := HK2
          clear HK2
          obtain ⟨C, hg⟩ : ∃ g, W1.heap.size = g := ⟨_, rfl⟩
          rw [hg] at HK ⊢
          clear hg
          obtain ⟨W2, hW⟩ : ∃ W, W1.alloc (.cells #[S [68, 68], S [68]] 9 (0, 0)) = W := ⟨_, rfl⟩
          rw [hW] at HK ⊢
          clear hW
          (try simp only [Act.put, List.setIfInBounds_toArray, List.set_cons_zero, List.set_cons_succ])
          have HS2 := Lib.hid (show ∀ W, Kq W0 W [(C, 9, [S [68, 68], S [68]]), (A, 9, [S [77, 77], S [77]]), (B, 30, [iz q0, iz q1, iz q2])] → W.cell? ⟨B, 0, none⟩ = some (iz q0) ∧ W.cell? ⟨A, i, none⟩ = some (S x1) ∧ W.cell? ⟨C, j, none⟩ = some (S x2) from fun W h => ⟨(h.row _ (.tail _ (.tail _ (.head _)))).cell 0, ((h.row _ (.tail _ (.head _))).cell i).trans HX1.out, ((h.row _ (.head _)).cell j).trans HX2.out⟩)
          refine wpAnyH_more (S' := fun w' => w'.cell? ⟨B, 0, none⟩ = some (iz q0) ∧ w'.cell? ⟨A, i, none⟩ = some (S x1) ∧ w'.cell? ⟨C, j, none⟩ = some (S x2)) (fun w' h => ⟨h.1, h.2.1⟩) _ _ _ _ ?_
          have hHeld := HS2.out _ HK.out
          refine tk 11 (v := ?_) hHeld ?_ ?_
          rotate_left 1
          · intro _ hw; (try dsimp only at hw); go_simp; try with_reducible rfl
          (try simp only [Act.put, List.setIfInBounds_toArray, List.set_cons_zero, List.set_cons_succ])
          refine tk 12 (v := ?_) hHeld ?_ ?_
          rotate_left 1
          · intro _ hw; (try dsimp only at hw); go_simp; try with_reducible rfl
          (try simp only [Act.put, List.setIfInBounds_toArray, List.set_cons_zero, List.set_cons_succ])
          refine wpAnyH_ready (rs := [13]) (by kernel_rfl) (by simp) ?_
          refine AllReadyH.cons (at_list rfl) (fun K hK => ?_) (AllReadyH.nil)
          go_simp
          clear hHeld
          have HK2 := Lib.hid (HK.out.new #[S [89, 89, 89, 89], S x1, S x2] 9)
          refine hK.out _ _ ?_ (fun hHeld => ?_)
          · (try dsimp only); exact HS2.out _ HK2.out.tail
          clear hK K HK hHeld
          have HK := HK2
          clear HK2
          obtain ⟨F, hg⟩ : ∃ g, W2.heap.size = g := ⟨_, rfl⟩
          rw [hg] at HK ⊢
          clear hg
          obtain ⟨W3, hW⟩ : ∃ W, W2.alloc (.cells #[S [89, 89, 89, 89], S x1, S x2] 9 (0, 0)) = W := ⟨_, rfl⟩
          rw [hW] at HK ⊢
          clear hW
          (try simp only [Act.put, List.setIfInBounds_toArray, List.set_cons_zero, List.set_cons_succ])
          have HS3 := Lib.hid (show ∀ W, Kq W0 W [(F, 9, [S [89, 89, 89, 89], S x1, S x2]), (C, 9, [S [68, 68], S [68]]), (A, 9, [S [77, 77], S [77]]), (B, 30, [iz q0, iz q1, iz q2])] → W.cell? ⟨B, 0, none⟩ = some (iz q0) ∧ W.cell? ⟨A, i, none⟩ = some (S x1) ∧ W.cell? ⟨C, j, none⟩ = some (S x2) from fun W h => ⟨(h.row _ (.tail _ (.tail _ (.tail _ (.head _))))).cell 0, ((h.row _ (.tail _ (.tail _ (.head _)))).cell i).trans HX1.out, ((h.row _ (.tail _ (.head _))).cell j).trans HX2.out⟩)
          have hHeld := HS3.out _ HK.out
          refine tk 14 (v := ?_) hHeld ?_ ?_
          rotate_left 1
          · intro _ hw; (try dsimp only at hw); go_simp; try with_reducible rfl
          (try simp only [Act.put, List.setIfInBounds_toArray, List.set_cons_zero, List.set_cons_succ])
          refine wpAnyH_done (by kernel_rfl) ?_ _
          clear hHeld
          go_wp2_with fail
          go_meet
          exact ⟨F, x1, x2, rfl, HK.out.row _ (.head _), HX.out, HK.out.ch⟩
        · go_simp
          clear hHeld
          have HK2 := Lib.hid (HK.out.new #[S [68, 68], S [68]] 9)
          refine hK.out _ _ ?_ (fun hHeld => ?_)
          · (try dsimp only); exact HS0.out _ HK2.out.tail
          clear hK K HK hHeld
          have HK := HK2
          clear HK2
          obtain ⟨C, hg⟩ : ∃ g, Wd.heap.size = g := ⟨_, rfl⟩
          rw [hg] at HK ⊢
          clear hg
          obtain ⟨W1, hW⟩ : ∃ W, Wd.alloc (.cells #[S [68, 68], S [68]] 9 (0, 0)) = W := ⟨_, rfl⟩
          rw [hW] at HK ⊢
          clear hW
          (try simp only [Act.put, List.setIfInBounds_toArray, List.set_cons_zero, List.set_cons_succ])
          have HS1 := Lib.hid (show ∀ W, Kq W0 W [(C, 9, [S [68, 68], S [68]]), (B, 30, [iz q0, iz q1, iz q2])] → W.cell? ⟨B, 0, none⟩ = some (iz q0) ∧ W.cell? ⟨C, j, none⟩ = some (S x2) from fun W h => ⟨(h.row _ (.tail _ (.head _))).cell 0, ((h.row _ (.head _)).cell j).trans HX2.out⟩)
          refine wpAnyH_more (S' := fun w' => w'.cell? ⟨B, 0, none⟩ = some (iz q0) ∧ w'.cell? ⟨C, j, none⟩ = some (S x2)) (fun w' h => h.1) _ _ _ _ ?_
          have hHeld := HS1.out _ HK.out
          refine tk 11 (v := ?_) hHeld ?_ ?_
          rotate_left 1
          · intro _ hw; (try dsimp only at hw); go_simp; try with_reducible rfl
          (try simp only [Act.put, List.setIfInBounds_toArray, List.set_cons_zero, List.set_cons_succ])
          refine tk 12 (v := ?_) hHeld ?_ ?_
          rotate_left 1
          · intro _ hw; (try dsimp only at hw); go_simp; try with_reducible rfl
          (try simp only [Act.put, List.setIfInBounds_toArray, List.set_cons_zero, List.set_cons_succ])
          refine wpAnyH_ready (rs := [0]) (by kernel_rfl) (by simp) ?_
          refine AllReadyH.cons (at_list rfl) (fun K hK => ?_) (AllReadyH.nil)
          go_simp
          clear hHeld
          have HK2 := Lib.hid (HK.out.new #[S [77, 77], S [77]] 9)
          refine hK.out _ _ ?_ (fun hHeld => ?_)
          · (try dsimp only); exact HS1.out _ HK2.out.tail
          clear hK K HK hHeld
          have HK := HK2
          clear HK2
          obtain ⟨A, hg⟩ : ∃ g, W1.heap.size = g := ⟨_, rfl⟩
          rw [hg] at HK ⊢
          clear hg
          obtain ⟨W2, hW⟩ : ∃ W, W1.alloc (.cells #[S [77, 77], S [77]] 9 (0, 0)) = W := ⟨_, rfl⟩
          rw [hW] at HK ⊢
          clear hW
          (try simp only [Act.put, List.setIfInBounds_toArray, List.set_cons_zero, List.set_cons_succ])
          have HS2 := Lib.hid (show ∀ W, Kq W0 W [(A, 9, [S [77, 77], S [77]]), (C, 9, [S [68, 68], S [68]]), (B, 30, [iz q0, iz q1, iz q2])] → W.cell? ⟨B, 0, none⟩ = some (iz q0) ∧ W.cell? ⟨C, j, none⟩ = some (S x2) ∧ W.cell? ⟨A, i, none⟩ = some (S x1) from fun W h => ⟨(h.row _ (.tail _ (.tail _ (.head _)))).cell 0, ((h.row _ (.tail _ (.head _))).cell j).trans HX2.out, ((h.row _ (.head _)).cell i).trans HX1.out⟩)
          refine wpAnyH_more (S' := fun w' => w'.cell? ⟨B, 0, none⟩ = some (iz q0) ∧ w'.cell? ⟨C, j, none⟩ = some (S x2) ∧ w'.cell? ⟨A, i, none⟩ = some (S x1)) (fun w' h => ⟨h.1, h.2.1⟩) _ _ _ _ ?_
          have hHeld := HS2.out _ HK.out
          refine tk 4 (v := ?_) hHeld ?_ ?_
          rotate_left 1
          · intro _ hw; (try dsimp only at hw); go_simp; try with_reducible rfl
          (try simp only [Act.put, List.setIfInBounds_toArray, List.set_cons_zero, List.set_cons_succ])
          refine tk 5 (v := ?_) hHeld ?_ ?_
          rotate_left 1
          · intro _ hw; (try dsimp only at hw); go_simp; try with_reducible rfl
          (try simp only [Act.put, List.setIfInBounds_toArray, List.set_cons_zero, List.set_cons_succ])
          refine wpAnyH_ready (rs := [13]) (by kernel_rfl) (by simp) ?_
          refine AllReadyH.cons (at_list rfl) (fun K hK => ?_) (AllReadyH.nil)
          go_simp
          clear hHeld
          have HK2 := Lib.hid (HK.out.new #[S [89, 89, 89, 89], S x1, S x2] 9)
          refine hK.out _ _ ?_ (fun hHeld => ?_)
          · (try dsimp only); exact HS2.out _ HK2.out.tail
          clear hK K HK hHeld
          have HK := HK2
          clear HK2
          obtain ⟨F, hg⟩ : ∃ g, W2.heap.size = g := ⟨_, rfl⟩
          rw [hg] at HK ⊢
          clear hg
          obtain ⟨W3, hW⟩ : ∃ W, W2.alloc (.cells #[S [89, 89, 89, 89], S x1, S x2] 9 (0, 0)) = W := ⟨_, rfl⟩
          rw [hW] at HK ⊢
          clear hW
          (try simp only [Act.put, List.setIfInBounds_toArray, List.set_cons_zero, List.set_cons_succ])
          have HS3 := Lib.hid (show ∀ W, Kq W0 W [(F, 9, [S [89, 89, 89, 89], S x1, S x2]), (A, 9, [S [77, 77], S [77]]), (C, 9, [S [68, 68], S [68]]), (B, 30, [iz q0, iz q1, iz q2])] → W.cell? ⟨B, 0, none⟩ = some (iz q0) ∧ W.cell? ⟨C, j, none⟩ = some (S x2) ∧ W.cell? ⟨A, i, none⟩ = some (S x1) from fun W h => ⟨(h.row _ (.tail _ (.tail _ (.tail _ (.head _))))).cell 0, ((h.row _ (.tail _ (.tail _ (.head _)))).cell j).trans HX2.out, ((h.row _ (.tail _ (.head _))).cell i).trans HX1.out⟩)
          have hHeld := HS3.out _ HK.out
          refine tk 14 (v := ?_) hHeld ?_ ?_
          rotate_left 1
          · intro _ hw; (try dsimp only at hw); go_simp; try with_reducible rfl
          (try simp only [Act.put, List.setIfInBounds_toArray, List.set_cons_zero, List.set_cons_succ])
          refine wpAnyH_done (by kernel_rfl) ?_ _
          clear hHeld
          go_wp2_with fail
          go_meet
          exact ⟨F, x1, x2, rfl, HK.out.row _ (.head _), HX.out, HK.out.ch⟩
    · go_simp
      clear hHeld
      have HK2 := Lib.hid (HK.out.new #[S [68, 68], S [68]] 9)
      refine hK.out _ _ ?_ (fun hHeld => ?_)
      · (try dsimp only); exact HS0.out _ HK2.out.tail
      clear hK K HK hHeld
      have HK := HK2
      clear HK2
      obtain ⟨C, hg⟩ : ∃ g, Wd.heap.size = g := ⟨_, rfl⟩
      rw [hg] at HK ⊢
      clear hg
      obtain ⟨W1, hW⟩ : ∃ W, Wd.alloc (.cells #[S [68, 68], S [68]] 9 (0, 0)) = W := ⟨_, rfl⟩
      rw [hW] at HK ⊢
      clear hW
      (try simp only [Act.put, List.setIfInBounds_toArray, List.set_cons_zero, List.set_cons_succ])
      have HS1 := Lib.hid (show ∀ W, Kq W0 W [(C, 9, [S [68, 68], S [68]]), (B, 30, [iz q0, iz q1, iz q2])] → W.cell? ⟨B, 0, none⟩ = some (iz q0) ∧ W.cell? ⟨C, j, none⟩ = some (S x2) from fun W h => ⟨(h.row _ (.tail _ (.head _))).cell 0, ((h.row _ (.head _)).cell j).trans HX2.out⟩)
      refine wpAnyH_more (S' := fun w' => w'.cell? ⟨B, 0, none⟩ = some (iz q0) ∧ w'.cell? ⟨C, j, none⟩ = some (S x2)) (fun w' h => h.1) _ _ _ _ ?_
      have hHeld := HS1.out _ HK.out
      refine wpAnyH_ready (rs := [0, 3]) (by kernel_rfl) (by simp) ?_
      refine AllReadyH.cons (at_list rfl) (fun K hK => ?_) (AllReadyH.cons (at_list rfl) (fun K hK => ?_) (AllReadyH.nil))
      · go_simp
        clear hHeld
        have HK2 := Lib.hid (HK.out.new #[S [77, 77], S [77]] 9)
        refine hK.out _ _ ?_ (fun hHeld => ?_)
        · (try dsimp only); exact HS1.out _ HK2.out.tail
        clear hK K HK hHeld
        have HK := HK2
        clear HK2
        obtain ⟨A, hg⟩ : ∃ g, W1.heap.size = g := ⟨_, rfl⟩
        rw [hg] at HK ⊢
        clear hg
        obtain ⟨W2, hW⟩ : ∃ W, W1.alloc (.cells #[S [77, 77], S [77]] 9 (0, 0)) = W := ⟨_, rfl⟩
        rw [hW] at HK ⊢
        clear hW
        (try simp only [Act.put, List.setIfInBounds_toArray, List.set_cons_zero, List.set_cons_succ])
        have HS2 := Lib.hid (show ∀ W, Kq W0 W [(A, 9, [S [77, 77], S [77]]), (C, 9, [S [68, 68], S [68]]), (B, 30, [iz q0, iz q1, iz q2])] → W.cell? ⟨B, 0, none⟩ = some (iz q0) ∧ W.cell? ⟨C, j, none⟩ = some (S x2) ∧ W.cell? ⟨A, i, none⟩ = some (S x1) from fun W h => ⟨(h.row _ (.tail _ (.tail _ (.head _)))).cell 0, ((h.row _ (.tail _ (.head _))).cell j).trans HX2.out, ((h.row _ (.head _)).cell i).trans HX1.out⟩)
        refine wpAnyH_more (S' := fun w' => w'.cell? ⟨B, 0, none⟩ = some (iz q0) ∧ w'.cell? ⟨C, j, none⟩ = some (S x2) ∧ w'.cell? ⟨A, i, none⟩ = some (S x1)) (fun w' h => ⟨h.1, h.2.1⟩) _ _ _ _ ?_
        have hHeld := HS2.out _ HK.out
        refine wpAnyH_ready (rs := [3]) (by kernel_rfl) (by simp) ?_
        refine AllReadyH.cons (at_list rfl) (fun K hK => ?_) (AllReadyH.nil)
        go_simp
        go_at_call 15; with_reducible refine (HM0.out _).mono ?_; rintro e wq ⟨rfl, rfl⟩
        clear hHeld
        refine hK.out _ _ ?_ (fun hHeld => ?_)
        · (try dsimp only); exact HS2.out _ HK.out
        clear hK K
        (try simp only [Act.put, List.setIfInBounds_toArray, List.set_cons_zero, List.set_cons_succ])
        refine tk 4 (v := ?_) hHeld ?_ ?_
        rotate_left 1
        · intro _ hw; (try dsimp only at hw); go_simp; try with_reducible rfl
        (try simp only [Act.put, List.setIfInBounds_toArray, List.set_cons_zero, List.set_cons_succ])
        refine tk 5 (v := ?_) hHeld ?_ ?_
        rotate_left 1
        · intro _ hw; (try dsimp only at hw); go_simp; try with_reducible rfl
        (try simp only [Act.put, List.setIfInBounds_toArray, List.set_cons_zero, List.set_cons_succ])
        refine wpAnyH_ready (rs := [10]) (by kernel_rfl) (by simp) ?_
        refine AllReadyH.cons (at_list rfl) (fun K hK => ?_) (AllReadyH.nil)
        go_simp
        go_at_call 15; with_reducible refine (HM1.out _).mono ?_; rintro e wq ⟨rfl, rfl⟩
        clear hHeld
        refine hK.out _ _ ?_ (fun hHeld => ?_)
        · (try dsimp only); exact HS2.out _ HK.out
        clear hK K
        (try simp only [Act.put, List.setIfInBounds_toArray, List.set_cons_zero, List.set_cons_succ])
        refine tk 11 (v := ?_) hHeld ?_ ?_
        rotate_left 1
        · intro _ hw; (try dsimp only at hw); go_simp; try with_reducible rfl
        (try simp only [Act.put, List.setIfInBounds_toArray, List.set_cons_zero, List.set_cons_succ])
        refine tk 12 (v := ?_) hHeld ?_ ?_
        rotate_left 1
        · intro _ hw; (try dsimp only at hw); go_simp; try with_reducible rfl
        (try simp only [Act.put, List.setIfInBounds_toArray, List.set_cons_zero, List.set_cons_succ])
        refine wpAnyH_ready (rs := [13]) (by kernel_rfl) (by simp) ?_
        refine AllReadyH.cons (at_list rfl) (fun K hK => ?_) (AllReadyH.nil)
        go_simp
        clear hHeld
        have HK2 := Lib.hid (HK.out.new #[S [89, 89, 89, 89], S x1, S x2] 9)
        refine hK.out _ _ ?_ (fun hHeld => ?_)
        · (try dsimp only); exact HS2.out _ HK2.out.tail
        clear hK K HK hHeld
        have HK := HK2
        clear HK2
        obtain ⟨F, hg⟩ : ∃ g, W2.heap.size = g := ⟨_, rfl⟩
        rw [hg] at HK ⊢
        clear hg
        obtain ⟨W3, hW⟩ : ∃ W, W2.alloc (.cells #[S [89, 89, 89, 89], S x1, S x2] 9 (0, 0)) = W := ⟨_, rfl⟩
        rw [hW] at HK ⊢
        clear hW
        (try simp only [Act.put, List.setIfInBounds_toArray, List.set_cons_zero, List.set_cons_succ])
        have HS3 := Lib.hid (show ∀ W, Kq W0 W [(F, 9, [S [89, 89, 89, 89], S x1, S x2]), (A, 9, [S [77, 77], S [77]]), (C, 9, [S [68, 68], S [68]]), (B, 30, [iz q0, iz q1, iz q2])] → W.cell? ⟨B, 0, none⟩ = some (iz q0) ∧ W.cell? ⟨C, j, none⟩ = some (S x2) ∧ W.cell? ⟨A, i, none⟩ = some (S x1) from fun W h => ⟨(h.row _ (.tail _ (.tail _ (.tail _ (.head _))))).cell 0, ((h.row _ (.tail _ (.tail _ (.head _)))).cell j).trans HX2.out, ((h.row _ (.tail _ (.head _))).cell i).trans HX1.out⟩)
        have hHeld := HS3.out _ HK.out
        refine tk 14 (v := ?_) hHeld ?_ ?_
        rotate_left 1
        · intro _ hw; (try dsimp only at hw); go_simp; try with_reducible rfl
        (try simp only [Act.put, List.setIfInBounds_toArray, List.set_cons_zero, List.set_cons_succ])
        refine wpAnyH_done (by kernel_rfl) ?_ _
        clear hHeld
        go_wp2_with fail
        go_meet
        exact ⟨F, x1, x2, rfl, HK.out.row _ (.head _), HX.out, HK.out.ch⟩
      · go_simp
        go_at_call 15; with_reducible refine (HM0.out _).mono ?_; rintro e wq ⟨rfl, rfl⟩
        clear hHeld
        refine hK.out _ _ ?_ (fun hHeld => ?_)
        · (try dsimp only); exact HS1.out _ HK.out
        clear hK K
        (try simp only [Act.put, List.setIfInBounds_toArray, List.set_cons_zero, List.set_cons_succ])
        refine wpAnyH_ready (rs := [0, 10]) (by kernel_rfl) (by simp) ?_
        refine AllReadyH.cons (at_list rfl) (fun K hK => ?_) (AllReadyH.cons (at_list rfl) (fun K hK => ?_) (AllReadyH.nil))
        · go_simp
          clear hHeld
          have HK2 := Lib.hid (HK.out.new #[S [77, 77], S [77]] 9)
          refine hK.out _ _ ?_ (fun hHeld => ?_)
          · (try dsimp only); exact HS1.out _ HK2.out.tail
          clear hK K HK hHeld
          have HK := HK2
          clear HK2
          obtain ⟨A, hg⟩ : ∃ g, W1.heap.size = g := ⟨_, rfl⟩
          rw [hg] at HK ⊢
          clear hg
          obtain ⟨W2, hW⟩ : ∃ W, W1.alloc (.cells #[S [77, 77], S [77]] 9 (0, 0)) = W := ⟨_, rfl⟩
          rw [hW] at HK ⊢
          clear hW
          (try simp only [Act.put, List.setIfInBounds_toArray, List.set_cons_zero, List.set_cons_succ])
          have HS2 := Lib.hid (show ∀ W, Kq W0 W [(A, 9, [S [77, 77], S [77]]), (C, 9, [S [68, 68], S [68]]), (B, 30, [iz q0, iz q1, iz q2])] → W.cell? ⟨B, 0, none⟩ = some (iz q0) ∧ W.cell? ⟨C, j, none⟩ = some (S x2) ∧ W.cell? ⟨A, i, none⟩ = some (S x1) from fun W h => ⟨(h.row _ (.tail _ (.tail _ (.head _)))).cell 0, ((h.row _ (.tail _ (.head _))).cell j).trans HX2.out, ((h.row _ (.head _)).cell i).trans HX1.out⟩)
          refine wpAnyH_more (S' := fun w' => w'.cell? ⟨B, 0, none⟩ = some (iz q0) ∧ w'.cell? ⟨C, j, none⟩ = some (S x2) ∧ w'.cell? ⟨A, i, none⟩ = some (S x1)) (fun w' h => ⟨h.1, h.2.1⟩) _ _ _ _ ?_
          have hHeld := HS2.out _ HK.out
          refine tk 4 (v := ?_) hHeld ?_ ?_
          rotate_left 1
          · intro _ hw; (try dsimp only at hw); go_simp; try with_reducible rfl
          (try simp only [Act.put, List.setIfInBounds_toArray, List.set_cons_zero, List.set_cons_succ])
          refine tk 5 (v := ?_) hHeld ?_ ?_
          rotate_left 1
          · intro _ hw; (try dsimp only at hw); go_simp; try with_reducible rfl
          (try simp only [Act.put, List.setIfInBounds_toArray, List.set_cons_zero, List.set_cons_succ])
          refine wpAnyH_ready (rs := [10]) (by kernel_rfl) (by simp) ?_
          refine AllReadyH.cons (at_list rfl) (fun K hK => ?_) (AllReadyH.nil)
          go_simp
          go_at_call 15; with_reducible refine (HM1.out _).mono ?_; rintro e wq ⟨rfl, rfl⟩
          clear hHeld
          refine hK.out _ _ ?_ (fun hHeld => ?_)
          · (try dsimp only); exact HS2.out _ HK.out
          clear hK K
          (try simp only [Act.put, List.setIfInBounds_toArray, List.set_cons_zero, List.set_cons_succ])
          refine tk 11 (v := ?_) hHeld ?_ ?_
          rotate_left 1
          · intro _ hw; (try dsimp only at hw); go_simp; try with_reducible rfl
          (try simp only [Act.put, List.setIfInBounds_toArray, List.set_cons_zero, List.set_cons_succ])
          refine tk 12 (v := ?_) hHeld ?_ ?_
          rotate_left 1
          · intro _ hw; (try dsimp only at hw); go_simp; try with_reducible rfl
          (try simp only [Act.put, List.setIfInBounds_toArray, List.set_cons_zero, List.set_cons_succ])
          refine wpAnyH_ready (rs := [13]) (by kernel_rfl) (by simp) ?_
          refine AllReadyH.cons (at_list rfl) (fun K hK => ?_) (AllReadyH.nil)
          go_simp
          clear hHeld
          have HK2 := Lib.hid (HK.out.new #[S [89, 89, 89, 89], S x1, S x2] 9)
          refine hK.out _ _ ?_ (fun hHeld => ?_)
          · (try dsimp only); exact HS2.out _ HK2.out.tail
          clear hK K HK hHeld
          have HK := HK2
          clear HK2
          obtain ⟨F, hg⟩ : ∃ g, W2.heap.size = g := ⟨_, rfl⟩
          rw [hg] at HK ⊢
          clear hg
          obtain ⟨W3, hW⟩ : ∃ W, W2.alloc (.cells #[S [89, 89, 89, 89], S x1, S x2] 9 (0, 0)) = W := ⟨_, rfl⟩
          rw [hW] at HK ⊢
          clear hW
          (try simp only [Act.put, List.setIfInBounds_toArray, List.set_cons_zero, List.set_cons_succ])
          have HS3 := Lib.hid (show ∀ W, Kq W0 W [(F, 9, [S [89, 89, 89, 89], S x1, S x2]), (A, 9, [S [77, 77], S [77]]), (C, 9, [S [68, 68], S [68]]), (B, 30, [iz q0, iz q1, iz q2])] → W.cell? ⟨B, 0, none⟩ = some (iz q0) ∧ W.cell? ⟨C, j, none⟩ = some (S x2) ∧ W.cell? ⟨A, i, none⟩ = some (S x1) from fun W h => ⟨(h.row _ (.tail _ (.tail _ (.tail _ (.head _))))).cell 0, ((h.row _ (.tail _ (.tail _ (.head _)))).cell j).trans HX2.out, ((h.row _ (.tail _ (.head _))).cell i).trans HX1.out⟩)
          have hHeld := HS3.out _ HK.out
          refine tk 14 (v := ?_) hHeld ?_ ?_
          rotate_left 1
          · intro _ hw; (try dsimp only at hw); go_simp; try with_reducible rfl
          (try simp only [Act.put, List.setIfInBounds_toArray, List.set_cons_zero, List.set_cons_succ])
          refine wpAnyH_done (by kernel_rfl) ?_ _
          clear hHeld
          go_wp2_with fail
          go_meet
          exact ⟨F, x1, x2, rfl, HK.out.row _ (.head _), HX.out, HK.out.ch⟩
        · go_simp
          go_at_call 15; with_reducible refine (HM1.out _).mono ?_; rintro e wq ⟨rfl, rfl⟩
          clear hHeld
          refine hK.out _ _ ?_ (fun hHeld => ?_)
          · (try dsimp only); exact HS1.out _ HK.out
          clear hK K
          (try simp only [Act.put, List.setIfInBounds_toArray, List.set_cons_zero, List.set_cons_succ])
          refine tk 11 (v := ?_) hHeld ?_ ?_
          rotate_left 1
          · intro _ hw; (try dsimp only at hw); go_simp; try with_reducible rfl
          (try simp only [Act.put, List.setIfInBounds_toArray, List.set_cons_zero, List.set_cons_succ])
          refine tk 12 (v := ?_) hHeld ?_ ?_
          rotate_left 1
          · intro _ hw; (try dsimp only at hw); go_simp; try with_reducible rfl
          (try simp only [Act.put, List.setIfInBounds_toArray, List.set_cons_zero, List.set_cons_succ])
          refine wpAnyH_ready (rs := [0]) (by kernel_rfl) (by simp) ?_
          refine AllReadyH.cons (at_list rfl) (fun K hK => ?_) (AllReadyH.nil)
          go_simp
          clear hHeld
          have HK2 := Lib.hid (HK.out.new #[S [77, 77], S [77]] 9)
          refine hK.out _ _ ?_ (fun hHeld => ?_)
          · (try dsimp only); exact HS1.out _ HK2.out.tail
          clear hK K HK hHeld
          have HK := HK2
          clear HK2
          obtain ⟨A, hg⟩ : ∃ g, W1.heap.size = g := ⟨_, rfl⟩
          rw [hg] at HK ⊢
          clear hg
          obtain ⟨W2, hW⟩ : ∃ W, W1.alloc (.cells #[S [77, 77], S [77]] 9 (0, 0)) = W := ⟨_, rfl⟩
          rw [hW] at HK ⊢
          clear hW
          (try simp only [Act.put, List.setIfInBounds_toArray, List.set_cons_zero, List.set_cons_succ])
          have HS2 := Lib.hid (show ∀ W, Kq W0 W [(A, 9, [S [77, 77], S [77]]), (C, 9, [S [68, 68], S [68]]), (B, 30, [iz q0, iz q1, iz q2])] → W.cell? ⟨B, 0, none⟩ = some (iz q0) ∧ W.cell? ⟨C, j, none⟩ = some (S x2) ∧ W.cell? ⟨A, i, none⟩ = some (S x1) from fun W h => ⟨(h.row _ (.tail _ (.tail _ (.head _)))).cell 0, ((h.row _ (.tail _ (.head _))).cell j).trans HX2.out, ((h.row _ (.head _)).cell i).trans HX1.out⟩)
          refine wpAnyH_more (S' := fun w' => w'.cell? ⟨B, 0, none⟩ = some (iz q0) ∧ w'.cell? ⟨C, j, none⟩ = some (S x2) ∧ w'.cell? ⟨A, i, none⟩ = some (S x1)) (fun w' h => ⟨h.1, h.2.1⟩) _ _ _ _ ?_
          have hHeld := HS2.out _ HK.out
          refine tk 4 (v := ?_) hHeld ?_ ?_
          rotate_left 1
          · intro _ hw; (try dsimp only at hw); go_simp; try with_reducible rfl
          (try simp only [Act.put, List.setIfInBounds_toArray, List.set_cons_zero, List.set_cons_succ])
          refine tk 5 (v := ?_) hHeld ?_ ?_
          rotate_left 1
          · intro _ hw; (try dsimp only at hw); go_simp; try with_reducible rfl
          (try simp only [Act.put, List.setIfInBounds_toArray, List.set_cons_zero, List.set_cons_succ])
          refine wpAnyH_ready (rs := [13]) (by kernel_rfl) (by simp) ?_
          refine AllReadyH.cons (at_list rfl) (fun K hK => ?_) (AllReadyH.nil)
          go_simp
          clear hHeld
          have HK2 := Lib.hid (HK.out.new #[S [89, 89, 89, 89], S x1, S x2] 9)
          refine hK.out _ _ ?_ (fun hHeld => ?_)
          · (try dsimp only); exact HS2.out _ HK2.out.tail
          clear hK K HK hHeld
          have HK := HK2
          clear HK2
          obtain ⟨F, hg⟩ : ∃ g, W2.heap.size = g := ⟨_, rfl⟩
          rw [hg] at HK ⊢
          clear hg
          obtain ⟨W3, hW⟩ : ∃ W, W2.alloc (.cells #[S [89, 89, 89, 89], S x1, S x2] 9 (0, 0)) = W := ⟨_, rfl⟩
          rw [hW] at HK ⊢
          clear hW
          (try simp only [Act.put, List.setIfInBounds_toArray, List.set_cons_zero, List.set_cons_succ])
          have HS3 := Lib.hid (show ∀ W, Kq W0 W [(F, 9, [S [89, 89, 89, 89], S x1, S x2]), (A, 9, [S [77, 77], S [77]]), (C, 9, [S [68, 68], S [68]]), (B, 30, [iz q0, iz q1, iz q2])] → W.cell? ⟨B, 0, none⟩ = some (iz q0) ∧ W.cell? ⟨C, j, none⟩ = some (S x2) ∧ W.cell? ⟨A, i, none⟩ = some (S x1) from fun W h => ⟨(h.row _ (.tail _ (.tail _ (.tail _ (.head _))))).cell 0, ((h.row _ (.tail _ (.tail _ (.head _)))).cell j).trans HX2.out, ((h.row _ (.tail _ (.head _))).cell i).trans HX1.out⟩)
          have hHeld := HS3.out _ HK.out
          refine tk 14 (v := ?_) hHeld ?_ ?_
          rotate_left 1
          · intro _ hw; (try dsimp only at hw); go_simp; try with_reducible rfl
          (try simp only [Act.put, List.setIfInBounds_toArray, List.set_cons_zero, List.set_cons_succ])
          refine wpAnyH_done (by kernel_rfl) ?_ _
          clear hHeld
          go_wp2_with fail
          go_meet
          exact ⟨F, x1, x2, rfl, HK.out.row _ (.head _), HX.out, HK.out.ch⟩
  case rest =>
    obtain ⟨F, x1, x2, rfl, hF, hX, hC⟩ := hcut
    obtain ⟨s, hs⟩ : ∃ s, wc.heap.size = s := ⟨_, rfl⟩
    have hBs : B < s := by have := HQ.out.lt; have := hC.size; omega
    have hFs : F < s := by have := hF.lt; omega
    have HK := Lib.hid (show Kq W0 wc [(F, 9, [S [89, 89, 89, 89], S x1, S x2]), (B, 30, [iz q0, iz q1, iz q2])] from ⟨hC, fun p hp => by
      rcases List.mem_cons.1 hp with rfl | hp
      · exact hF
      · obtain rfl := List.mem_singleton.1 hp
        exact hC.blk HQ.out HQ.out.lt (fun q => q)⟩)
    have HX := Lib.hid hX
    have HSZ := Lib.hid hs
    clear hF hX hC c0 c1 c2
    go_upto_region 3 with fail
    clear hs
    have HK2 := HK.out
    have HK2 := HK2.new #[iz 0, iz 1, iz 2] 3
    have HK2 := HK2.new #[iz 0, iz 2, iz 1] 3
    have HK2 := HK2.new #[iz 1, iz 0, iz 2] 3
    have HK2 := HK2.new #[iz 1, iz 2, iz 0] 3
    have HK2 := HK2.new #[iz 2, iz 0, iz 1] 3
    have HK2 := HK2.new #[iz 2, iz 1, iz 0] 3
    have HK2 := HK2.new #[.slice (some ⟨s, 0, none⟩) 3 3, .slice (some ⟨s + 1, 0, none⟩) 3 3, .slice (some ⟨s + 1 + 1, 0, none⟩) 3 3, .slice (some ⟨s + 1 + 1 + 1, 0, none⟩) 3 3, .slice (some ⟨s + 1 + 1 + 1 + 1, 0, none⟩) 3 3, .slice (some ⟨s + 1 + 1 + 1 + 1 + 1, 0, none⟩) 3 3] 32
    simp only [World.size_alloc, HSZ.out] at HK2
    obtain ⟨W3, hW3⟩ : ∃ W, (((((((wc.alloc (.cells #[iz 0, iz 1, iz 2] 3 (0, 0))).alloc (.cells #[iz 0, iz 2, iz 1] 3 (0, 0))).alloc (.cells #[iz 1, iz 0, iz 2] 3 (0, 0))).alloc (.cells #[iz 1, iz 2, iz 0] 3 (0, 0))).alloc (.cells #[iz 2, iz 0, iz 1] 3 (0, 0))).alloc (.cells #[iz 2, iz 1, iz 0] 3 (0, 0))).alloc (.cells #[.slice (some ⟨s, 0, none⟩) 3 3, .slice (some ⟨s + 1, 0, none⟩) 3 3, .slice (some ⟨s + 1 + 1, 0, none⟩) 3 3, .slice (some ⟨s + 1 + 1 + 1, 0, none⟩) 3 3, .slice (some ⟨s + 1 + 1 + 1 + 1, 0, none⟩) 3 3, .slice (some ⟨s + 1 + 1 + 1 + 1 + 1, 0, none⟩) 3 3] 32 (0, 0))) = W := ⟨_, rfl⟩
    rw [hW3] at HK2 ⊢
    clear hW3 HK
    have HK := Lib.hid HK2
    clear HK2
    have c1 := (HK.out.row (B, 30, [iz q0, iz q1, iz q2]) (by simp)).cell 1
    simp only [List.getElem?_cons_zero, List.getElem?_cons_succ] at c1
    have hrow := HK.out.row _ (.head _)
    have e0 := hrow.cell 0
    have e1 := hrow.cell 1
    have e2 := hrow.cell 2
    have e3 := hrow.cell 3
    have e4 := hrow.cell 4
    have e5 := hrow.cell 5
    simp only [List.getElem?_cons_zero, List.getElem?_cons_succ, Array.toList] at e0 e1 e2 e3 e4 e5
    clear hrow
    go_cut [7] from 31 to 36 (fun v wx => ∃ (g a b c : Nat) (u0 u1 u2 : List UInt8), v = .slice (some ⟨g, 0, none⟩) 3 3 ∧ Blk wx g 3 [.int .i64 (a : Int), .int .i64 (b : Int), .int .i64 (c : Int)] ∧ Row3 x1 x2 a b c u0 u1 u2 ∧ Kq W0 wx [(F, 9, [S [89, 89, 89, 89], S x1, S x2]), (B, 30, [iz q0, iz q1, iz q2])])
    case first =>
      have HKK := Lib.hid (show Kq W0 W3 [(F, 9, [S [89, 89, 89, 89], S x1, S x2]), (B, 30, [iz q0, iz q1, iz q2])] from ⟨HK.out.ch, fun p hp => HK.out.row p (by simp only [List.mem_cons, List.not_mem_nil, or_false] at hp; rcases hp with rfl | rfl <;> simp)⟩)
      have m : q1 % 6 = 0 ∨ q1 % 6 = 1 ∨ q1 % 6 = 2 ∨ q1 % 6 = 3 ∨ q1 % 6 = 4 ∨ q1 % 6 = 5 := by omega
      rcases m with m | m | m | m | m | m
      · rw [m] at HM2
        clear m
        go_wp2_with (go_at_call 15; with_reducible refine (HM2.out _).mono ?_; rintro e wq ⟨rfl, rfl⟩)
        go_meet
        exact ⟨_, 0, 1, 2, [89, 89, 89, 89], x1, x2, rfl, HK.out.row (s, 3, [iz 0, iz 1, iz 2]) (by simp), .r0, HKK.out⟩
      · rw [m] at HM2
        clear m
        go_wp2_with (go_at_call 15; with_reducible refine (HM2.out _).mono ?_; rintro e wq ⟨rfl, rfl⟩)
        go_meet
        exact ⟨_, 0, 2, 1, [89, 89, 89, 89], x2, x1, rfl, HK.out.row (s + 1, 3, [iz 0, iz 2, iz 1]) (by simp), .r1, HKK.out⟩
      · rw [m] at HM2
        clear m
        go_wp2_with (go_at_call 15; with_reducible refine (HM2.out _).mono ?_; rintro e wq ⟨rfl, rfl⟩)
        go_meet
        exact ⟨_, 1, 0, 2, x1, [89, 89, 89, 89], x2, rfl, HK.out.row (s + 1 + 1, 3, [iz 1, iz 0, iz 2]) (by simp), .r2, HKK.out⟩
      · rw [m] at HM2
        clear m
        go_wp2_with (go_at_call 15; with_reducible refine (HM2.out _).mono ?_; rintro e wq ⟨rfl, rfl⟩)
        go_meet
        exact ⟨_, 1, 2, 0, x1, x2, [89, 89, 89, 89], rfl, HK.out.row (s + 1 + 1 + 1, 3, [iz 1, iz 2, iz 0]) (by simp), .r3, HKK.out⟩
      · rw [m] at HM2
        clear m
        go_wp2_with (go_at_call 15; with_reducible refine (HM2.out _).mono ?_; rintro e wq ⟨rfl, rfl⟩)
        go_meet
        exact ⟨_, 2, 0, 1, x2, [89, 89, 89, 89], x1, rfl, HK.out.row (s + 1 + 1 + 1 + 1, 3, [iz 2, iz 0, iz 1]) (by simp), .r4, HKK.out⟩
      · rw [m] at HM2
        clear m
        go_wp2_with (go_at_call 15; with_reducible refine (HM2.out _).mono ?_; rintro e wq ⟨rfl, rfl⟩)
        go_meet
        exact ⟨_, 2, 1, 0, x2, x1, [89, 89, 89, 89], rfl, HK.out.row (s + 1 + 1 + 1 + 1 + 1, 3, [iz 2, iz 1, iz 0]) (by simp), .r5, HKK.out⟩
    case rest =>
      clear e0 e1 e2 e3 e4 e5 c1 HK hBs hFs HSZ
      obtain ⟨g, a, b', c, u0, u1, u2, rfl, hg, hR, hKK⟩ := hcut
      have HR := Lib.hid hR
      have HG := Lib.hid hg
      have HK := Lib.hid hKK
      have HA := Lib.hid (show ∀ W, Ch wc.heap.size none1 wc W → W.cell? ⟨B, 2, none⟩ = some (iz q2) from fun W h => (h.blk (HK.out.row (B, 30, [iz q0, iz q1, iz q2]) (by simp)) (HK.out.row (B, 30, [iz q0, iz q1, iz q2]) (by simp)).lt (fun q => q)).cell 2)
      have c2 := fun o => HA.out (wc.alloc o) (dch0 _ o)
      clear hg hR hKK
      go_upto_region 4 with fail
      go_cut [8] from 37 to 48 (fun v wx => ∃ sp : List UInt8, v = S sp ∧ sp.length ≤ 4 ∧ (sp ∈ seps ∨ sp = []) ∧ Blk wx g 3 [.int .i64 (a : Int), .int .i64 (b' : Int), .int .i64 (c : Int)] ∧ Kq W0 wx [(F, 9, [S [89, 89, 89, 89], S x1, S x2]), (B, 30, [iz q0, iz q1, iz q2])])
      case first =>
        have HFIN := Lib.hid (fun o => And.intro (HG.out.alloc o) (HK.out.other o))
        have m : q2 % 8 = 0 ∨ q2 % 8 = 1 ∨ q2 % 8 = 2 ∨ q2 % 8 = 3 ∨ q2 % 8 = 4 ∨ q2 % 8 = 5 ∨ q2 % 8 = 6 ∨ q2 % 8 = 7 := by omega
        rcases m with m | m | m | m | m | m | m | m
        · rw [m] at HM3
          clear m
          go_wp2_with (go_at_call 15; with_reducible refine (HM3.out _).mono ?_; rintro e wq ⟨rfl, rfl⟩)
          go_meet
          exact ⟨[45], rfl, by decide, .inl (by decide), (HFIN.out _).1, (HFIN.out _).2⟩
        · rw [m] at HM3
          clear m
          go_wp2_with (go_at_call 15; with_reducible refine (HM3.out _).mono ?_; rintro e wq ⟨rfl, rfl⟩)
          go_meet
          exact ⟨[46], rfl, by decide, .inl (by decide), (HFIN.out _).1, (HFIN.out _).2⟩
        · rw [m] at HM3
          clear m
          go_wp2_with (go_at_call 15; with_reducible refine (HM3.out _).mono ?_; rintro e wq ⟨rfl, rfl⟩)
          go_meet
          exact ⟨[47], rfl, by decide, .inl (by decide), (HFIN.out _).1, (HFIN.out _).2⟩
        · rw [m] at HM3
          clear m
          go_wp2_with (go_at_call 15; with_reducible refine (HM3.out _).mono ?_; rintro e wq ⟨rfl, rfl⟩)
          go_meet
          exact ⟨[32], rfl, by decide, .inl (by decide), (HFIN.out _).1, (HFIN.out _).2⟩
        · rw [m] at HM3
          clear m
          go_wp2_with (go_at_call 15; with_reducible refine (HM3.out _).mono ?_; rintro e wq ⟨rfl, rfl⟩)
          go_meet
          exact ⟨[44, 32], rfl, by decide, .inl (by decide), (HFIN.out _).1, (HFIN.out _).2⟩
        · rw [m] at HM3
          clear m
          go_wp2_with (go_at_call 15; with_reducible refine (HM3.out _).mono ?_; rintro e wq ⟨rfl, rfl⟩)
          go_meet
          exact ⟨[120], rfl, by decide, .inl (by decide), (HFIN.out _).1, (HFIN.out _).2⟩
        · rw [m] at HM3
          clear m
          go_wp2_with (go_at_call 15; with_reducible refine (HM3.out _).mono ?_; rintro e wq ⟨rfl, rfl⟩)
          go_meet
          exact ⟨[32, 111, 102, 32], rfl, by decide, .inl (by decide), (HFIN.out _).1, (HFIN.out _).2⟩
        · rw [m] at HM3
          clear m
          go_wp2_with (go_at_call 15; with_reducible refine (HM3.out _).mono ?_; rintro e wq ⟨rfl, rfl⟩)
          go_meet
          exact ⟨[], rfl, by decide, .inr rfl, (HFIN.out _).1, (HFIN.out _).2⟩
      case rest =>
        clear c2 HA HK HG
        obtain ⟨sp, rfl, hsl, hsp, hg, hKK⟩ := hcut
        have HSP := Lib.hid hsp
        obtain ⟨r0, r1, r2⟩ := HR.out.rows
        have l3 := HR.out.lens HX.out
        have ul0 := l3.1
        have ul1 := l3.2.1
        have ul2 := l3.2.2
        have b3 := HR.out.bds
        have a1 : (a : Int) < 3 := by omega
        have a2 : (b' : Int) < 3 := by omega
        have a3 : (c : Int) < 3 := by omega
        have HCE := Lib.hid hKK.ch
        have hFB := hKK.row _ (.head _)
        have HS := Lib.hid (show wc.drew.cell? ⟨g, 0, none⟩ = some (.int .i64 (a : Int)) ∧ wc.drew.cell? ⟨g, 1, none⟩ = some (.int .i64 (b' : Int)) ∧ wc.drew.cell? ⟨g, 2, none⟩ = some (.int .i64 (c : Int)) ∧ wc.drew.cell? ⟨F, a, none⟩ = some (S u0) ∧ wc.drew.cell? ⟨F, b', none⟩ = some (S u1) ∧ wc.drew.cell? ⟨F, c, none⟩ = some (S u2) from
          ⟨hg.drew.cell 0, hg.drew.cell 1, hg.drew.cell 2, (hFB.drew.cell a).trans r0, (hFB.drew.cell b').trans r1, (hFB.drew.cell c).trans r2⟩)
        have cq2 := (hKK.row (B, 30, [iz q0, iz q1, iz q2]) (by simp)).drew.cell 2
        simp only [List.getElem?_cons_zero, List.getElem?_cons_succ] at cq2
        have HS3 := Lib.hid (show wc.drew.drew.cell? ⟨g, 0, none⟩ = some (.int .i64 (a : Int)) ∧ wc.drew.drew.cell? ⟨g, 1, none⟩ = some (.int .i64 (b' : Int)) ∧ wc.drew.drew.cell? ⟨g, 2, none⟩ = some (.int .i64 (c : Int)) ∧ wc.drew.drew.cell? ⟨F, a, none⟩ = some (S u0) ∧ wc.drew.drew.cell? ⟨F, b', none⟩ = some (S u1) ∧ wc.drew.drew.cell? ⟨F, c, none⟩ = some (S u2) from HS.out)
        have HCC := Lib.hid (show Ch w.heap.size none1 w wc from HB.out.trans (HCE.out.mono HB.out.size (fun _ _ q => q)))
        clear hsp l3 b3 hg hFB hKK r0 r1 r2
        by_cases hse : sp = []
        · subst hse
          cases b with
          | false =>
            have n0 : ¬ 9223372036854775807 < u0.length + 1 := by omega
            have n1 : ¬ 9223372036854775807 < u0.length + 1 + u1.length := by omega
            have n2 : ¬ 9223372036854775807 < u0.length + 1 + u1.length + 1 := by omega
            have n3 : ¬ 9223372036854775807 < u0.length + 1 + u1.length + 1 + u2.length := by omega
            go_upto_region 7 with fail
            go_region_held3 (fun w' => w'.cell? ⟨g, 0, none⟩ = some (.int .i64 (a : Int)) ∧ w'.cell? ⟨g, 1, none⟩ = some (.int .i64 (b' : Int)) ∧ w'.cell? ⟨g, 2, none⟩ = some (.int .i64 (c : Int)) ∧ w'.cell? ⟨F, a, none⟩ = some (S u0) ∧ w'.cell? ⟨F, b', none⟩ = some (S u1) ∧ w'.cell? ⟨F, c, none⟩ = some (S u2))
              (first
                | (with_reducible exact HS.out)
                | go_keep)
              (fail)
            go_wp2_with fail
            go_ret
            exact ⟨⟨u0 ++ [95] ++ u1 ++ [95] ++ u2, congrArg Ending.returned (by rw [← app_S (a := u0 ++ [95] ++ u1 ++ [95]) rfl, ← S_app (u0 ++ [95] ++ u1), ← S_app (u0 ++ [95]), ← S_app u0]; rfl), by simp only [List.length_append, List.length_cons, List.length_nil]; omega, HR.out.right (sp := [95]) HX.out (by decide)⟩, HCC.out.drew⟩
          | true =>
            have n0 : ¬ 9223372036854775807 < u0.length := by omega
            have n1 : ¬ 9223372036854775807 < u0.length + u1.length := by omega
            have n2 : ¬ 9223372036854775807 < u0.length + u1.length := by omega
            have n3 : ¬ 9223372036854775807 < u0.length + u1.length + u2.length := by omega
            go_upto_region 7 with fail
            go_region_held3 (fun w' => w'.cell? ⟨g, 0, none⟩ = some (.int .i64 (a : Int)) ∧ w'.cell? ⟨g, 1, none⟩ = some (.int .i64 (b' : Int)) ∧ w'.cell? ⟨g, 2, none⟩ = some (.int .i64 (c : Int)) ∧ w'.cell? ⟨F, a, none⟩ = some (S u0) ∧ w'.cell? ⟨F, b', none⟩ = some (S u1) ∧ w'.cell? ⟨F, c, none⟩ = some (S u2))
              (first
                | (with_reducible exact HS.out)
                | go_keep)
              (fail)
            have hr : q2.tdiv 8 % 9 = 0 ∨ q2.tdiv 8 % 9 = 1 ∨ q2.tdiv 8 % 9 = 2 ∨ q2.tdiv 8 % 9 = 3 ∨ q2.tdiv 8 % 9 = 4 ∨ q2.tdiv 8 % 9 = 5 ∨ q2.tdiv 8 % 9 = 6 ∨ q2.tdiv 8 % 9 = 7 ∨ q2.tdiv 8 % 9 = 8 := by omega
            rcases hr with hr | hr | hr | hr | hr | hr | hr | hr | hr
            · rw [hr] at HM4
              clear hr
              have n4 : ¬ 9223372036854775807 < u0.length + u1.length + u2.length + 1 := by omega
              go_wp2_with (go_at_call 15; with_reducible refine (HM4.out _).mono ?_; rintro e wq ⟨rfl, rfl⟩)
              go_ret
              refine ⟨?_, HCC.out.drew⟩
              apply str_end
              · rfl
              · simp only [ByteArray.size_append, bsz, List.size_toArray, List.length_cons, List.length_nil]
                omega
            · rw [hr] at HM4
              clear hr
              have n4 : ¬ 9223372036854775807 < 1 + (u0.length + u1.length + u2.length) := by omega
              go_wp2_with (go_at_call 15; with_reducible refine (HM4.out _).mono ?_; rintro e wq ⟨rfl, rfl⟩)
              go_ret
              refine ⟨?_, HCC.out.drew⟩
              apply str_end
              · rfl
              · simp only [ByteArray.size_append, bsz, List.size_toArray, List.length_cons, List.length_nil]
                omega
            · rw [hr] at HM4
              clear hr
              have n4 : ¬ 9223372036854775807 < u0.length + u1.length + u2.length + 1 := by omega
              go_wp2_with (go_at_call 15; with_reducible refine (HM4.out _).mono ?_; rintro e wq ⟨rfl, rfl⟩)
              go_ret
              refine ⟨?_, HCC.out.drew⟩
              apply str_end
              · rfl
              · simp only [ByteArray.size_append, bsz, List.size_toArray, List.length_cons, List.length_nil]
                omega
            · rw [hr] at HM4
              clear hr
              have HS2 := HS3
              go_wp2_with (go_at_call 15; with_reducible refine (HM4.out _).mono ?_; rintro e wq ⟨rfl, rfl⟩)
              go_region_held3 (fun w' => w'.cell? ⟨g, 0, none⟩ = some (.int .i64 (a : Int)) ∧ w'.cell? ⟨g, 1, none⟩ = some (.int .i64 (b' : Int)) ∧ w'.cell? ⟨g, 2, none⟩ = some (.int .i64 (c : Int)) ∧ w'.cell? ⟨F, a, none⟩ = some (S u0) ∧ w'.cell? ⟨F, b', none⟩ = some (S u1) ∧ w'.cell? ⟨F, c, none⟩ = some (S u2))
                (first
                  | (with_reducible exact HS3.out)
                  | go_keep)
                (fail)
              go_wp2_with fail
              go_ret
              refine ⟨?_, HCC.out.drew.drew⟩
              apply str_end
              · rfl
              · simp only [ByteArray.size_append, bsz, List.size_toArray, List.length_cons, List.length_nil]
                omega
            · rw [hr] at HM4
              clear hr
              have n4 : ¬ 9223372036854775807 < u0.length + u1.length + u2.length + 1 := by omega
              go_wp2_with (go_at_call 15; with_reducible refine (HM4.out _).mono ?_; rintro e wq ⟨rfl, rfl⟩)
              go_ret
              refine ⟨?_, HCC.out.drew⟩
              apply str_end
              · rfl
              · simp only [ByteArray.size_append, bsz, List.size_toArray, List.length_cons, List.length_nil]
                omega
            · rw [hr] at HM4
              clear hr
              have n4 : ¬ 9223372036854775807 < 5 + (u0.length + u1.length + u2.length) := by omega
              go_wp2_with (go_at_call 15; with_reducible refine (HM4.out _).mono ?_; rintro e wq ⟨rfl, rfl⟩)
              go_ret
              refine ⟨?_, HCC.out.drew⟩
              apply str_end
              · rfl
              · simp only [ByteArray.size_append, bsz, List.size_toArray, List.length_cons, List.length_nil]
                omega
            · rw [hr] at HM4
              clear hr
              have n4 : ¬ 9223372036854775807 < u0.length + u1.length + u2.length + 36 := by omega
              go_wp2_with (go_at_call 15; with_reducible refine (HM4.out _).mono ?_; rintro e wq ⟨rfl, rfl⟩)
              go_ret
              refine ⟨?_, HCC.out.drew⟩
              apply str_end
              · rfl
              · simp only [ByteArray.size_append, bsz, List.size_toArray, List.length_cons, List.length_nil]
                omega
            · rw [hr] at HM4
              clear hr
              go_wp2_with (go_at_call 15; with_reducible refine (HM4.out _).mono ?_; rintro e wq ⟨rfl, rfl⟩)
              go_ret
              refine ⟨?_, HCC.out.drew⟩
              apply str_end
              · rfl
              · simp only [ByteArray.size_append, bsz, List.size_toArray, List.length_cons, List.length_nil]
                omega
            · rw [hr] at HM4
              clear hr
              go_wp2_with (go_at_call 15; with_reducible refine (HM4.out _).mono ?_; rintro e wq ⟨rfl, rfl⟩)
              go_ret
              refine ⟨?_, HCC.out.drew⟩
              apply str_end
              · rfl
              · simp only [ByteArray.size_append, bsz, List.size_toArray, List.length_cons, List.length_nil]
                omega
        · have HSE := Lib.hid hse
          have yb : (sp == ([] : List UInt8)) = false := beq_eq_false_iff_ne.2 hse
          have ya : ¬ sp.toArray = #[] := fun q => HSE.out (by have := congrArg Array.toList q; simpa using this)
          have hse2 := HSP.out.resolve_right hse
          have HSM := Lib.hid hse2
          clear hse hse2
          cases b with
          | false =>
            have n0 : ¬ 9223372036854775807 < u0.length + sp.length := by omega
            have n1 : ¬ 9223372036854775807 < u0.length + sp.length + u1.length := by omega
            have n2 : ¬ 9223372036854775807 < u0.length + sp.length + u1.length + sp.length := by omega
            have n3 : ¬ 9223372036854775807 < u0.length + sp.length + u1.length + sp.length + u2.length := by omega
            go_upto_region 7 with fail
            go_region_held3 (fun w' => w'.cell? ⟨g, 0, none⟩ = some (.int .i64 (a : Int)) ∧ w'.cell? ⟨g, 1, none⟩ = some (.int .i64 (b' : Int)) ∧ w'.cell? ⟨g, 2, none⟩ = some (.int .i64 (c : Int)) ∧ w'.cell? ⟨F, a, none⟩ = some (S u0) ∧ w'.cell? ⟨F, b', none⟩ = some (S u1) ∧ w'.cell? ⟨F, c, none⟩ = some (S u2))
              (first
                | (with_reducible exact HS.out)
                | go_keep)
              (fail)
            go_wp2_with fail
            go_ret
            exact ⟨⟨u0 ++ sp ++ u1 ++ sp ++ u2, congrArg Ending.returned (by rw [← app_S (a := u0 ++ sp ++ u1 ++ sp) rfl, ← S_app (u0 ++ sp ++ u1), ← S_app (u0 ++ sp), ← S_app u0]; rfl), by simp only [List.length_append, List.length_cons, List.length_nil]; omega, HR.out.right (sp := sp) HX.out HSM.out⟩, HCC.out.drew⟩
          | true =>
            have n0 : ¬ 9223372036854775807 < u0.length + sp.length := by omega
            have n1 : ¬ 9223372036854775807 < u0.length + sp.length + u1.length := by omega
            have n2 : ¬ 9223372036854775807 < u0.length + sp.length + u1.length + sp.length := by omega
            have n3 : ¬ 9223372036854775807 < u0.length + sp.length + u1.length + sp.length + u2.length := by omega
            go_upto_region 7 with fail
            go_region_held3 (fun w' => w'.cell? ⟨g, 0, none⟩ = some (.int .i64 (a : Int)) ∧ w'.cell? ⟨g, 1, none⟩ = some (.int .i64 (b' : Int)) ∧ w'.cell? ⟨g, 2, none⟩ = some (.int .i64 (c : Int)) ∧ w'.cell? ⟨F, a, none⟩ = some (S u0) ∧ w'.cell? ⟨F, b', none⟩ = some (S u1) ∧ w'.cell? ⟨F, c, none⟩ = some (S u2))
              (first
                | (with_reducible exact HS.out)
                | go_keep)
              (fail)
            have hr : q2.tdiv 8 % 9 = 0 ∨ q2.tdiv 8 % 9 = 1 ∨ q2.tdiv 8 % 9 = 2 ∨ q2.tdiv 8 % 9 = 3 ∨ q2.tdiv 8 % 9 = 4 ∨ q2.tdiv 8 % 9 = 5 ∨ q2.tdiv 8 % 9 = 6 ∨ q2.tdiv 8 % 9 = 7 ∨ q2.tdiv 8 % 9 = 8 := by omega
            rcases hr with hr | hr | hr | hr | hr | hr | hr | hr | hr
            · rw [hr] at HM4
              clear hr
              have n4 : ¬ 9223372036854775807 < u0.length + sp.length + u1.length + sp.length + u2.length + 1 := by omega
              go_wp2_with (go_at_call 15; with_reducible refine (HM4.out _).mono ?_; rintro e wq ⟨rfl, rfl⟩)
              go_ret
              refine ⟨?_, HCC.out.drew⟩
              apply str_end
              · rfl
              · simp only [ByteArray.size_append, bsz, List.size_toArray, List.length_cons, List.length_nil]
                omega
            · rw [hr] at HM4
              clear hr
              have n4 : ¬ 9223372036854775807 < 1 + (u0.length + sp.length + u1.length + sp.length + u2.length) := by omega
              go_wp2_with (go_at_call 15; with_reducible refine (HM4.out _).mono ?_; rintro e wq ⟨rfl, rfl⟩)
              go_ret
              refine ⟨?_, HCC.out.drew⟩
              apply str_end
              · rfl
              · simp only [ByteArray.size_append, bsz, List.size_toArray, List.length_cons, List.length_nil]
                omega
            · rw [hr] at HM4
              clear hr
              have n4 : ¬ 9223372036854775807 < u0.length + sp.length + u1.length + sp.length + u2.length + 1 := by omega
              go_wp2_with (go_at_call 15; with_reducible refine (HM4.out _).mono ?_; rintro e wq ⟨rfl, rfl⟩)
              go_ret
              refine ⟨?_, HCC.out.drew⟩
              apply str_end
              · rfl
              · simp only [ByteArray.size_append, bsz, List.size_toArray, List.length_cons, List.length_nil]
                omega
            · rw [hr] at HM4
              clear hr
              have HS2 := HS3
              go_wp2_with (go_at_call 15; with_reducible refine (HM4.out _).mono ?_; rintro e wq ⟨rfl, rfl⟩)
              go_region_held3 (fun w' => w'.cell? ⟨g, 0, none⟩ = some (.int .i64 (a : Int)) ∧ w'.cell? ⟨g, 1, none⟩ = some (.int .i64 (b' : Int)) ∧ w'.cell? ⟨g, 2, none⟩ = some (.int .i64 (c : Int)) ∧ w'.cell? ⟨F, a, none⟩ = some (S u0) ∧ w'.cell? ⟨F, b', none⟩ = some (S u1) ∧ w'.cell? ⟨F, c, none⟩ = some (S u2))
                (first
                  | (with_reducible exact HS3.out)
                  | go_keep)
                (fail)
              go_wp2_with fail
              go_ret
              refine ⟨?_, HCC.out.drew.drew⟩
              apply str_end
              · rfl
              · simp only [ByteArray.size_append, bsz, List.size_toArray, List.length_cons, List.length_nil]
                omega
            · rw [hr] at HM4
              clear hr
              have n4 : ¬ 9223372036854775807 < u0.length + sp.length + u1.length + sp.length + u2.length + 1 := by omega
              go_wp2_with (go_at_call 15; with_reducible refine (HM4.out _).mono ?_; rintro e wq ⟨rfl, rfl⟩)
              go_ret
              refine ⟨?_, HCC.out.drew⟩
              apply str_end
              · rfl
              · simp only [ByteArray.size_append, bsz, List.size_toArray, List.length_cons, List.length_nil]
                omega
            · rw [hr] at HM4
              clear hr
              have n4 : ¬ 9223372036854775807 < 5 + (u0.length + sp.length + u1.length + sp.length + u2.length) := by omega
              go_wp2_with (go_at_call 15; with_reducible refine (HM4.out _).mono ?_; rintro e wq ⟨rfl, rfl⟩)
              go_ret
              refine ⟨?_, HCC.out.drew⟩
              apply str_end
              · rfl
              · simp only [ByteArray.size_append, bsz, List.size_toArray, List.length_cons, List.length_nil]
                omega
            · rw [hr] at HM4
              clear hr
              have n4 : ¬ 9223372036854775807 < u0.length + sp.length + u1.length + sp.length + u2.length + 36 := by omega
              go_wp2_with (go_at_call 15; with_reducible refine (HM4.out _).mono ?_; rintro e wq ⟨rfl, rfl⟩)
              go_ret
              refine ⟨?_, HCC.out.drew⟩
              apply str_end
              · rfl
              · simp only [ByteArray.size_append, bsz, List.size_toArray, List.length_cons, List.length_nil]
                omega
            · rw [hr] at HM4
              clear hr
              go_wp2_with (go_at_call 15; with_reducible refine (HM4.out _).mono ?_; rintro e wq ⟨rfl, rfl⟩)
              go_ret
              refine ⟨?_, HCC.out.drew⟩
              apply str_end
              · rfl
              · simp only [ByteArray.size_append, bsz, List.size_toArray, List.length_cons, List.length_nil]
                omega
            · rw [hr] at HM4
              clear hr
              go_wp2_with (go_at_call 15; with_reducible refine (HM4.out _).mono ?_; rintro e wq ⟨rfl, rfl⟩)
              go_ret
              refine ⟨?_, HCC.out.drew⟩
              apply str_end
              · rfl
              · simp only [ByteArray.size_append, bsz, List.size_toArray, List.length_cons, List.length_nil]
                omega
end Go.Proofs.YtehgkpbjbkeoeaaDoor
