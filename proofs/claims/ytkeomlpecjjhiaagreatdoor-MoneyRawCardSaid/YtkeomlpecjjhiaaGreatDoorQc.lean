/- The tables that package ratio reads; Right, counted, sign, opposite. -/
import Derived.Test.YtkeomlpecjjhiaaGreatDoorQa
import Derived.Laws.Rows
import Derived.Deep.RegionHeld3
namespace Go.Proofs.YtkeomlpecjjhiaaGreatDoor
open Go.RowKit
set_option maxRecDepth 100000
theorem beq_no {a b : List UInt8} (h : a ≠ b) : (a == b) = false := by rw [beq_eq_false_iff_ne]; exact h
set_option maxHeartbeats 1600000 in
theorem C_common {a b l : List UInt8} {n : Nat} (hl : nb n = l) (ha : a.length ≤ 10000) (hb : b.length ≤ 10000) (hn : Nat.gcd (bv a) (bv b) = n) : Ans 113 #[S a, S b] (S l) := fun w => by
 have H1 := Lib.hid (C_gcd hl ha hb hn)
 by_cases h1 : a = [1]
 ·subst h1
  have hr : l = [1] := by rw [← hl, ← hn, show bv [1] = 1 from rfl, Nat.gcd_one_left, nb_one]
  subst hr
  clear H1 hl hn
  go_enter Tryz.func113, Tryz.ntmps113
  go_wp2_with fail
  go_ret
  exact ⟨rfl, Ch.refl _ _ _⟩
 ·have e1 := beq_no h1
  by_cases h2 : b = [1]
  ·subst h2
   have hr : l = [1] := by rw [← hl, ← hn, show bv [1] = 1 from rfl, Nat.gcd_one_right, nb_one]
   subst hr
   clear H1 hl hn h1
   go_enter Tryz.func113, Tryz.ntmps113
   go_wp2_with fail
   go_ret
   exact ⟨rfl, Ch.refl _ _ _⟩
  ·have e2 := beq_no h2
   clear h1 h2 hl hn
   go_enter Tryz.func113, Tryz.ntmps113
   go_wp2_with fail
   refine (H1.out _).mono ?_
   rintro e w' ⟨rfl, hC⟩
   go_wp2_with fail
   go_ret
   exact ⟨rfl, hC⟩
set_option maxHeartbeats 1600000 in
theorem C_quotient {a g l : List UInt8} {n : Nat} (hl : nb n = l) (ha : a.length ≤ 10000) (hg : g.length ≤ 10000) (hra : Rt a) (h0 : 0 < bv g) (hn : bv a / bv g = n) : Ans 99 #[S a, S g] (S l) := fun w => by
 obtain ⟨m, hm⟩ : ∃ m, nb (bv a % bv g) = m := ⟨_, rfl⟩
 have H1 := Lib.hid (C_quo hl hm ha hg h0 hn rfl)
 by_cases h1 : g = [1]
 ·subst h1
  have hr : l = a := by rw [← hl, ← hn, show bv [1] = 1 from rfl, Nat.div_one, nb_of_rt hra]
  subst hr
  clear H1 hl hn hm
  go_enter Tryz.func99, Tryz.ntmps99
  go_wp2_with fail
  go_ret
  exact ⟨rfl, Ch.refl _ _ _⟩
 ·have e1 := beq_no h1
  clear h1 hl hn hm
  go_enter Tryz.func99, Tryz.ntmps99
  go_wp2_with fail
  refine (H1.out _).mono ?_
  rintro e w' ⟨rfl, hC⟩
  go_wp2_with fail
  go_ret
  exact ⟨rfl, hC⟩
set_option maxHeartbeats 1600000 in
theorem C_product {a b l : List UInt8} {n : Nat} (hl : nb n = l) (ha : a.length ≤ 10000) (hb : b.length ≤ 10000) (hra : Rt a) (hrb : Rt b) (hn : bv a * bv b = n) : Ans 98 #[S a, S b] (S l) := fun w => by
 have H1 := Lib.hid (C_mul hl ha hb hn)
 by_cases h1 : a = [1]
 ·subst h1
  have hr : l = b := by rw [← hl, ← hn, show bv [1] = 1 from rfl, Nat.one_mul, nb_of_rt hrb]
  subst hr
  clear H1 hl hn
  go_enter Tryz.func98, Tryz.ntmps98
  go_wp2_with fail
  go_ret
  exact ⟨rfl, Ch.refl _ _ _⟩
 ·have e1 := beq_no h1
  by_cases h2 : b = [1]
  ·subst h2
   have hr : l = a := by rw [← hl, ← hn, show bv [1] = 1 from rfl, Nat.mul_one, nb_of_rt hra]
   subst hr
   clear H1 hl hn h1
   go_enter Tryz.func98, Tryz.ntmps98
   go_wp2_with fail
   go_ret
   exact ⟨rfl, Ch.refl _ _ _⟩
  ·have e2 := beq_no h2
   clear h1 h2 hl hn
   go_enter Tryz.func98, Tryz.ntmps98
   go_wp2_with fail
   refine (H1.out _).mono ?_
   rintro e w' ⟨rfl, hC⟩
   go_wp2_with fail
   go_ret
   exact ⟨rfl, hC⟩
def dsum (s : Bool) (m : Nat) (t : Bool) (n : Nat) : Bool × Nat := if s = t then (s, m + n) else if n ≤ m then (s, m - n) else (t, n - m)
theorem dsum_val (s : Bool) (m : Nat) (t : Bool) (n : Nat) : sv (dsum s m t n).1 (dsum s m t n).2 = sv s m + sv t n := by
 unfold dsum sv
 cases s <;> cases t <;> simp <;> first | omega | (split <;> simp <;> omega)
theorem dsum_le (s : Bool) (m : Nat) (t : Bool) (n : Nat) : (dsum s m t n).2 ≤ m + n := by
 unfold dsum
 split
 ·exact Nat.le_refl _
 ·split <;> simp <;> omega
set_option maxHeartbeats 1600000 in
theorem C_diff {s t r : Bool} {a b l : List UInt8} {n : Nat} (hl : nb n = l) (ha : a.length ≤ 10000) (hb : b.length ≤ 10000) (hd : dsum s (bv a) t (bv b) = (r, n)) : Ans 151 #[.bool s, S a, .bool t, S b] (.tuple #[.bool r, S l]) := fun w => by
 unfold dsum at hd
 by_cases hst : s = t
 ·subst hst
  rw [if_pos rfl] at hd
  simp only [Prod.mk.injEq] at hd
  obtain ⟨rfl, hn⟩ := hd
  have H1 := Lib.hid (C_add hl ha hb hn)
  clear hl hn
  have hss : (s == s) = true := by simp
  go_enter Tryz.func151, Tryz.ntmps151
  go_wp2_with fail
  refine (H1.out _).mono ?_
  rintro e w' ⟨rfl, hC⟩
  go_wp2_with fail
  go_ret2
  exact ⟨rfl, hC⟩
 ·rw [if_neg hst] at hd
  have hss : (s == t) = false := by simpa using hst
  by_cases hle : bv b ≤ bv a
  ·rw [if_pos hle] at hd
   simp only [Prod.mk.injEq] at hd
   obtain ⟨rfl, hn⟩ := hd
   have H1 := Lib.hid (C_sub hl ha hb (by omega))
   clear hl hn hle hst
   go_enter Tryz.func151, Tryz.ntmps151
   go_wp2_with fail
   refine (H1.out _).mono ?_
   rintro e w' ⟨rfl, hC⟩
   go_wp2_with fail
   go_ret2
   exact ⟨rfl, hC⟩
  ·rw [if_neg hle] at hd
   simp only [Prod.mk.injEq] at hd
   obtain ⟨rfl, hn⟩ := hd
   have H1 := Lib.hid (C_sub_no ha hb (show bv a < bv b by omega))
   have H2 := Lib.hid (C_sub hl hb ha (by omega))
   clear hl hn hle hst
   go_enter Tryz.func151, Tryz.ntmps151
   go_wp2_with fail
   refine (H1.out _).mono ?_
   rintro e w' ⟨rfl, hC⟩
   go_wp2_with fail
   refine (H2.out _).mono ?_
   rintro e w2 ⟨rfl, hC2⟩
   go_wp2_with fail
   go_ret2
   exact ⟨rfl, hC.step0 hC2 (Nat.le_refl _)⟩
set_option maxHeartbeats 1600000 in
theorem C_signed (s : Bool) (n d : List UInt8) : Ans 140 #[.bool s, S n, S d] (Rv (s && !n.isEmpty) n d) := fun w => by
 go_enter Tryz.func140, Tryz.ntmps140
 cases s
 ·go_wp2_with fail
  refine bodyPost_ret (results_cell_row (P := Tryz.prog) rfl _ _ w.heap.size 26 _ (0, 0) _ rfl (heap_alloc_new w _) Tryz.underlying26 rfl (by kernel_rfl)) rfl ?_
  exact ⟨rfl, (Ch.refl w.heap.size none1 w).alloc (Nat.le_refl _) _⟩
 ·cases n with
  | nil =>
   go_wp2_with fail
   refine bodyPost_ret (results_cell_row (P := Tryz.prog) rfl _ _ w.heap.size 26 _ (0, 0) _ rfl (heap_alloc_new w _) Tryz.underlying26 rfl (by kernel_rfl)) rfl ?_
   exact ⟨rfl, (Ch.refl w.heap.size none1 w).alloc (Nat.le_refl _) _⟩
  | cons b m =>
   go_wp2_with fail
   refine bodyPost_ret (results_cell_row (P := Tryz.prog) rfl _ _ w.heap.size 26 _ (0, 0) _ rfl (heap_alloc_new w _) Tryz.underlying26 rfl (by kernel_rfl)) rfl ?_
   exact ⟨rfl, (Ch.refl w.heap.size none1 w).alloc (Nat.le_refl _) _⟩
structure Tb (w : World) : Prop where
 pow : pow10Is w
 zero : Blk w 2 26 [.bool false, S [], S [1]]
 ml : ∃ m, w.cell? ⟨3, 0, none⟩ = some (.int .i64 m) ∧ 3 < w.heap.size
theorem Tb.ch {w w' : World} (h : Tb w) (hC : Ch w.heap.size none1 w w') : Tb w' := ⟨pow_ch h.pow hC, hC.blk h.zero h.zero.lt (fun q => q), by
 obtain ⟨m, h1, h2⟩ := h.ml
 exact ⟨m, (hC.cell h2 (fun q => q)).trans h1, Nat.lt_of_lt_of_le h2 hC.size⟩⟩
abbrev AnsT (f : Nat) (args : Array Value) (v : Value) : Prop := ∀ w : World, Tb w → Calls Tryz.prog f args w (Yld w v)
theorem Ans.t {f : Nat} {args : Array Value} {v : Value} (h : Ans f args v) : AnsT f args v := fun w _ => h w
structure Box (w W : World) (g : Nat) (rows : List (List Value)) : Prop where
 ch : Ch w.heap.size none1 w W
 ge : w.heap.size ≤ g
 row : ∀ i r, rows[i]? = some r → Blk W (g + i) 26 r
theorem Box.nil (w : World) : Box w w w.heap.size [] := ⟨Ch.refl _ _ _, Nat.le_refl _, fun i r h => by simp at h⟩
theorem Box.on {w W W' : World} {g : Nat} {rows : List (List Value)} (h : Box w W g rows) (hC : Ch W.heap.size none1 W W') : Box w W' g rows :=
 ⟨h.ch.step0 hC (Nat.le_refl _), h.ge, fun i r hr => hC.blk (h.row i r hr) (h.row i r hr).lt (fun q => q)⟩
theorem Box.drew {w W : World} {g : Nat} {rows : List (List Value)} (h : Box w W g rows) : Box w W.drew g rows := ⟨h.ch.drew, h.ge, fun i r hr => (h.row i r hr).drew⟩
theorem Box.alloc {w W : World} {g : Nat} {rows : List (List Value)} (h : Box w W g rows) (hs : W.heap.size = g + rows.length) (a : Array Value) : Box w (W.alloc (.cells a 26 (0, 0))) g (rows ++ [a.toList]) := by
 refine ⟨h.ch.alloc h.ch.size _, h.ge, fun i r hr => ?_⟩
 rcases Nat.lt_or_ge i rows.length with hi | hi
 ·rw [List.getElem?_append_left hi] at hr
  exact (h.row i r hr).alloc _
 ·rw [List.getElem?_append_right hi] at hr
  rcases Nat.eq_zero_or_pos (i - rows.length) with h0 | h0
  ·rw [h0] at hr
   simp at hr
   subst hr
   have hb := Blk.new W a 26
   rwa [hs, show rows.length = i by omega] at hb
  ·rw [List.getElem?_eq_none (by simp; omega)] at hr
   simp at hr
theorem Box.one (w : World) (a : Array Value) : Box w (w.alloc (.cells a 26 (0, 0))) w.heap.size [a.toList] := (Box.nil w).alloc rfl a
theorem Box.two (w : World) (a b : Array Value) : Box w ((w.alloc (.cells a 26 (0, 0))).alloc (.cells b 26 (0, 0))) w.heap.size [a.toList, b.toList] := (Box.one w a).alloc (by rw [World.size_alloc]; rfl) b
theorem Box.three (w : World) (a b c : Array Value) : Box w (((w.alloc (.cells a 26 (0, 0))).alloc (.cells b 26 (0, 0))).alloc (.cells c 26 (0, 0))) w.heap.size [a.toList, b.toList, c.toList] := (Box.two w a b).alloc (by rw [World.size_alloc, World.size_alloc]; rfl) c
theorem Box.cells1 {w W : World} {g : Nat} {a b c : Value} {rest : List (List Value)} (h : Box w W g ([a, b, c] :: rest)) : W.cell? ⟨g, 0, none⟩ = some a ∧ W.cell? ⟨g, 1, none⟩ = some b ∧ W.cell? ⟨g, 2, none⟩ = some c :=
 ⟨(h.row 0 _ rfl).cell 0, (h.row 0 _ rfl).cell 1, (h.row 0 _ rfl).cell 2⟩
theorem Box.cells2 {w W : World} {g : Nat} {a b c d e f : Value} {rest : List (List Value)} (h : Box w W g ([a, b, c] :: [d, e, f] :: rest)) : W.cell? ⟨g, 0, none⟩ = some a ∧ W.cell? ⟨g, 1, none⟩ = some b ∧ W.cell? ⟨g, 2, none⟩ = some c ∧ W.cell? ⟨g + 1, 0, none⟩ = some d ∧ W.cell? ⟨g + 1, 1, none⟩ = some e ∧ W.cell? ⟨g + 1, 2, none⟩ = some f :=
 ⟨(h.row 0 _ rfl).cell 0, (h.row 0 _ rfl).cell 1, (h.row 0 _ rfl).cell 2, (h.row 1 _ rfl).cell 0, (h.row 1 _ rfl).cell 1, (h.row 1 _ rfl).cell 2⟩
theorem Box.store {w W : World} {g : Nat} {rows : List (List Value)} (h : Box w W g rows) {i : Nat} {x y z : Value} (hr : rows[i]? = some [x, y, z]) :
  W.cell? ⟨g + i, 0, none⟩ = some x ∧ W.cell? ⟨g + i, 1, none⟩ = some y ∧ W.cell? ⟨g + i, 2, none⟩ = some z ∧ W.frozen? ⟨g + i, 0, none⟩ = false ∧ W.frozen? ⟨g + i, 1, none⟩ = false ∧ W.frozen? ⟨g + i, 2, none⟩ = false :=
 ⟨(h.row i _ hr).cell 0, (h.row i _ hr).cell 1, (h.row i _ hr).cell 2, (h.row i _ hr).frozen 0, (h.row i _ hr).frozen 1, (h.row i _ hr).frozen 2⟩
theorem Box.cells2p {w W : World} {g : Nat} {a b c d e f x y z : Value} {rest : List (List Value)} (h : Box w W g ([a, b, c] :: [d, e, f] :: [x, y, z] :: rest)) (u v t : Value) :
  (((W.setCell ⟨g + 1 + 1, 0, none⟩ u).setCell ⟨g + 1 + 1, 1, none⟩ v).setCell ⟨g + 1 + 1, 2, none⟩ t).cell? ⟨g, 0, none⟩ = some a ∧ (((W.setCell ⟨g + 1 + 1, 0, none⟩ u).setCell ⟨g + 1 + 1, 1, none⟩ v).setCell ⟨g + 1 + 1, 2, none⟩ t).cell? ⟨g, 1, none⟩ = some b ∧ (((W.setCell ⟨g + 1 + 1, 0, none⟩ u).setCell ⟨g + 1 + 1, 1, none⟩ v).setCell ⟨g + 1 + 1, 2, none⟩ t).cell? ⟨g, 2, none⟩ = some c ∧
  (((W.setCell ⟨g + 1 + 1, 0, none⟩ u).setCell ⟨g + 1 + 1, 1, none⟩ v).setCell ⟨g + 1 + 1, 2, none⟩ t).cell? ⟨g + 1, 0, none⟩ = some d ∧ (((W.setCell ⟨g + 1 + 1, 0, none⟩ u).setCell ⟨g + 1 + 1, 1, none⟩ v).setCell ⟨g + 1 + 1, 2, none⟩ t).cell? ⟨g + 1, 1, none⟩ = some e ∧ (((W.setCell ⟨g + 1 + 1, 0, none⟩ u).setCell ⟨g + 1 + 1, 1, none⟩ v).setCell ⟨g + 1 + 1, 2, none⟩ t).cell? ⟨g + 1, 2, none⟩ = some f := by
 have n1 : g ≠ g + 1 + 1 := by omega
 have n2 : g + 1 ≠ g + 1 + 1 := by omega
 have r1 := (((h.row 0 _ rfl).set_other n1 0 u).set_other n1 1 v).set_other n1 2 t
 have r2 := (((h.row 1 _ rfl).set_other n2 0 u).set_other n2 1 v).set_other n2 2 t
 exact ⟨r1.cell 0, r1.cell 1, r1.cell 2, r2.cell 0, r2.cell 1, r2.cell 2⟩
theorem Box.put {w W : World} {g : Nat} {rows : List (List Value)} (h : Box w W g rows) {i : Nat} {x y z : Value} (hr : rows[i]? = some [x, y, z]) (a b c : Value) :
  Blk (((W.setCell ⟨g + i, 0, none⟩ a).setCell ⟨g + i, 1, none⟩ b).setCell ⟨g + i, 2, none⟩ c) (g + i) 26 [a, b, c] ∧ Ch w.heap.size none1 w (((W.setCell ⟨g + i, 0, none⟩ a).setCell ⟨g + i, 1, none⟩ b).setCell ⟨g + i, 2, none⟩ c) := by
 have hge := h.ge
 exact ⟨(((h.row i _ hr).set 0 a).set 1 b).set 2 c, ((h.ch.setCell (p := ⟨g + i, 0, none⟩) (.inl (Nat.le_trans hge (Nat.le_add_right _ _))) a).setCell (p := ⟨g + i, 1, none⟩) (.inl (Nat.le_trans hge (Nat.le_add_right _ _))) b).setCell (p := ⟨g + i, 2, none⟩) (.inl (Nat.le_trans hge (Nat.le_add_right _ _))) c⟩
set_option maxHeartbeats 1600000 in
theorem C_Right {s : Bool} {n d : List UInt8} {r : Bool} (hn : n.length ≤ 1000) (hd : d.length ≤ 1000) (hr : rightR s n d = r) : AnsT 68 #[Rv s n d] (.bool r) := fun w ht => by
 obtain ⟨r1, hr1⟩ : ∃ r, rightB n = r := ⟨_, rfl⟩
 obtain ⟨r2, hr2⟩ : ∃ r, rightB d = r := ⟨_, rfl⟩
 have H1 := Lib.hid (C_right (a := n) (by omega) hr1)
 have H2 := Lib.hid (C_right (a := d) (by omega) hr2)
 obtain ⟨g, hg⟩ : ∃ g, nb (Nat.gcd (bv n) (bv d)) = g := ⟨_, rfl⟩
 have H3 := Lib.hid (C_common (a := n) (b := d) hg (by omega) (by omega) rfl)
 have HT := Lib.hid ht
 unfold rightR at hr
 rw [hr1, hr2] at hr
 clear hr1 hr2 ht
 have HB := Lib.hid (Box.one w #[.bool s, S n, S d])
 go_enter Tryz.func68, Tryz.ntmps68
 obtain ⟨B, hB⟩ : ∃ B, w.heap.size = B := ⟨_, rfl⟩
 rw [hB] at HB
 go_wp2_with fail
 refine (H1.out _).mono ?_
 rintro e w1 ⟨rfl, hC1⟩
 have HB1 := Lib.hid (HB.out.on hC1)
 clear hC1 HB
 obtain ⟨a0, a1, a2⟩ := HB1.out.cells1
 have hz0 : ∀ W, Box w W B [[.bool s, S n, S d]] → W.cell? ⟨2, 0, none⟩ = some (.bool false) ∧ W.cell? ⟨2, 1, none⟩ = some (S []) ∧ W.cell? ⟨2, 2, none⟩ = some (S [1]) := fun W h =>
  ⟨((HT.out.ch h.ch).zero).cell 0, ((HT.out.ch h.ch).zero).cell 1, ((HT.out.ch h.ch).zero).cell 2⟩
 have HZ := Lib.hid hz0
 clear hz0
 cases r1 with
 | false =>
  obtain rfl : false = r := by simpa using hr
  clear hr
  go_wp2_with fail
  go_ret
  exact ⟨rfl, HB1.out.ch⟩
 | true =>
  go_wp2_with fail
  refine (H2.out _).mono ?_
  rintro e w2 ⟨rfl, hC2⟩
  have HB2 := Lib.hid (HB1.out.on hC2)
  clear hC2 HB1 a0 a1 a2
  obtain ⟨a0, a1, a2⟩ := HB2.out.cells1
  obtain ⟨z0, z1, z2⟩ := HZ.out _ HB2.out
  cases r2 with
  | false =>
   obtain rfl : false = r := by simpa using hr
   clear hr
   go_wp2_with fail
   go_ret
   exact ⟨rfl, HB2.out.ch⟩
  | true =>
   simp only [Bool.true_and] at hr
   by_cases hd0 : d = []
   ·subst hd0
    obtain rfl : false = r := by simpa using hr
    clear hr
    go_wp2_with fail
    go_ret
    exact ⟨rfl, HB2.out.ch⟩
   ·have e1 := beq_no hd0
    have e2 : d.isEmpty = false := by cases d with
     | nil => exact absurd rfl hd0
     | cons _ _ => rfl
    rw [e2] at hr
    by_cases hn0 : n = []
    ·subst hn0
     rw [if_pos rfl] at hr
     clear hd0
     by_cases hd1 : d = [1]
     ·subst hd1
      cases s with
      | false =>
       obtain rfl : true = r := by simpa using hr
       clear hr
       go_wp2_with fail
       go_ret
       exact ⟨rfl, HB2.out.ch⟩
      | true =>
       obtain rfl : false = r := by simpa using hr
       clear hr
       go_wp2_with fail
       go_ret
       exact ⟨rfl, HB2.out.ch⟩
     ·have e5 := beq_no hd1
      obtain rfl : false = r := by rw [e5] at hr; simpa using hr
      clear hr hd1
      go_wp2_with fail
      go_ret
      exact ⟨rfl, HB2.out.ch⟩
    ·have e3 := beq_no hn0
     have e4 : n.isEmpty = false := by cases n with
      | nil => exact absurd rfl hn0
      | cons _ _ => rfl
     rw [if_neg hn0] at hr
     clear hd0 hn0
     go_wp2_with fail
     refine (H3.out _).mono ?_
     rintro e w3 ⟨rfl, hC3⟩
     have HB3 := Lib.hid (HB2.out.on hC3)
     clear hC3 HB2 a0 a1 a2 z0 z1 z2
     have hgg : (g == [1]) = r := by
      rw [← hr, ← hg]
      generalize Nat.gcd (bv n) (bv d) = m
      by_cases hm : m = 1
      ·subst hm; rw [nb_one]; rfl
      ·have h1 : (nb m == [1]) = false := beq_no fun e => hm (by have := bv_nb m; rw [e] at this; exact this.symm)
       have h2 : (m == 1) = false := by simpa using hm
       rw [h1, h2]
       rfl
     go_wp2_with fail
     go_ret
     exact ⟨rfl, HB3.out.ch⟩
end Go.Proofs.YtkeomlpecjjhiaaGreatDoor
