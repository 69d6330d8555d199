/- The tables that package ratio reads; Right, counted, sign, opposite. -/
import Derived.Test.YtnblmmhpndnjcaaGreatDoorQb
import Derived.Deep.RegionHeld3
namespace Go.Proofs.YtnblmmhpndnjcaaGreatDoor
open Go.RowKit
/-- What the listed variables hold: the table of powers of ten, and the number 0. -/
structure Tb (w : World) : Prop where
  pow : pow10Is w
  zero : Blk w 2 26 [.bool false, S [], S [1]]
  ml : ∃ m, w.cell? ⟨3, 0, none⟩ = some (.int .i64 m) ∧ 3 < w.heap.size
theorem Tb.ch {w w' : World} (h : Tb w) (hC : Ch w.heap.size none1 w w') : Tb w' := ⟨pow_ch h.pow hC, hC.blk h.zero h.zero.lt (fun q => q), by
  obtain ⟨m, h1, h2⟩ := h.ml
  exact ⟨m, (hC.cell h2 (fun q => q)).trans h1, Nat.lt_of_lt_of_le h2 hC.size⟩⟩
/-- f answers v in each world that holds the tables. -/
abbrev AnsT (f : Nat) (args : Array Value) (v : Value) : Prop := ∀ w : World, Tb w → Calls Tryz.prog f args w (Yld w v)
theorem Ans.t {f : Nat} {args : Array Value} {v : Value} (h : Ans f args v) : AnsT f args v := fun w _ => h w
/-- Blocks of one's own, one behind another, each an api.Rat. -/
structure Box (w W : World) (g : Nat) (rows : List (List Value)) : Prop where
  ch : Ch w.heap.size none1 w W
  ge : w.heap.size ≤ g
  row : ∀ i r, rows[i]? = some r → Blk W (g + i) 26 r
theorem Box.nil (w : World) : Box w w w.heap.size [] := ⟨Ch.refl _ _ _, Nat.le_refl _, fun i r h => by simp at h⟩
theorem Box.on {w W W' : World} {g : Nat} {rows : List (List Value)} (h : Box w W g rows) (hC : Ch W.heap.size none1 W W') : Box w W' g rows :=
  ⟨h.ch.step0 hC (Nat.le_refl _), h.ge, fun i r hr => hC.blk (h.row i r hr) (h.row i r hr).lt (fun q => q)⟩
theorem Box.drew {w W : World} {g : Nat} {rows : List (List Value)} (h : Box w W g rows) : Box w W.drew g rows := ⟨h.ch.drew, h.ge, fun i r hr => (h.row i r hr).drew⟩
theorem Box.alloc {w W : World} {g : Nat} {rows : List (List Value)} (h : Box w W g rows) (hs : W.heap.size = g + rows.length) (a : Array Value) : Box w (W.alloc (.cells a 26 (0, 0))) g (rows ++ [a.toList]) := by
  refine ⟨h.ch.alloc h.ch.size _, h.ge, fun i r hr => ?_⟩
  rcases Nat.lt_or_ge i rows.length with hi | hi
  · rw [List.getElem?_append_left hi] at hr
    exact (h.row i r hr).alloc _
  · rw [List.getElem?_append_right hi] at hr
    rcases Nat.eq_zero_or_pos (i - rows.length) with h0 | h0
    · rw [h0] at hr
      simp at hr
      subst hr
      have hb := Blk.new W a 26
      rwa [hs, show rows.length = i by omega] at hb
    · rw [List.getElem?_eq_none (by simp; omega)] at hr
      simp at hr
theorem Box.one (w : World) (a : Array Value) : Box w (w.alloc (.cells a 26 (0, 0))) w.heap.size [a.toList] := (Box.nil w).alloc rfl a
theorem Box.two (w : World) (a b : Array Value) : Box w ((w.alloc (.cells a 26 (0, 0))).alloc (.cells b 26 (0, 0))) w.heap.size [a.toList, b.toList] := (Box.one w a).alloc (by rw [World.size_alloc]; rfl) b
theorem Box.three (w : World) (a b c : Array Value) : Box w (((w.alloc (.cells a 26 (0, 0))).alloc (.cells b 26 (0, 0))).alloc (.cells c 26 (0, 0))) w.heap.size [a.toList, b.toList, c.toList] := (Box.two w a b).alloc (by rw [World.size_alloc, World.size_alloc]; rfl) c
theorem Box.cells1 {w W : World} {g : Nat} {a b c : Value} {rest : List (List Value)} (h : Box w W g ([a, b, c] :: rest)) : W.cell? ⟨g, 0, none⟩ = some a ∧ W.cell? ⟨g, 1, none⟩ = some b ∧ W.cell? ⟨g, 2, none⟩ = some c :=
  ⟨(h.row 0 _ rfl).cell 0, (h.row 0 _ rfl).cell 1, (h.row 0 _ rfl).cell 2⟩
theorem Box.cells2 {w W : World} {g : Nat} {a b c d e f : Value} {rest : List (List Value)} (h : Box w W g ([a, b, c] :: [d, e, f] :: rest)) : W.cell? ⟨g, 0, none⟩ = some a ∧ W.cell? ⟨g, 1, none⟩ = some b ∧ W.cell? ⟨g, 2, none⟩ = some c ∧ W.cell? ⟨g + 1, 0, none⟩ = some d ∧ W.cell? ⟨g + 1, 1, none⟩ = some e ∧ W.cell? ⟨g + 1, 2, none⟩ = some f :=
  ⟨(h.row 0 _ rfl).cell 0, (h.row 0 _ rfl).cell 1, (h.row 0 _ rfl).cell 2, (h.row 1 _ rfl).cell 0, (h.row 1 _ rfl).cell 1, (h.row 1 _ rfl).cell 2⟩
theorem Box.store {w W : World} {g : Nat} {rows : List (List Value)} (h : Box w W g rows) {i : Nat} {x y z : Value} (hr : rows[i]? = some [x, y, z]) :
    W.cell? ⟨g + i, 0, none⟩ = some x ∧ W.cell? ⟨g + i, 1, none⟩ = some y ∧ W.cell? ⟨g + i, 2, none⟩ = some z ∧ W.frozen? ⟨g + i, 0, none⟩ = false ∧ W.frozen? ⟨g + i, 1, none⟩ = false ∧ W.frozen? ⟨g + i, 2, none⟩ = false :=
  ⟨(h.row i _ hr).cell 0, (h.row i _ hr).cell 1, (h.row i _ hr).cell 2, (h.row i _ hr).frozen 0, (h.row i _ hr).frozen 1, (h.row i _ hr).frozen 2⟩
theorem Box.cells2p {w W : World} {g : Nat} {a b c d e f x y z : Value} {rest : List (List Value)} (h : Box w W g ([a, b, c] :: [d, e, f] :: [x, y, z] :: rest)) (u v t : Value) :
    (((W.setCell ⟨g + 1 + 1, 0, none⟩ u).setCell ⟨g + 1 + 1, 1, none⟩ v).setCell ⟨g + 1 + 1, 2, none⟩ t).cell? ⟨g, 0, none⟩ = some a ∧ (((W.setCell ⟨g + 1 + 1, 0, none⟩ u).setCell ⟨g + 1 + 1, 1, none⟩ v).setCell ⟨g + 1 + 1, 2, none⟩ t).cell? ⟨g, 1, none⟩ = some b ∧ (((W.setCell ⟨g + 1 + 1, 0, none⟩ u).setCell ⟨g + 1 + 1, 1, none⟩ v).setCell ⟨g + 1 + 1, 2, none⟩ t).cell? ⟨g, 2, none⟩ = some c ∧
    (((W.setCell ⟨g + 1 + 1, 0, none⟩ u).setCell ⟨g + 1 + 1, 1, none⟩ v).setCell ⟨g + 1 + 1, 2, none⟩ t).cell? ⟨g + 1, 0, none⟩ = some d ∧ (((W.setCell ⟨g + 1 + 1, 0, none⟩ u).setCell ⟨g + 1 + 1, 1, none⟩ v).setCell ⟨g + 1 + 1, 2, none⟩ t).cell? ⟨g + 1, 1, none⟩ = some e ∧ (((W.setCell ⟨g + 1 + 1, 0, none⟩ u).setCell ⟨g + 1 + 1, 1, none⟩ v).setCell ⟨g + 1 + 1, 2, none⟩ t).cell? ⟨g + 1, 2, none⟩ = some f := by
  have n1 : g ≠ g + 1 + 1 := by omega
  have n2 : g + 1 ≠ g + 1 + 1 := by omega
  have r1 := (((h.row 0 _ rfl).set_other n1 0 u).set_other n1 1 v).set_other n1 2 t
  have r2 := (((h.row 1 _ rfl).set_other n2 0 u).set_other n2 1 v).set_other n2 2 t
  exact ⟨r1.cell 0, r1.cell 1, r1.cell 2, r2.cell 0, r2.cell 1, r2.cell 2⟩
theorem Box.cells1p {w W : World} {g : Nat} {a b c x y z : Value} {rest : List (List Value)} (h : Box w W g ([a, b, c] :: [x, y, z] :: rest)) (u v t : Value) :
    (((W.setCell ⟨g + 1, 0, none⟩ u).setCell ⟨g + 1, 1, none⟩ v).setCell ⟨g + 1, 2, none⟩ t).cell? ⟨g, 0, none⟩ = some a ∧ (((W.setCell ⟨g + 1, 0, none⟩ u).setCell ⟨g + 1, 1, none⟩ v).setCell ⟨g + 1, 2, none⟩ t).cell? ⟨g, 1, none⟩ = some b ∧ (((W.setCell ⟨g + 1, 0, none⟩ u).setCell ⟨g + 1, 1, none⟩ v).setCell ⟨g + 1, 2, none⟩ t).cell? ⟨g, 2, none⟩ = some c := by
  have n1 : g ≠ g + 1 := by omega
  have r1 := (((h.row 0 _ rfl).set_other n1 0 u).set_other n1 1 v).set_other n1 2 t
  exact ⟨r1.cell 0, r1.cell 1, r1.cell 2⟩
theorem Box.put {w W : World} {g : Nat} {rows : List (List Value)} (h : Box w W g rows) {i : Nat} {x y z : Value} (hr : rows[i]? = some [x, y, z]) (a b c : Value) :
    Blk (((W.setCell ⟨g + i, 0, none⟩ a).setCell ⟨g + i, 1, none⟩ b).setCell ⟨g + i, 2, none⟩ c) (g + i) 26 [a, b, c] ∧ Ch w.heap.size none1 w (((W.setCell ⟨g + i, 0, none⟩ a).setCell ⟨g + i, 1, none⟩ b).setCell ⟨g + i, 2, none⟩ c) := by
  have hge := h.ge
  exact ⟨(((h.row i _ hr).set 0 a).set 1 b).set 2 c, ((h.ch.setCell (p := ⟨g + i, 0, none⟩) (.inl (Nat.le_trans hge (Nat.le_add_right _ _))) a).setCell (p := ⟨g + i, 1, none⟩) (.inl (Nat.le_trans hge (Nat.le_add_right _ _))) b).setCell (p := ⟨g + i, 2, none⟩) (.inl (Nat.le_trans hge (Nat.le_add_right _ _))) c⟩
set_option maxRecDepth 100000 in
set_option maxHeartbeats 1600000 in
theorem C_Right {s : Bool} {n d : List UInt8} {r : Bool} (hn : n.length ≤ 1000) (hd : d.length ≤ 1000) (hr : rightR s n d = r) : AnsT 68 #[Rv s n d] (.bool r) := fun w ht => by
  obtain ⟨r1, hr1⟩ : ∃ r, rightB n = r := ⟨_, rfl⟩
  obtain ⟨r2, hr2⟩ : ∃ r, rightB d = r := ⟨_, rfl⟩
  have H1 := Lib.hid (C_right (a := n) (by omega) hr1)
  have H2 := Lib.hid (C_right (a := d) (by omega) hr2)
  obtain ⟨g, hg⟩ : ∃ g, nb (Nat.gcd (bv n) (bv d)) = g := ⟨_, rfl⟩
  have H3 := Lib.hid (C_common (a := n) (b := d) hg (by omega) (by omega) rfl)
  have HT := Lib.hid ht
  unfold rightR at hr
  rw [hr1, hr2] at hr
  clear hr1 hr2 ht
  have HB := Lib.hid (Box.one w #[.bool s, S n, S d])
  go_enter Tryz.func68, Tryz.ntmps68
  obtain ⟨B, hB⟩ : ∃ B, w.heap.size = B := ⟨_, rfl⟩
  rw [hB] at HB
  go_wp2_with fail
  refine (H1.out _).mono ?_
  rintro e w1 ⟨rfl, hC1⟩
  have HB1 := Lib.hid (HB.out.on hC1)
  clear hC1 HB
  obtain ⟨a0, a1, a2⟩ := HB1.out.cells1
  have hz0 : ∀ W, Box w W B [[.bool s, S n, S d]] → W.cell? ⟨2, 0, none⟩ = some (.bool false) ∧ W.cell? ⟨2, 1, none⟩ = some (S []) ∧ W.cell? ⟨2, 2, none⟩ = some (S [1]) := fun W h =>
    ⟨((HT.out.ch h.ch).zero).cell 0, ((HT.out.ch h.ch).zero).cell 1, ((HT.out.ch h.ch).zero).cell 2⟩
  have HZ := Lib.hid hz0
  clear hz0
  cases r1 with
  | false =>
    obtain rfl : false = r := by simpa using hr
    clear hr
    go_wp2_with fail
    go_ret
    exact ⟨rfl, HB1.out.ch⟩
  | true =>
    go_wp2_with fail
    refine (H2.out _).mono ?_
    rintro e w2 ⟨rfl, hC2⟩
    have HB2 := Lib.hid (HB1.out.on hC2)
    clear hC2 HB1 a0 a1 a2
    obtain ⟨a0, a1, a2⟩ := HB2.out.cells1
    obtain ⟨z0, z1, z2⟩ := HZ.out _ HB2.out
    cases r2 with
    | false =>
      obtain rfl : false = r := by simpa using hr
      clear hr
      go_wp2_with fail
      go_ret
      exact ⟨rfl, HB2.out.ch⟩
    | true =>
      simp only [Bool.true_and] at hr
      by_cases hd0 : d = []
      · subst hd0
        obtain rfl : false = r := by simpa using hr
        clear hr
        go_wp2_with fail
        go_ret
        exact ⟨rfl, HB2.out.ch⟩
      · have e1 := beq_no hd0
        have e2 : d.isEmpty = false := by cases d with
          | nil => exact absurd rfl hd0
          | cons _ _ => rfl
        rw [e2] at hr
        by_cases hn0 : n = []
        · subst hn0
          rw [if_pos rfl] at hr
          clear hd0
          by_cases hd1 : d = [1]
          · subst hd1
            cases s with
            | false =>
              obtain rfl : true = r := by simpa using hr
              clear hr
              go_wp2_with fail
              go_ret
              exact ⟨rfl, HB2.out.ch⟩
            | true =>
              obtain rfl : false = r := by simpa using hr
              clear hr
              go_wp2_with fail
              go_ret
              exact ⟨rfl, HB2.out.ch⟩
          · have e5 := beq_no hd1
            obtain rfl : false = r := by rw [e5] at hr; simpa using hr
            clear hr hd1
            go_wp2_with fail
            go_ret
            exact ⟨rfl, HB2.out.ch⟩
        · have e3 := beq_no hn0
          have e4 : n.isEmpty = false := by cases n with
            | nil => exact absurd rfl hn0
            | cons _ _ => rfl
          rw [if_neg hn0] at hr
          clear hd0 hn0
          go_wp2_with fail
          refine (H3.out _).mono ?_
          rintro e w3 ⟨rfl, hC3⟩
          have HB3 := Lib.hid (HB2.out.on hC3)
          clear hC3 HB2 a0 a1 a2 z0 z1 z2
          have hgg : (g == [1]) = r := by
            rw [← hr, ← hg]
            generalize Nat.gcd (bv n) (bv d) = m
            by_cases hm : m = 1
            · subst hm; rw [nb_one]; rfl
            · have h1 : (nb m == [1]) = false := beq_no fun e => hm (by have := bv_nb m; rw [e] at this; exact this.symm)
              have h2 : (m == 1) = false := by simpa using hm
              rw [h1, h2]
              rfl
          go_wp2_with fail
          go_ret
          exact ⟨rfl, HB3.out.ch⟩
end Go.Proofs.YtnblmmhpndnjcaaGreatDoor
