/- Slices of api.Rat in memory. -/
import Derived.Test.YtkeomlpecjjhiaaGreatDoorQl
import Derived.Laws.MakeOwn
import Derived.Laws.AppendOwn
namespace Go.Proofs.YtkeomlpecjjhiaaGreatDoor
open Go.RowKit
abbrev T3 := Bool × List UInt8 × List UInt8
def rc (t : T3) : List Value := [.bool t.1, S t.2.1, S t.2.2]
def rcs (l : List T3) : List Value := l.flatMap rc
abbrev Tv (t : T3) : Value := Rv t.1 t.2.1 t.2.2
theorem rcs_cons (t : T3) (l : List T3) : rcs (t :: l) = rc t ++ rcs l := rfl
theorem rcs_append (l m : List T3) : rcs (l ++ m) = rcs l ++ rcs m := by unfold rcs; exact List.flatMap_append
theorem rcs_len (l : List T3) : (rcs l).length = l.length * 3 := by
 induction l with
 | nil => rfl
 | cons t l ih => rw [rcs_cons, List.length_append, ih, List.length_cons]; simp only [rc, List.length_cons, List.length_nil]; omega
theorem rcs_get (l : List T3) : ∀ (i : Nat) (t : T3), l[i]? = some t → (rcs l)[i * 3]? = some (.bool t.1) ∧ (rcs l)[i * 3 + 1]? = some (S t.2.1) ∧ (rcs l)[i * 3 + 2]? = some (S t.2.2) := by
 induction l with
 | nil => intro i t h; simp at h
 | cons x l ih =>
  intro i t h
  rw [rcs_cons]
  cases i with
  | zero =>
   simp at h
   subst h
   exact ⟨rfl, rfl, rfl⟩
  | succ i =>
   rw [List.getElem?_cons_succ] at h
   obtain ⟨h1, h2, h3⟩ := ih i t h
   have hl : (rc x).length = 3 := rfl
   refine ⟨?_, ?_, ?_⟩
   ·rw [List.getElem?_append_right (by omega), hl, show (i + 1) * 3 - 3 = i * 3 by omega]; exact h1
   ·rw [List.getElem?_append_right (by omega), hl, show (i + 1) * 3 + 1 - 3 = i * 3 + 1 by omega]; exact h2
   ·rw [List.getElem?_append_right (by omega), hl, show (i + 1) * 3 + 2 - 3 = i * 3 + 2 by omega]; exact h3
theorem rcs_one (l : List T3) : ∀ u ∈ rcs l, u.oneCell' = true := by
 intro u hu
 unfold rcs at hu
 rw [List.mem_flatMap] at hu
 obtain ⟨t, -, h⟩ := hu
 simp only [rc, List.mem_cons, List.not_mem_nil, or_false] at h
 rcases h with rfl | rfl | rfl <;> rfl
structure Rs (w : World) (p : Option Addr) (n : Nat) (l : List T3) : Prop where
 len : l.length = n
 nil : p = none → n = 0
 at' : ∀ a, p = some a → a.spot = none ∧ ∃ t pre post, Blk w a.block t (pre ++ rcs l ++ post) ∧ pre.length = a.off
theorem Rs.none (w : World) : Rs w none 0 [] := ⟨rfl, fun _ => rfl, fun a h => by simp at h⟩
theorem Rs.blk {w : World} {g : Nat} {t : TypeId} {l : List T3} {n : Nat} (h : Blk w g t (rcs l)) (hn : l.length = n) : Rs w (some ⟨g, 0, Option.none⟩) n l :=
 ⟨hn, fun e => by simp at e, fun a ha => by
  obtain rfl := Option.some.inj ha
  exact ⟨rfl, t, [], [], by simpa using h, rfl⟩⟩
theorem Rs.addr {w : World} {p : Option Addr} {n : Nat} {l : List T3} (h : Rs w p n l) (hn : 0 < n) : ∃ g o, p = some ⟨g, o, Option.none⟩ := by
 cases p with
 | none => have := h.nil rfl; omega
 | some a =>
  obtain ⟨h1, _⟩ := h.at' a rfl
  obtain ⟨g, o, s⟩ := a
  simp only at h1
  subst h1
  exact ⟨g, o, rfl⟩
theorem Rs.get {w : World} {g o n : Nat} {l : List T3} (h : Rs w (some ⟨g, o, Option.none⟩) n l) {i : Nat} {t : T3} (hi : l[i]? = some t) :
  w.cell? ⟨g, o + i * 3, Option.none⟩ = some (.bool t.1) ∧ w.cell? ⟨g, o + i * 3 + 1, Option.none⟩ = some (S t.2.1) ∧ w.cell? ⟨g, o + i * 3 + 2, Option.none⟩ = some (S t.2.2) := by
 obtain ⟨_, ty, pre, post, hb, hl⟩ := h.at' _ rfl
 simp only at hl
 obtain ⟨h1, h2, h3⟩ := rcs_get l i t hi
 have hlt : i * 3 + 2 < (rcs l).length := (List.getElem?_eq_some_iff.1 h3).1
 refine ⟨?_, ?_, ?_⟩
 ·rw [hb.cell, List.append_assoc, List.getElem?_append_right (by omega), List.getElem?_append_left (by omega), show o + i * 3 - pre.length = i * 3 by omega]; exact h1
 ·rw [hb.cell, List.append_assoc, List.getElem?_append_right (by omega), List.getElem?_append_left (by omega), show o + i * 3 + 1 - pre.length = i * 3 + 1 by omega]; exact h2
 ·rw [hb.cell, List.append_assoc, List.getElem?_append_right (by omega), List.getElem?_append_left (by omega), show o + i * 3 + 2 - pre.length = i * 3 + 2 by omega]; exact h3
theorem Rs.lt {w : World} {p : Option Addr} {n : Nat} {l : List T3} (h : Rs w p n l) : ∀ a, p = some a → a.block < w.heap.size := fun a ha => by
 obtain ⟨_, t, pre, post, hb, _⟩ := h.at' a ha
 exact hb.lt
theorem Rs.chR {w w' : World} {R : Nat → Prop} {p : Option Addr} {n : Nat} {l : List T3} (h : Rs w p n l) (hC : Ch w.heap.size R w w') (hp : ∀ a, p = some a → ¬ R a.block) : Rs w' p n l :=
 ⟨h.len, h.nil, fun a ha => by
  obtain ⟨h1, t, pre, post, hb, hl⟩ := h.at' a ha
  exact ⟨h1, t, pre, post, hC.blk hb hb.lt (hp a ha), hl⟩⟩
theorem Rs.ch {w w' : World} {p : Option Addr} {n : Nat} {l : List T3} (h : Rs w p n l) (hC : Ch w.heap.size none1 w w') : Rs w' p n l := h.chR hC (fun _ _ q => q)
theorem Rs.take {w : World} {p : Option Addr} {n : Nat} {l : List T3} (h : Rs w p n l) (k : Nat) (hk : k ≤ n) : Rs w p k (l.take k) :=
 ⟨by rw [List.length_take, h.len]; omega, fun e => by have := h.nil e; omega, fun a ha => by
  obtain ⟨h1, t, pre, post, hb, hl⟩ := h.at' a ha
  refine ⟨h1, t, pre, rcs (l.drop k) ++ post, ?_, hl⟩
  have e : rcs l = rcs (l.take k) ++ rcs (l.drop k) := by rw [← rcs_append, List.take_append_drop]
  rw [e] at hb
  simpa [List.append_assoc] using hb⟩
theorem Rs.drop {w : World} {g o n : Nat} {l : List T3} (h : Rs w (some ⟨g, o, Option.none⟩) n l) (k : Nat) (hk : k ≤ n) : Rs w (some ⟨g, o + k * 3, Option.none⟩) (n - k) (l.drop k) :=
 ⟨by rw [List.length_drop, h.len], fun e => by simp at e, fun a ha => by
  obtain rfl := Option.some.inj ha
  obtain ⟨h1, t, pre, post, hb, hl⟩ := h.at' _ rfl
  simp only at hl hb
  refine ⟨rfl, t, pre ++ rcs (l.take k), post, ?_, ?_⟩
  ·have e : rcs l = rcs (l.take k) ++ rcs (l.drop k) := by rw [← rcs_append, List.take_append_drop]
   rw [e] at hb
   simpa [List.append_assoc] using hb
  ·rw [List.length_append, rcs_len, List.length_take, h.len, Nat.min_eq_left hk, hl]⟩
def pt (q : Rat) : T3 := (decide (q.num < 0), nb q.num.natAbs, nb q.den)
theorem pt_is (q : Rat) : Is q (pt q).1 (pt q).2.1 (pt q).2.2 := ⟨rfl, rfl, rfl⟩
theorem pt_of {q : Rat} {t : T3} (h : Is q t.1 t.2.1 t.2.2) : pt q = t := by
 obtain ⟨s, n, d⟩ := t
 unfold pt
 rw [h.sgn, h.num, h.den]
def rof (t : T3) : Rat := ratOf t.1 t.2.1 t.2.2
theorem put_row (cs : List Value) (k n : Nat) (l : List T3) (t : T3) (hc : cs.length = n * 3) (hk : k < n) (hl : l.length = k) (ht : cs.take (k * 3) = rcs l) :
  (((cs.set (k * 3) (.bool t.1)).set (k * 3 + 1) (S t.2.1)).set (k * 3 + 2) (S t.2.2)).take ((k + 1) * 3) = rcs (l ++ [t]) := by
 rw [rcs_append, ← ht]
 apply List.ext_getElem?
 intro i
 have hlen : (cs.take (k * 3)).length = k * 3 := by rw [List.length_take, hc]; omega
 rcases Nat.lt_or_ge i (k * 3) with h | h
 ·rw [List.getElem?_take_of_lt (by omega), List.getElem?_append_left (by omega), List.getElem?_take_of_lt h,
   List.getElem?_set_ne (by omega), List.getElem?_set_ne (by omega), List.getElem?_set_ne (by omega)]
 ·rw [List.getElem?_append_right (by omega), hlen]
  rcases Nat.lt_or_ge i ((k + 1) * 3) with h' | h'
  ·rw [List.getElem?_take_of_lt h']
   have : i = k * 3 ∨ i = k * 3 + 1 ∨ i = k * 3 + 2 := by omega
   rcases this with rfl | rfl | rfl
   ·rw [List.getElem?_set_ne (by omega), List.getElem?_set_ne (by omega), List.getElem?_set_self (by omega), Nat.sub_self]; rfl
   ·rw [List.getElem?_set_ne (by omega), List.getElem?_set_self (by rw [List.length_set]; omega), show k * 3 + 1 - k * 3 = 1 by omega]; rfl
   ·rw [List.getElem?_set_self (by rw [List.length_set, List.length_set]; omega), show k * 3 + 2 - k * 3 = 2 by omega]; rfl
  ·rw [List.getElem?_eq_none (by rw [List.length_take]; omega), List.getElem?_eq_none (by rw [rcs_len]; simp; omega)]
end Go.Proofs.YtkeomlpecjjhiaaGreatDoor
