/- Package money: mathematics: floors; the listed variables. -/
import Derived.Test.YtkeomlpecjjhiaaGreatDoorQq
import Derived.Deep.RegionHeld3
namespace Go.Proofs.YtkeomlpecjjhiaaGreatDoor
open Go.RowKit
theorem floor_sv (s : Bool) (n d : Nat) (hd : 0 < d) : sv s n / (d : Int) = sv s (if s = true ∧ n % d ≠ 0 then n / d + 1 else n / d) := by
 have hz : (0 : Int) < (d : Int) := by omega
 have hlt : n % d < d := Nat.mod_lt _ hd
 have hdm := Nat.div_add_mod n d
 obtain ⟨k, hk⟩ : ∃ k, n / d = k := ⟨_, rfl⟩
 obtain ⟨r, hr⟩ : ∃ r, n % d = r := ⟨_, rfl⟩
 rw [hk, hr] at hdm
 rw [hr] at hlt
 rw [hk, hr]
 have hdm2 : (n : Int) = d * k + r := by rw [← hdm]; simp
 cases s
 ·simp only [sv, Bool.false_eq_true, false_and, if_false]
  exact ((Int.ediv_emod_unique (r := (r : Int)) hz).2 ⟨by rw [hdm2]; omega, by omega, by omega⟩).1
 ·by_cases h0 : r = 0
  ·subst h0
   simp only [sv, if_true, ne_eq, not_true_eq_false, and_false, if_false]
   exact ((Int.ediv_emod_unique (r := (0 : Int)) hz).2 ⟨by rw [hdm2, Int.mul_neg]; omega, by omega, by omega⟩).1
  ·simp only [sv, if_true, ne_eq, h0, not_false_eq_true, and_self]
   exact ((Int.ediv_emod_unique (r := ((d : Int) - r)) hz).2 ⟨by rw [hdm2, Int.mul_neg]; simp [Int.mul_add]; omega, by omega, by omega⟩).1
theorem floor_is {q : Rat} {s : Bool} {n d : List UInt8} (h : Is q s n d) : q.floor = sv s (if s = true ∧ bv n % bv d ≠ 0 then bv n / bv d + 1 else bv n / bv d) := by
 rw [Rat.floor_def, ← h.val, ← h.vd]
 exact floor_sv s _ _ h.pos
theorem mq_one (s : Bool) (n : Nat) : mq s n 1 = ((sv s n : Int) : Rat) := by
 unfold mq
 first | exact Rat.mkRat_one _ | (apply Rat.ext <;> simp [mkRat]) | simp
structure Tm (w : World) : Prop where
 tb : Tb w
 cent : Blk w 0 26 [.bool false, S [1], S [100]]
 half : Blk w 1 26 [.bool false, S [1], S [2]]
theorem Tm.ch {w w' : World} (h : Tm w) (hC : Ch w.heap.size none1 w w') : Tm w' := ⟨h.tb.ch hC, hC.blk h.cent h.cent.lt (fun q => q), hC.blk h.half h.half.lt (fun q => q)⟩
abbrev AnsM (f : Nat) (args : Array Value) (v : Value) : Prop := ∀ w : World, Tm w → Calls Tryz.prog f args w (Yld w v)
theorem AnsT.m {f : Nat} {args : Array Value} {v : Value} (h : AnsT f args v) : AnsM f args v := fun w ht => h w ht.tb
theorem cent_is : Is (1 / 100 : Rat) false [1] [100] := ⟨by decide +kernel, by decide +kernel, by decide +kernel⟩
theorem half_is : Is (1 / 2 : Rat) false [1] [2] := ⟨by decide +kernel, by decide +kernel, by decide +kernel⟩
def fitsB (s : Bool) (n d : List UInt8) : Bool := decide (nbits (bv n) ≤ 400) && (decide (nbits (bv d) ≤ 400) && rightR s n d)
theorem at_list {α : Type} {l : List α} {i : Nat} {x : α} (h : l[i]? = some x) : l.toArray[i]? = some x := by
 rw [List.getElem?_toArray]; exact h
section
variable {P : Program} {ops : Array Oper} {Q : Exit → Act → World → Prop} {md : Region.Mode} {S : World → Prop}
theorem tk (i : Nat) {oi : Oper} {v : Value} {fuel : Nat} {listed : Array Bool} {a : Act} {w : World} (hS : S w)
  (hy : ∀ w, S w → (execOp a.eval oi).run P w = .ok (.value v) w)
  (h : wpAnyH P md ops Q S fuel (listed.setIfInBounds i true) (a.put oi.dst v) w)
  (hi : ops[i]? = some oi := by exact at_list rfl) (hs : (Region.noSelect ops && Region.free md ops listed i && (Region.ready md ops listed).contains i) = true := by kernel_rfl)
  (hQ : ∀ c a w, Q (.panic c) (a.put oi.dst v) w → Q (.panic c) a w := by exact fun _ _ _ h => h) (hw : Region.wanted oi (yielded ops a.tmps) = true := by rfl) : wpAnyH P md ops Q S (fuel + 1) listed a w := by
 simp only [Bool.and_eq_true] at hs
 exact wpAnyH_take hi hs.1.1 hs.1.2 hs.2 hQ (Or.inl ⟨hw, hy⟩) hS h
theorem sk (i : Nat) {oi : Oper} {fuel : Nat} {listed : Array Bool} {a : Act} {w : World} (hS : S w)
  (h : wpAnyH P md ops Q S fuel (listed.setIfInBounds i true) (a.put oi.dst undef) w)
  (hi : ops[i]? = some oi := by exact at_list rfl) (hs : (Region.noSelect ops && Region.free md ops listed i && (Region.ready md ops listed).contains i) = true := by kernel_rfl)
  (hQ : ∀ c a w, Q (.panic c) (a.put oi.dst undef) w → Q (.panic c) a w := by exact fun _ _ _ h => h) (hw : Region.wanted oi (yielded ops a.tmps) = false := by rfl) : wpAnyH P md ops Q S (fuel + 1) listed a w := by
 simp only [Bool.and_eq_true] at hs
 exact wpAnyH_take hi hs.1.1 hs.1.2 hs.2 hQ (Or.inr ⟨hw, rfl⟩) hS h
end
structure Kq (w W : World) (l : List (Nat × TypeId × List Value)) : Prop where
 ch : Ch w.heap.size none1 w W
 row : ∀ p ∈ l, Blk W p.1 p.2.1 p.2.2
theorem Kq.nil (w : World) : Kq w w [] := ⟨Ch.refl _ _ _, fun p hp => by simp at hp⟩
theorem Kq.on {w W W' : World} {l : List (Nat × TypeId × List Value)} (h : Kq w W l) (hC : Ch W.heap.size none1 W W') : Kq w W' l := ⟨h.ch.trans (hC.mono h.ch.size (fun _ _ q => q)), fun p hp => hC.blk (h.row p hp) (h.row p hp).lt (fun q => q)⟩
theorem Kq.drew {w W : World} {l : List (Nat × TypeId × List Value)} (h : Kq w W l) : Kq w W.drew l := ⟨h.ch.drew, fun p hp => (h.row p hp).drew⟩
theorem Kq.new {w W : World} {l : List (Nat × TypeId × List Value)} (h : Kq w W l) (a : Array Value) (t : TypeId) : Kq w (W.alloc (.cells a t (0, 0))) ((W.heap.size, t, a.toList) :: l) := by
 refine ⟨h.ch.alloc h.ch.size _, fun p hp => ?_⟩
 rcases List.mem_cons.1 hp with rfl | hp
 ·exact Blk.new W a t
 ·exact (h.row p hp).alloc _
theorem Kq.other {w W : World} {l : List (Nat × TypeId × List Value)} (h : Kq w W l) (o : Obj) : Kq w (W.alloc o) l := h.on ((Ch.refl _ _ _).alloc (Nat.le_refl _) o)
theorem Kq.add {w W : World} {l : List (Nat × TypeId × List Value)} (h : Kq w W l) {g : Nat} {t : TypeId} {cs : List Value} (hb : Blk W g t cs) : Kq w W ((g, t, cs) :: l) := ⟨h.ch, fun p hp => by
 rcases List.mem_cons.1 hp with rfl | hp
 ·exact hb
 ·exact h.row p hp⟩
theorem Kq.cellsp {w W : World} {l : List (Nat × TypeId × List Value)} (h : Kq w W l) {g r : Nat} {t : TypeId} {a b c : Value} (hm : (g, t, [a, b, c]) ∈ l) (hne : g ≠ r) (u v x : Value) :
  (((W.setCell ⟨r, 0, none⟩ u).setCell ⟨r, 1, none⟩ v).setCell ⟨r, 2, none⟩ x).cell? ⟨g, 0, none⟩ = some a ∧ (((W.setCell ⟨r, 0, none⟩ u).setCell ⟨r, 1, none⟩ v).setCell ⟨r, 2, none⟩ x).cell? ⟨g, 1, none⟩ = some b ∧ (((W.setCell ⟨r, 0, none⟩ u).setCell ⟨r, 1, none⟩ v).setCell ⟨r, 2, none⟩ x).cell? ⟨g, 2, none⟩ = some c := by
 have r1 := (((h.row _ hm).set_other hne 0 u).set_other hne 1 v).set_other hne 2 x
 exact ⟨r1.cell 0, r1.cell 1, r1.cell 2⟩
theorem Kq.put {w W : World} {l : List (Nat × TypeId × List Value)} (h : Kq w W l) {g : Nat} {t : TypeId} {a b c : Value} (hm : (g, t, [a, b, c]) ∈ l) (hg : w.heap.size ≤ g) (u v x : Value) :
  Blk (((W.setCell ⟨g, 0, none⟩ u).setCell ⟨g, 1, none⟩ v).setCell ⟨g, 2, none⟩ x) g t [u, v, x] ∧ Ch w.heap.size none1 w (((W.setCell ⟨g, 0, none⟩ u).setCell ⟨g, 1, none⟩ v).setCell ⟨g, 2, none⟩ x) :=
 ⟨(((h.row _ hm).set 0 u).set 1 v).set 2 x, ((h.ch.setCell (p := ⟨g, 0, none⟩) (.inl hg) u).setCell (p := ⟨g, 1, none⟩) (.inl hg) v).setCell (p := ⟨g, 2, none⟩) (.inl hg) x⟩
theorem C_int_no {a : List UInt8} (ha : a.length ≤ 10000) (h : 9223372036854775807 < bv a) : Ans 105 #[S a] (.tuple #[.int .i64 0, .bool false]) := fun w =>
 (int_no a w (max_k ha) (by omega)).mono fun _ _ ⟨he, hC⟩ => ⟨he, ch_same hC⟩
def downQ (a t : Rat) : Rat := ((a / t).floor : Int) * t
theorem downQ_le {a t : Rat} (ht : 0 < t) : downQ a t ≤ a := by
 unfold downQ
 have h := Rat.floor_le (a / t)
 have h2 := Rat.mul_le_mul_of_nonneg_right h (Rat.le_of_lt ht)
 rwa [Rat.div_mul_cancel (Ne.symm (Rat.ne_of_lt ht))] at h2
theorem downQ_lt {a t : Rat} (ht : 0 < t) : a < downQ a t + t := by
 unfold downQ
 have h := Rat.lt_floor_add_one (a / t)
 have h2 := Rat.mul_lt_mul_of_pos_right h ht
 rw [Rat.div_mul_cancel (Ne.symm (Rat.ne_of_lt ht))] at h2
 have e : (((a / t).floor + 1 : Int) : Rat) * t = ((a / t).floor : Int) * t + t := by
  rw [Rat.intCast_add, Rat.add_mul]
  simp
 rwa [e] at h2
end Go.Proofs.YtkeomlpecjjhiaaGreatDoor
