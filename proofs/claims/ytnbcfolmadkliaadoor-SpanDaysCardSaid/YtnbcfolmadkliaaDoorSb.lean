/- Package span: slices in memory; Right, of both packages. -/
import Derived.Test.YtnbcfolmadkliaaDoorSa
import Derived.Test.YtnbcfolmadkliaaDoorDc
import Derived.Laws.MakeOwn
import Derived.Laws.AppendOwn
namespace Go.Proofs.YtnbcfolmadkliaaDoor
open Go.RowKit
abbrev SpV (a b : Int) : Value := .agg #[iz a, iz b]
def spc (s : Spn.Sp) : List Value := [iz s.1, iz s.2]
def bdc (x : Spn.Bd) : List Value := [iz x.1, iz x.2.1, iz x.2.2]
def inc (x : Int) : List Value := [iz x]
def boc (b : Bool) : List Value := [.bool b]
/-- A slice as it is read: its elements have k cells each. -/
structure Rd {α : Type} (enc : α → List Value) (k : Nat) (w : World) (p : Option Addr) (n : Nat) (l : List α) : Prop where
  len : l.length = n
  nil : p = none → n = 0
  at' : ∀ a, p = some a → a.spot = none ∧ a.block < w.heap.size ∧ ∀ i x, l[i]? = some x → ∀ j v, (enc x)[j]? = some v → w.cell? ⟨a.block, a.off + i * k + j, none⟩ = some v
section
variable {α : Type} {enc : α → List Value} {k : Nat}
theorem Rd.none (w : World) : Rd enc k w Option.none 0 [] := ⟨rfl, fun _ => rfl, fun a h => by simp at h⟩
theorem Rd.addr {w : World} {p : Option Addr} {n : Nat} {l : List α} (h : Rd enc k w p n l) (hn : 0 < n) : ∃ g o, p = some ⟨g, o, Option.none⟩ ∧ g < w.heap.size := by
  cases p with
  | none => have := h.nil rfl; omega
  | some a =>
    obtain ⟨h1, h2, _⟩ := h.at' a rfl
    obtain ⟨g, o, s⟩ := a
    simp only at h1 h2
    subst h1
    exact ⟨g, o, rfl, h2⟩
theorem Rd.get {w : World} {g o n : Nat} {l : List α} (h : Rd enc k w (some ⟨g, o, Option.none⟩) n l) {i : Nat} {x : α} (hi : l[i]? = some x) (j : Nat) {v : Value} (hj : (enc x)[j]? = some v) : w.cell? ⟨g, o + i * k + j, Option.none⟩ = some v :=
  (h.at' _ rfl).2.2 i x hi j v hj
theorem Rd.lt {w : World} {p : Option Addr} {n : Nat} {l : List α} (h : Rd enc k w p n l) : ∀ a, p = some a → a.block < w.heap.size := fun a ha => (h.at' a ha).2.1
theorem Rd.chR {w w' : World} {R : Nat → Prop} {p : Option Addr} {n : Nat} {l : List α} (h : Rd enc k w p n l) (hC : Ch w.heap.size R w w') (hp : ∀ a, p = some a → ¬ R a.block) : Rd enc k w' p n l :=
  ⟨h.len, h.nil, fun a ha => by
    obtain ⟨h1, h2, h3⟩ := h.at' a ha
    refine ⟨h1, Nat.lt_of_lt_of_le h2 hC.size, fun i x hi j v hv => ?_⟩
    rw [hC.cell (p := ⟨a.block, a.off + i * k + j, Option.none⟩) h2 (hp a ha)]
    exact h3 i x hi j v hv⟩
theorem Rd.ch {w w' : World} {p : Option Addr} {n : Nat} {l : List α} (h : Rd enc k w p n l) (hC : Ch w.heap.size none1 w w') : Rd enc k w' p n l := h.chR hC (fun _ _ q => q)
/-- Blocks below B are as they were. -/
theorem Rd.chB {B : Nat} {w w' : World} {p : Option Addr} {n : Nat} {l : List α} (h : Rd enc k w p n l) (hC : Ch B none1 w w') (hp : ∀ a, p = some a → a.block < B) : Rd enc k w' p n l :=
  ⟨h.len, h.nil, fun a ha => by
    obtain ⟨h1, h2, h3⟩ := h.at' a ha
    refine ⟨h1, Nat.lt_of_lt_of_le h2 hC.size, fun i x hi j v hv => ?_⟩
    rw [hC.cell (p := ⟨a.block, a.off + i * k + j, Option.none⟩) (hp a ha) (fun q => q)]
    exact h3 i x hi j v hv⟩
theorem flat_len (hk : ∀ x, (enc x).length = k) (l : List α) : (l.flatMap enc).length = l.length * k := by
  induction l with
  | nil => simp
  | cons x l ih => rw [List.flatMap_cons, List.length_append, ih, hk, List.length_cons, Nat.add_mul]; omega
theorem flat_get (hk : ∀ x, (enc x).length = k) (l : List α) : ∀ (i : Nat) (x : α), l[i]? = some x → ∀ j v, (enc x)[j]? = some v → (l.flatMap enc)[i * k + j]? = some v := by
  induction l with
  | nil => intro i x h; simp at h
  | cons y l ih =>
    intro i x h j v hv
    rw [List.flatMap_cons]
    cases i with
    | zero =>
      simp at h
      subst h
      rw [Nat.zero_mul, Nat.zero_add, List.getElem?_append_left (List.getElem?_eq_some_iff.1 hv).1]
      exact hv
    | succ i =>
      rw [List.getElem?_cons_succ] at h
      rw [List.getElem?_append_right (by rw [hk, Nat.add_mul]; omega), hk, show (i + 1) * k + j - k = i * k + j by rw [Nat.add_mul]; omega]
      exact ih i x h j v hv
theorem Rd.blk (hk : ∀ x, (enc x).length = k) {w : World} {g : Nat} {t : TypeId} {l : List α} {pre post : List Value} {n : Nat} (h : Blk w g t (pre ++ l.flatMap enc ++ post)) (hn : l.length = n) : Rd enc k w (some ⟨g, pre.length, Option.none⟩) n l :=
  ⟨hn, fun e => by simp at e, fun a ha => by
    obtain rfl := Option.some.inj ha
    refine ⟨rfl, h.lt, fun i x hi j v hv => ?_⟩
    have hf := flat_get hk l i x hi j v hv
    have hl := (List.getElem?_eq_some_iff.1 hf).1
    show w.cell? ⟨g, pre.length + i * k + j, Option.none⟩ = some v
    rw [h.cell, List.append_assoc, List.getElem?_append_right (by omega), List.getElem?_append_left (by omega), show pre.length + i * k + j - pre.length = i * k + j by omega]
    exact hf⟩
theorem Rd.blk0 (hk : ∀ x, (enc x).length = k) {w : World} {g : Nat} {t : TypeId} {l : List α} {n : Nat} (h : Blk w g t (l.flatMap enc)) (hn : l.length = n) : Rd enc k w (some ⟨g, 0, Option.none⟩) n l :=
  Rd.blk (pre := []) (post := []) hk (by simpa using h) hn
theorem Rd.own (hk : ∀ x, (enc x).length = k) {w : World} {base n : Nat} {e : TypeId} {p : Option Addr} {m c : Nat} {l : List α} (h : w.ownsRow base e k (.slice p m c) n (l.flatMap enc)) (hn : l.length = n) : m = n ∧ Rd enc k w p m l := by
  obtain ⟨_, h | ⟨g, cap, cur, hv, hb, hg, hlt, hm, hs, ht⟩⟩ := h
  · obtain ⟨hv, h0⟩ := h
    simp only [Value.slice.injEq] at hv
    obtain ⟨rfl, rfl, rfl⟩ := hv
    have : l = [] := List.length_eq_zero_iff.1 (by omega)
    subst this
    exact ⟨by omega, Rd.none w⟩
  · simp only [Value.slice.injEq] at hv
    obtain ⟨rfl, rfl, rfl⟩ := hv
    refine ⟨rfl, ?_⟩
    have hB : Blk w g e (l.flatMap enc ++ cur.toList.drop (m * k)) := by unfold Blk; rw [← ht, List.take_append_drop]; simpa using hg
    exact Rd.blk (pre := []) (post := cur.toList.drop (m * k)) hk (by simpa using hB) hn
theorem Rd.take {w : World} {p : Option Addr} {n : Nat} {l : List α} (h : Rd enc k w p n l) {m : Nat} (hm : m ≤ n) : Rd enc k w p m (l.take m) :=
  ⟨by rw [List.length_take, h.len]; omega, fun e => by have := h.nil e; omega, fun a ha => by
    obtain ⟨h1, h2, h3⟩ := h.at' a ha
    exact ⟨h1, h2, fun i x hi => h3 i x (by
      have := (List.getElem?_eq_some_iff.1 hi).1
      rw [List.length_take] at this
      rwa [List.getElem?_take_of_lt (by omega)] at hi)⟩⟩
theorem Rd.drop {w : World} {g o n : Nat} {l : List α} (h : Rd enc k w (some ⟨g, o, Option.none⟩) n l) (m : Nat) : Rd enc k w (some ⟨g, o + m * k, Option.none⟩) (n - m) (l.drop m) :=
  ⟨by rw [List.length_drop, h.len], fun e => by simp at e, fun a ha => by
    obtain rfl := Option.some.inj ha
    obtain ⟨_, h2, h3⟩ := h.at' _ rfl
    refine ⟨rfl, h2, fun i x hi j v hv => ?_⟩
    rw [List.getElem?_drop] at hi
    have := h3 _ x hi j v hv
    simp only at this ⊢
    rw [show o + m * k + i * k + j = o + (m + i) * k + j by rw [Nat.add_mul]; omega]
    exact this⟩
theorem ch_own {w w' : World} {B n size : Nat} {e : TypeId} {v : Value} {xs : List Value} (hB : B ≤ w.heap.size) (ho : w.ownsRow B e size v n xs) (h : w.grownBy w' v.ownBlock) : Ch B none1 w w' :=
  ⟨h.os, h.tape, h.output, h.size, fun k hk _ => h.block k (by omega) (fun q => by
    rcases ho.2 with ⟨hv, _⟩ | ⟨g, cap, cur, hv, hb, _⟩
    · rw [hv] at q; cases q
    · rw [hv] at q; simp [Value.ownBlock] at q; omega)⟩
/-- A slice of one's own lies on where its block does. -/
theorem own_keep {w w' : World} {B n size : Nat} {e : TypeId} {v : Value} {xs : List Value} (h : w.ownsRow B e size v n xs) (hk : ∀ g, v.ownBlock = some g → w'.heap[g]? = w.heap[g]?) : w'.ownsRow B e size v n xs := by
  obtain ⟨h1, h2 | ⟨g, cap, cur, hv, hb, hg, hr⟩⟩ := h
  · exact ⟨h1, .inl h2⟩
  · exact ⟨h1, .inr ⟨g, cap, cur, hv, hb, by rw [hk g (by rw [hv]; rfl)]; exact hg, hr⟩⟩
theorem own_lt {w : World} {B n size : Nat} {e : TypeId} {v : Value} {xs : List Value} (h : w.ownsRow B e size v n xs) : ∀ g, v.ownBlock = some g → B ≤ g ∧ g < w.heap.size := fun g hg => by
  obtain ⟨_, ⟨hv, _⟩ | ⟨g', cap, cur, hv, hb, hg', _⟩⟩ := h
  · rw [hv] at hg; cases hg
  · rw [hv] at hg
    simp [Value.ownBlock] at hg
    subst hg
    exact ⟨hb, (Array.getElem?_eq_some_iff.1 hg').1⟩
theorem own_ch {w w' : World} {B C n size : Nat} {e : TypeId} {v : Value} {xs : List Value} (h : w.ownsRow B e size v n xs) (hC : Ch C none1 w w') (hlt : w.heap.size ≤ C) : w'.ownsRow B e size v n xs :=
  own_keep h fun g hg => hC.block g (by have := (own_lt h g hg).2; omega) (fun q => q)
theorem own_nil (w : World) (B : Nat) (e : TypeId) (size : Nat) : w.ownsRow B e size (.slice none 0 0) 0 [] := ⟨by simp, .inl ⟨rfl, rfl⟩⟩
theorem own_val {w : World} {B n size : Nat} {e : TypeId} {v : Value} {xs : List Value} (h : w.ownsRow B e size v n xs) : ∃ p c, v = .slice p n c := by
  obtain ⟨_, ⟨hv, h0⟩ | ⟨g, cap, cur, hv, _⟩⟩ := h
  · exact ⟨_, _, by rw [hv, h0]⟩
  · exact ⟨_, _, hv⟩
end
theorem spc_len (x : Spn.Sp) : (spc x).length = 2 := rfl
theorem bdc_len (x : Spn.Bd) : (bdc x).length = 3 := rfl
theorem inc_len (x : Int) : (inc x).length = 1 := rfl
theorem boc_len (x : Bool) : (boc x).length = 1 := rfl
theorem Rd.sp {w : World} {g o n : Nat} {l : List Spn.Sp} (h : Rd spc 2 w (some ⟨g, o, Option.none⟩) n l) {i : Nat} {a b : Int} (hi : l[i]? = some (a, b)) :
    w.cell? ⟨g, o + i * 2, Option.none⟩ = some (iz a) ∧ w.cell? ⟨g, o + i * 2 + 1, Option.none⟩ = some (iz b) := ⟨h.get hi 0 rfl, h.get hi 1 rfl⟩
theorem Rd.bd {w : World} {g o n : Nat} {l : List Spn.Bd} (h : Rd bdc 3 w (some ⟨g, o, Option.none⟩) n l) {i : Nat} {a b c : Int} (hi : l[i]? = some (a, b, c)) :
    w.cell? ⟨g, o + i * 3, Option.none⟩ = some (iz a) ∧ w.cell? ⟨g, o + i * 3 + 1, Option.none⟩ = some (iz b) ∧ w.cell? ⟨g, o + i * 3 + 2, Option.none⟩ = some (iz c) := ⟨h.get hi 0 rfl, h.get hi 1 rfl, h.get hi 2 rfl⟩
theorem Rd.in {w : World} {g o n : Nat} {l : List Int} (h : Rd inc 1 w (some ⟨g, o, Option.none⟩) n l) {i : Nat} {a : Int} (hi : l[i]? = some a) : w.cell? ⟨g, o + i, Option.none⟩ = some (iz a) := by
  have := h.get hi 0 (v := iz a) rfl
  rwa [Nat.mul_one] at this
theorem Rd.bo {w : World} {g o n : Nat} {l : List Bool} (h : Rd boc 1 w (some ⟨g, o, Option.none⟩) n l) {i : Nat} {a : Bool} (hi : l[i]? = some a) : w.cell? ⟨g, o + i, Option.none⟩ = some (.bool a) := by
  have := h.get hi 0 (v := .bool a) rfl
  rwa [Nat.mul_one] at this
/-- A call that returns v, and keeps what lay. -/
abbrev Ya (w : World) (v : Value) (e : Ending) (w' : World) : Prop := e = .returned v ∧ Ch w.heap.size none1 w w'
/-- A call that returns a slice of these spans. -/
def Ys (w : World) (l : List Spn.Sp) (e : Ending) (w' : World) : Prop := ∃ p n c, e = .returned (.slice p n c) ∧ Rd spc 2 w' p n l ∧ Ch w.heap.size none1 w w'
set_option maxRecDepth 100000 in
set_option maxHeartbeats 800000 in
theorem Right_any (a b : Int) (w : World) : Calls Tryd.prog 15 #[SpV a b] w fun e w' => e = .returned (.bool (Spn.rt (a, b))) ∧ w' = w.alloc (.cells #[iz a, iz b] 35) := by
  obtain ⟨r, hr⟩ : ∃ r, Spn.rt (a, b) = r := ⟨_, rfl⟩
  have hd : r = (decide (0 ≤ a) && (decide (a < b) && decide (b ≤ 3652059))) := by rw [← hr]; rfl
  rw [hr]
  clear hr
  have hb := Blk.new w #[iz a, iz b] 35
  have c0 := hb.cell 0
  have c1 := hb.cell 1
  clear hb
  simp only [List.getElem?_cons_zero, List.getElem?_cons_succ] at c0 c1
  by_cases h1 : 0 ≤ a
  · by_cases h2 : a < b
    · by_cases h3 : b ≤ 3652059
      all_goals
        have HR := Lib.hid hd
        clear hd
        go_enter Tryd.func15, Tryd.ntmps15
        go_wp2_with fail
        go_ret
        exact ⟨ret_bool (by rw [HR.out]; simp [h1, h2, h3]), rfl⟩
    · have HR := Lib.hid hd
      clear hd
      go_enter Tryd.func15, Tryd.ntmps15
      go_wp2_with fail
      go_ret
      exact ⟨ret_bool (by rw [HR.out, decide_eq_false (show ¬ a < b by omega)]; simp), rfl⟩
  · have HR := Lib.hid hd
    clear hd
    go_enter Tryd.func15, Tryd.ntmps15
    go_wp2_with fail
    go_ret
    exact ⟨ret_bool (by rw [HR.out, decide_eq_false (show ¬ 0 ≤ a by omega)]; simp), rfl⟩
end Go.Proofs.YtnbcfolmadkliaaDoor
