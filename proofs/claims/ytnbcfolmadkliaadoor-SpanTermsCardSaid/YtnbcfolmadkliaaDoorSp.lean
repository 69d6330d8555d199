/- Package tithingref05: pieces, Norm, Union, Meet, Less. -/
import Derived.Test.YtnbcfolmadkliaaDoorSo
import Derived.Test.YtnbcfolmadkliaaDoorSk
import Derived.BigQuiet
import Derived.Deep.RegionHeld3
namespace Go.Proofs.YtnbcfolmadkliaaDoor
open Go.RowKit Go.Shelf
/-- Where the loop of pieces stands. -/
def PcAt (C : List Int) (Q : Int → Bool) (i : Nat) (l : List Spn.Sp) : Prop := (C = [] ∧ l = [] ∧ i = 0) ∨ ∃ t, C[i]? = some t ∧ Spn.Pc Q t l
theorem pc_start {a b : List Spn.Sp} {C : List Int} (hc : Spn.rb (a ++ b) = C) {Q : Int → Bool} {q : Bool → Bool → Bool} (hQ : ∀ d, Q d = q (Spn.has a d) (Spn.has b d)) (h0 : q false false = false) : PcAt C Q 0 [] := by
  rcases hl : C[0]? with _ | t
  · left
    refine ⟨?_, rfl, rfl⟩
    rcases C with _ | ⟨x, C⟩
    · rfl
    · simp at hl
  · right
    exact ⟨t, hl, Spn.Pc.start fun d hd => by rw [hQ, (Spn.rb_first hc hl d hd).1, (Spn.rb_first hc hl d hd).2, h0]⟩
theorem pc_end {a b : List Spn.Sp} {C : List Int} (hc : Spn.rb (a ++ b) = C) {Q : Int → Bool} {q : Bool → Bool → Bool} (hQ : ∀ d, Q d = q (Spn.has a d) (Spn.has b d)) (h0 : q false false = false) {i : Nat} {l : List Spn.Sp} (hi : C.length ≤ i + 1) (h : PcAt C Q i l) : Spn.nf Q = l := by
  rcases h with ⟨rfl, rfl, _⟩ | ⟨t, ht, hp⟩
  · exact Spn.nf_eq Spn.Nrm.nil fun d => by rw [hQ, (Spn.rb_none hc d).1, (Spn.rb_none hc d).2, h0]; rfl
  · have hlt := (List.getElem?_eq_some_iff.1 ht).1
    exact hp.fin fun d hd => by rw [hQ, (Spn.rb_last hc ht (by omega) d hd).1, (Spn.rb_last hc ht (by omega) d hd).2, h0]
theorem own_heap {w w' : World} {B n size : Nat} {e : TypeId} {v : Value} {xs : List Value} (h : w.ownsRow B e size v n xs) (e1 : w'.heap = w.heap) : w'.ownsRow B e size v n xs := own_keep h fun g _ => by rw [e1]
theorem ch_heap {B : Nat} {R : Nat → Prop} {w w1 w' : World} (h : Ch B R w w1) (e1 : w'.heap = w1.heap) (e2 : w'.os = w1.os ∧ w'.tape = w1.tape ∧ w'.output = w1.output) : Ch B R w w' :=
  ⟨e2.1.trans h.os, e2.2.1.trans h.tape, e2.2.2.trans h.output, by rw [e1]; exact h.size, fun k hk hr => by rw [e1]; exact h.block k hk hr⟩
theorem own_set {w : World} {B n size g cap : Nat} {e : TypeId} {xs : List Value} (h : w.ownsRow B e size (.slice (some ⟨g, 0, none⟩) n cap) n xs) {j : Nat} (_hj : j < xs.length) (u : Value) : (w.setCell ⟨g, j, none⟩ u).ownsRow B e size (.slice (some ⟨g, 0, none⟩) n cap) n (xs.set j u) := by
  obtain ⟨h1, ⟨hv, _⟩ | ⟨g', cap', cur, hv, hb, hg, hlt, hm, hs, ht⟩⟩ := h
  · cases hv
  · simp only [Value.slice.injEq, Option.some.injEq, Addr.mk.injEq, and_true, true_and] at hv
    obtain ⟨rfl, rfl⟩ := hv
    refine ⟨by simpa using h1, .inr ⟨g, cap, cur.setIfInBounds j u, rfl, hb, ?_, hlt, hm, by simpa using hs, ?_⟩⟩
    · simp [World.setCell, Array.getElem?_modify, hg]
    · rw [Array.toList_setIfInBounds, ← ht, List.take_set]
theorem own_at {w : World} {B n size : Nat} {e : TypeId} {p : Option Addr} {cap : Nat} {xs : List Value} (h : w.ownsRow B e size (.slice p n cap) n xs) (hn : 0 < n) : ∃ g, p = some ⟨g, 0, none⟩ ∧ B ≤ g ∧ g < w.heap.size ∧ (∀ j u, xs[j]? = some u → w.cell? ⟨g, j, none⟩ = some u) ∧ ∀ j, w.frozen? ⟨g, j, none⟩ = false := by
  obtain ⟨h1, ⟨hv, h0⟩ | ⟨g, cap', cur, hv, hb, hg, hlt, hm, hs, ht⟩⟩ := h
  · omega
  · simp only [Value.slice.injEq] at hv
    obtain ⟨rfl, -, rfl⟩ := hv
    have hB : Blk w g e cur.toList := by unfold Blk; simpa using hg
    refine ⟨g, rfl, hb, hB.lt, fun j u hu => ?_, fun j => hB.frozen j⟩
    rw [hB.cell]
    have := (List.getElem?_eq_some_iff.1 hu).1
    rw [← ht] at hu this
    rwa [List.getElem?_take_of_lt (by rw [List.length_take] at this; omega)] at hu
/-- 'append' to a slice of one's own, at a step of a region that draws its order. -/
theorem step_append {P : Program} (w : World) {ops : Array Oper} {o : Oper} {a : Act} {K : Act → World → Prop} {Q : Exit → Act → World → Prop} {E : Prop} (hgd : o.guard = none) (s x : Operand) (t : TypeId)
    (ho : o.op = .call { callee := .builtin .append, args := #[s, x], argTypes := #[t, t] })
    (base : Nat) (e : TypeId) (i : TypeInfo) (z : Value) (size bytes : Nat) (ht : P.underlying t = some (.slice e)) (hi : P.info? e = some i) (hz : i.zero = some z)
    (hsize : i.size = size) (hby : i.bytes = bytes) (hzs : z.cells.size = size) (hsz : 0 < size)
    (v : Value) (n : Nat) (xs : List Value) (hs : a.eval s = v) (hown : w.ownsRow base e size v n xs)
    (ad : Addr) (m c : Nat) (news : List Value) (hx : a.eval x = .slice (some ad) m c) (hl : news.length = m * size) (hnews : ∀ j u, news[j]? = some u → w.cell? (ad.add j) = some u) (h1 : ∀ u ∈ news, u.oneCell' = true)
    (h63 : n + m ≤ maxLen) (hbytes : (n + m) * bytes ≤ 140737488355328) (hbase : base ≤ w.heap.size)
    (h : ∀ v' w', w'.ownsRow base e size v' (n + m) (xs ++ news) → w.grownBy w' v.ownBlock → K (a.put o.dst v') w') :
    if Region.wanted o (yielded ops a.tmps) = true then Oper.wp P o a w K Q else E := by
  have hw : Region.wanted o (yielded ops a.tmps) = true := by simp [Region.wanted, hgd]
  rw [if_pos hw]
  exact wp_append_own w s x t ho base e i z size bytes ht hi hz hsize hby hzs hsz v n xs hs hown ad m c news hx hl hnews h1 h63 hbytes hbase fun v' w' h2 h3 _ => h v' w' h2 h3
theorem flat_last (l : List Spn.Sp) (f e : Int) : ((l ++ [(f, e)]).flatMap spc)[l.length * 2 + 1]? = some (iz e) := by
  rw [List.flatMap_append, List.getElem?_append_right (by rw [flat_len spc_len]; omega), flat_len spc_len, show l.length * 2 + 1 - l.length * 2 = 1 by omega]
  rfl
theorem flat_set (l : List Spn.Sp) (f e e' : Int) : ((l ++ [(f, e)]).flatMap spc).set (l.length * 2 + 1) (iz e') = (l ++ [(f, e')]).flatMap spc := by
  have hl := flat_len spc_len l
  rw [List.flatMap_append, List.flatMap_append, List.set_append_right _ _ (by omega), hl, show l.length * 2 + 1 - l.length * 2 = 1 by omega]
  rfl
end Go.Proofs.YtnbcfolmadkliaaDoor
