/- The reference of layer 4: Split: what its walk keeps; comparisons of numbers whose difference is small. -/
import Derived.Test.YtkeomlpecjjhiaaGreatDoorVs
import Derived.Test.YtkeomlpecjjhiaaGreatDoorWt
import Derived.Maps.AppendAt
namespace Go.Proofs.YtkeomlpecjjhiaaGreatDoor
open Go.RowKit
theorem rss_get {c s : Nat} {X : List Nat} {k x : Nat} (h : X[k]? = some x) : (rss c s X).getD k 0 = c * x % s := by
 unfold rss
 rw [List.getD_eq_getElem?_getD, List.getElem?_map, h]
 rfl
theorem sumQ_rsum : ∀ (l : List T3), sumQ l = rsum (l.map rof) := by
 have h : ∀ (l : List T3) (a : Rat), l.foldl (fun a t => a + ratOf t.1 t.2.1 t.2.2) a = a + rsum (l.map rof) := by
  intro l
  induction l with
  | nil => intro a; exact (Rat.add_zero a).symm
  | cons t l ih =>
   intro a
   rw [List.foldl_cons, ih, List.map_cons]
   show a + rof t + rsum (l.map rof) = a + (rof t + rsum (l.map rof))
   grind
 intro l
 have := h l 0
 rw [Rat.zero_add] at this
 exact this
def Bst (f : Nat → Nat) (tk : Nat → Bool) (k : Nat) : Option Nat → Prop
 | none => ∀ j, j < k → tk j = true
 | some b => b < k ∧ tk b = false ∧ ∀ j, j < k → tk j = false → j ≠ b → ltp f b j = true
theorem Bst.start (f : Nat → Nat) (tk : Nat → Bool) : Bst f tk 0 none := fun j h => by omega
theorem Bst.skip {f : Nat → Nat} {tk : Nat → Bool} {k : Nat} {b : Option Nat} (h : Bst f tk k b) (ht : tk k = true) : Bst f tk (k + 1) b := by
 cases b with
 | none =>
  intro j hj
  rcases Nat.lt_or_eq_of_le (Nat.lt_succ_iff.1 hj) with q | rfl
  ·exact h j q
  ·exact ht
 | some b =>
  obtain ⟨h1, h2, h3⟩ := h
  refine ⟨by omega, h2, fun j hj hf hne => ?_⟩
  rcases Nat.lt_or_eq_of_le (Nat.lt_succ_iff.1 hj) with q | rfl
  ·exact h3 j q hf hne
  ·rw [ht] at hf; cases hf
theorem Bst.first {f : Nat → Nat} {tk : Nat → Bool} {k : Nat} (h : Bst f tk k none) (ht : tk k = false) : Bst f tk (k + 1) (some k) := by
 refine ⟨by omega, ht, fun j hj hf hne => ?_⟩
 rw [h j (by omega)] at hf
 cases hf
theorem Bst.more {f : Nat → Nat} {tk : Nat → Bool} {k b : Nat} (h : Bst f tk k (some b)) (ht : tk k = false) (hl : f b < f k) : Bst f tk (k + 1) (some k) := by
 obtain ⟨h1, h2, h3⟩ := h
 refine ⟨by omega, ht, fun j hj hf hne => ?_⟩
 rw [ltp_iff]
 by_cases hb : j = b
 ·subst hb; exact .inl hl
 ·have := h3 j (by omega) hf hb
  rw [ltp_iff] at this
  omega
theorem Bst.less {f : Nat → Nat} {tk : Nat → Bool} {k b : Nat} (h : Bst f tk k (some b)) (hl : ¬ f b < f k) : Bst f tk (k + 1) (some b) := by
 obtain ⟨h1, h2, h3⟩ := h
 refine ⟨by omega, h2, fun j hj hf hne => ?_⟩
 by_cases hk : j = k
 ·subst hk; rw [ltp_iff]; omega
 ·exact h3 j (by omega) hf hne
theorem Bst.done {f : Nat → Nat} {tk : Nat → Bool} {n r x : Nat} {b : Option Nat} (h : Bst f tk n b) (ht : ∀ j, j < n → (tk j = true ↔ j ∈ (srv f n).take r)) (hx : (srv f n)[r]? = some x) : b = some x := by
 obtain ⟨hr, hxe⟩ := List.getElem?_eq_some_iff.1 hx
 have hxn : x < n := (srv_mem f n x).1 (hxe ▸ List.getElem_mem hr)
 have hnd := srv_nodup f n
 have hso := srv_sorted f n
 have hxt : ¬ x ∈ (srv f n).take r := by
  intro hm
  obtain ⟨i, hi, he⟩ := List.mem_iff_getElem.1 hm
  rw [List.length_take] at hi
  rw [List.getElem_take] at he
  have := List.pairwise_iff_getElem.1 hnd i r (by omega) hr (by omega)
  exact this (he.trans hxe.symm)
 have hxf : tk x = false := by
  cases hq : tk x with
  | false => rfl
  | true => exact (hxt ((ht x hxn).1 hq)).elim
 cases b with
 | none => have := h x hxn; rw [hxf] at this; cases this
 | some b =>
  obtain ⟨h1, h2, h3⟩ := h
  by_cases hb : b = x
  ·rw [hb]
  ·exfalso
   have hbm : ¬ b ∈ (srv f n).take r := by
    intro hm
    rw [(ht b h1).2 hm] at h2
    cases h2
   obtain ⟨i, hi, he⟩ := List.mem_iff_getElem.1 ((srv_mem f n b).2 h1)
   have hir : ¬ i < r := by
    intro hlt
    apply hbm
    rw [List.mem_iff_getElem]
    exact ⟨i, by rw [List.length_take]; omega, by rw [List.getElem_take]; exact he⟩
   have hine : i ≠ r := by
    rintro rfl
    exact hb (he.symm.trans hxe)
   have h4 := List.pairwise_iff_getElem.1 hso r i hr hi (by omega)
   rw [hxe, he] at h4
   have h5 := h3 x hxn hxf (fun q => hb q.symm)
   rw [ltp_iff] at h4 h5
   omega
theorem take_more {f : Nat → Nat} {n r x : Nat} (hx : (srv f n)[r]? = some x) (j : Nat) : j ∈ (srv f n).take (r + 1) ↔ j ∈ (srv f n).take r ∨ j = x := by
 rw [List.take_add_one, hx]
 simp
open Go.RowKit Go.Shelf
theorem Kq.grown {w W W' : World} {l : List (Nat × TypeId × List Value)} {b : Option Nat} (h : Kq w W l) (hg : W.grownBy W' b) (hb : ∀ g, b = some g → w.heap.size ≤ g ∧ ∀ p ∈ l, p.1 ≠ g) : Kq w W' l := by
 refine ⟨h.ch.trans ⟨hg.os, hg.tape, hg.output, hg.size, fun k hk _ => hg.block k (Nat.lt_of_lt_of_le hk h.ch.size) (fun q => ?_)⟩, fun p hp => ?_⟩
 ·have := (hb k q.symm).1
  omega
 ·have h1 := h.row p hp
  have h2 := hg.block p.1 h1.lt (fun q => (hb p.1 q.symm).2 p hp rfl)
  unfold Blk at h1 ⊢
  rw [h2]
  exact h1
theorem rcs_set (l : List T3) (sp : List Value) : ∀ (i : Nat) (t : T3), i < l.length → (((rcs l ++ sp).set (i * 3) (.bool t.1)).set (i * 3 + 1) (S t.2.1)).set (i * 3 + 2) (S t.2.2) = rcs (l.set i t) ++ sp := by
 induction l with
 | nil => intro i t h; simp at h
 | cons x l ih =>
  intro i t h
  cases i with
  | zero => rfl
  | succ i =>
   have h1 := ih i t (by simpa using h)
   rw [List.set_cons_succ, rcs_cons, rcs_cons, List.append_assoc, List.append_assoc, ← h1, show (i + 1) * 3 = i * 3 + 3 by omega]
   rfl
theorem Kq.putAt {w W : World} {g i : Nat} {e : TypeId} {P : List T3} {sp : List Value} {l : List (Nat × TypeId × List Value)} (h : Kq w W ((g, e, rcs P ++ sp) :: l)) (hg : w.heap.size ≤ g) (hl : ∀ p ∈ l, p.1 ≠ g) (hi : i < P.length) (t : T3) :
  Kq w (((W.setCell ⟨g, i * 3, none⟩ (.bool t.1)).setCell ⟨g, i * 3 + 1, none⟩ (S t.2.1)).setCell ⟨g, i * 3 + 2, none⟩ (S t.2.2)) ((g, e, rcs (P.set i t) ++ sp) :: l) :=
 ⟨((h.ch.setCell (p := ⟨g, i * 3, none⟩) (.inl hg) _).setCell (p := ⟨g, i * 3 + 1, none⟩) (.inl hg) _).setCell (p := ⟨g, i * 3 + 2, none⟩) (.inl hg) _, fun p hp => by
  rcases List.mem_cons.1 hp with rfl | hp
  ·have h1 := (((h.row _ mm0).set (i * 3) (.bool t.1)).set (i * 3 + 1) (S t.2.1)).set (i * 3 + 2) (S t.2.2)
   rw [rcs_set P sp i t hi] at h1
   exact h1
  ·exact (((h.row _ (.tail _ hp)).set_other (hl p hp) _ _).set_other (hl p hp) _ _).set_other (hl p hp) _ _⟩
theorem Kq.putC {w W : World} {g i : Nat} {e : TypeId} {cs : List Value} {l : List (Nat × TypeId × List Value)} (h : Kq w W ((g, e, cs) :: l)) (hg : w.heap.size ≤ g) (hl : ∀ p ∈ l, p.1 ≠ g) (v : Value) :
  Kq w (W.setCell ⟨g, i, none⟩ v) ((g, e, cs.set i v) :: l) :=
 ⟨h.ch.setCell (p := ⟨g, i, none⟩) (.inl hg) _, fun p hp => by
  rcases List.mem_cons.1 hp with rfl | hp
  ·exact (h.row _ mm0).set i v
  ·exact (h.row _ (.tail _ hp)).set_other (hl p hp) _ _⟩
theorem Blk.rat {W : World} {g i : Nat} {e : TypeId} {P : List T3} {sp : List Value} (h : Blk W g e (rcs P ++ sp)) {s : Bool} {n d : List UInt8} (hi : P[i]? = some (s, n, d)) :
  W.cell? ⟨g, i * 3, none⟩ = some (.bool s) ∧ W.cell? ⟨g, i * 3 + 1, none⟩ = some (S n) ∧ W.cell? ⟨g, i * 3 + 2, none⟩ = some (S d) := by
 obtain ⟨h1, h2, h3⟩ := rcs_get P i _ hi
 have hlt : i * 3 + 2 < (rcs P).length := (List.getElem?_eq_some_iff.1 h3).1
 refine ⟨?_, ?_, ?_⟩
 ·rw [h.cell, List.getElem?_append_left (by omega)]; exact h1
 ·rw [h.cell, List.getElem?_append_left (by omega)]; exact h2
 ·rw [h.cell, List.getElem?_append_left (by omega)]; exact h3
theorem own_blkR {w : World} {B n : Nat} {e : TypeId} {v : Value} {l : List T3} (h : w.ownsRow B e 3 v n (rcs l)) (hl : l.length = n) (h0 : 0 < n) : ∃ g cp sp, v = .slice (some ⟨g, 0, none⟩) n cp ∧ Blk w g e (rcs l ++ sp) ∧ B ≤ g ∧ g < w.heap.size := by
 obtain ⟨_, ⟨hv, h1⟩ | ⟨g, cap, cur, hv, hb, hg, hlt, hm, hs, ht⟩⟩ := h
 ·omega
 ·refine ⟨g, cap, cur.toList.drop (n * 3), hv, ?_, hb, (Array.getElem?_eq_some_iff.1 hg).1⟩
  unfold Blk
  have hll : (rcs l).length = n * 3 := by rw [rcs_len, hl]
  rw [← ht, List.take_append_drop]
  simpa using hg
structure L2 (w W : World) (G : Nat) (l : List (Nat × TypeId × List Value)) (P O : Value) (k m : Nat) (PL OL : List T3) : Prop where
 kq : Kq w W l
 po : W.ownsRow G 26 3 P k (rcs PL)
 oo : W.ownsRow G 26 3 O m (rcs OL)
 ne : ∀ g, P.ownBlock = some g → O.ownBlock ≠ some g
 nl : ∀ p ∈ l, P.ownBlock ≠ some p.1 ∧ O.ownBlock ≠ some p.1
 gw : w.heap.size ≤ G
 gg : G ≤ W.heap.size
section
variable {w W W' : World} {G k m : Nat} {l : List (Nat × TypeId × List Value)} {P O : Value} {PL OL : List T3}
theorem L2.on (h : L2 w W G l P O k m PL OL) (hC : Ch W.heap.size none1 W W') : L2 w W' G l P O k m PL OL :=
 ⟨h.kq.on hC, own_ch h.po hC (Nat.le_refl _), own_ch h.oo hC (Nat.le_refl _), h.ne, h.nl, h.gw, Nat.le_trans h.gg hC.size⟩
theorem L2.other (h : L2 w W G l P O k m PL OL) (o : Obj) : L2 w (W.alloc o) G l P O k m PL OL := h.on ((Ch.refl _ _ _).alloc (Nat.le_refl _) o)
theorem L2.drew (h : L2 w W G l P O k m PL OL) : L2 w W.drew G l P O k m PL OL := h.on (Ch.refl _ _ _).drew
theorem L2.ch (h : L2 w W G l P O k m PL OL) : Ch w.heap.size none1 w W := h.kq.ch
theorem L2.row (h : L2 w W G l P O k m PL OL) : ∀ p ∈ l, Blk W p.1 p.2.1 p.2.2 := h.kq.row
theorem L2.sub {l' : List (Nat × TypeId × List Value)} (h : L2 w W G l P O k m PL OL) (hs : ∀ p ∈ l', p ∈ l) : L2 w W G l' P O k m PL OL := ⟨h.kq.sub hs, h.po, h.oo, h.ne, fun p hp => h.nl p (hs p hp), h.gw, h.gg⟩
theorem L2.new (h : L2 w W G l P O k m PL OL) (a : Array Value) (t : TypeId) : L2 w (W.alloc (.cells a t (0, 0))) G ((W.heap.size, t, a.toList) :: l) P O k m PL OL := by
 have h1 := h.other (.cells a t (0, 0))
 refine ⟨h.kq.new a t, h1.po, h1.oo, h.ne, fun p hp => ?_, h.gw, h1.gg⟩
 rcases List.mem_cons.1 hp with rfl | hp
 ·exact ⟨fun q => by have h3 := (own_lt h.po _ q).2; simp only at h3; omega, fun q => by have h3 := (own_lt h.oo _ q).2; simp only at h3; omega⟩
 ·exact h.nl p hp
theorem L2.grow1 {P' : Value} {PL' : List T3} {n : Nat} (h : L2 w W G l P O k m PL OL) (hP : W'.ownsRow G 26 3 P' n (rcs PL')) (hg : W.grownBy W' P.ownBlock) (hat : P'.ownBlock = P.ownBlock ∨ P'.ownBlock = some W.heap.size) : L2 w W' G l P' O n m PL' OL := by
 refine ⟨h.kq.grown hg (fun g q => ⟨Nat.le_trans h.gw (own_lt h.po g q).1, fun p hp e => (h.nl p hp).1 (by rw [e]; exact q)⟩), hP, own_keep h.oo (fun g q => hg.block g (own_lt h.oo g q).2 (fun e => h.ne g e.symm q)), fun g q e => ?_, fun p hp => ⟨fun q => ?_, (h.nl p hp).2⟩, h.gw, Nat.le_trans h.gg hg.size⟩
 ·rcases hat with a | a
  ·exact h.ne g (a ▸ q) e
  ·rw [a] at q
   have := (own_lt h.oo g e).2
   have := Option.some.inj q
   omega
 ·rcases hat with a | a
  ·exact (h.nl p hp).1 (a ▸ q)
  ·rw [a] at q
   have h1 := (h.kq.row p hp).lt
   have := Option.some.inj q
   omega
theorem L2.swap (h : L2 w W G l P O k m PL OL) : L2 w W G l O P m k OL PL := ⟨h.kq, h.oo, h.po, fun g q e => h.ne g e q, fun p hp => ⟨(h.nl p hp).2, (h.nl p hp).1⟩, h.gw, h.gg⟩
theorem L2.grow2 {O' : Value} {OL' : List T3} {n : Nat} (h : L2 w W G l P O k m PL OL) (hO : W'.ownsRow G 26 3 O' n (rcs OL')) (hg : W.grownBy W' O.ownBlock) (hat : O'.ownBlock = O.ownBlock ∨ O'.ownBlock = some W.heap.size) : L2 w W' G l P O' k n PL OL' := (h.swap.grow1 hO hg hat).swap
theorem L2.put3 {g : Nat} {t : TypeId} {a b c : Value} (h : L2 w W G ((g, t, [a, b, c]) :: l) P O k m PL OL) (hg : w.heap.size ≤ g) (hl : ∀ p ∈ l, p.1 ≠ g) (x y z : Value) :
  L2 w (((W.setCell ⟨g, 0, none⟩ x).setCell ⟨g, 1, none⟩ y).setCell ⟨g, 2, none⟩ z) G ((g, t, [x, y, z]) :: l) P O k m PL OL := by
 have hb : ∀ j, j ≠ g → (((W.setCell ⟨g, 0, none⟩ x).setCell ⟨g, 1, none⟩ y).setCell ⟨g, 2, none⟩ z).heap[j]? = W.heap[j]? := fun j hj => by
  rw [Below.heap_setCell _ _ _ _ hj, Below.heap_setCell _ _ _ _ hj, Below.heap_setCell _ _ _ _ hj]
 have h1 := h.nl _ mm0
 refine ⟨h.kq.put3 hg hl x y z, own_keep h.po (fun j q => hb j (fun e => h1.1 (by rw [← e]; exact q))), own_keep h.oo (fun j q => hb j (fun e => h1.2 (by rw [← e]; exact q))), h.ne, fun p hp => ?_, h.gw, Nat.le_trans h.gg (by simp [World.setCell])⟩
 rcases List.mem_cons.1 hp with rfl | hp
 ·exact h1
 ·exact h.nl p (.tail _ hp)
theorem L2.start (h : Kq w W l) (hg : w.heap.size ≤ G) (hG : G ≤ W.heap.size) : L2 w W G l (.slice none 0 0) (.slice none 0 0) 0 0 [] [] :=
 ⟨h, own_nil _ _ _ _, own_nil _ _ _ _, fun g q => (by cases q), fun p _ => ⟨fun q => (by cases q), fun q => (by cases q)⟩, hg, hG⟩
theorem L2.blks {n : Nat} (h : L2 w W G l P O n n PL OL) (h0 : 0 < n) (hp : PL.length = n) (ho : OL.length = n) : ∃ gp cp sp go co so, P = .slice (some ⟨gp, 0, none⟩) n cp ∧ O = .slice (some ⟨go, 0, none⟩) n co ∧ Kq w W ((gp, 26, rcs PL ++ sp) :: (go, 26, rcs OL ++ so) :: l) ∧ gp ≠ go ∧ G ≤ gp ∧ G ≤ go ∧ (∀ p ∈ l, p.1 ≠ gp ∧ p.1 ≠ go) ∧ gp < W.heap.size ∧ go < W.heap.size := by
 obtain ⟨gp, cp, sp, rfl, hb, h1, h2⟩ := own_blkR h.po hp h0
 obtain ⟨go, co, so, rfl, hc, h3, h4⟩ := own_blkR h.oo ho h0
 refine ⟨gp, cp, sp, go, co, so, rfl, rfl, ⟨h.kq.ch, fun p hp => ?_⟩, fun e => h.ne gp rfl (by rw [e]; rfl), h1, h3, fun p hp => ⟨fun e => (h.nl p hp).1 (by rw [e]; rfl), fun e => (h.nl p hp).2 (by rw [e]; rfl)⟩, h2, h4⟩
 rcases List.mem_cons.1 hp with rfl | hp
 ·exact hb
 ·rcases List.mem_cons.1 hp with rfl | hp
  ·exact hc
  ·exact h.kq.row p hp
end
set_option maxRecDepth 100000 in
set_option maxHeartbeats 3200000 in
theorem C_rCmp4 {a b : Rat} {s t : Bool} {n d m e : List UInt8} (hn : n.length ≤ 400) (hd : d.length ≤ 400) (hm : m.length ≤ 400) (he : e.length ≤ 400) (ra : ratOf s n d = a) (rb : ratOf t m e = b) (hz : Szq (a - b) 400) {k : Int} (hk : sgr (a - b) = k) : Ans 28 #[Rv s n d, Rv t m e] (.int .i64 k) := fun w => by
 obtain ⟨s1, n1, d1, ic⟩ := Is.ex (a - b)
 obtain ⟨l1, l2⟩ := hz.len ic
 have H1 := Lib.hid (C_rSub (by omega) (by omega) (by omega) (by omega) ra rb ic)
 have H2 := Lib.hid (C_rSign (by omega) (by omega) (ratOf_is ic) hk)
 clear hn hd hm he ra rb ic hz l1 l2 hk
 have HB := Lib.hid (Box.two w #[.bool s, S n, S d] #[.bool t, S m, S e])
 obtain ⟨B, hB⟩ : ∃ B, w.heap.size = B := ⟨_, rfl⟩
 rw [hB] at HB
 obtain ⟨a0, a1, a2, b0, b1, b2⟩ := HB.out.cells2
 go_enter Tryz.func28, Tryz.ntmps28
 go_wp2_with fail
 refine (H1.out _).mono ?_
 rintro e w1 ⟨rfl, hC⟩
 have HB2 := Lib.hid (HB.out.on hC)
 clear hC HB a0 a1 a2 b0 b1 b2
 have HB := HB2
 clear HB2
 go_wp2_with fail
 refine (H2.out _).mono ?_
 rintro e w2 ⟨rfl, hC⟩
 have HB2 := Lib.hid (HB.out.on hC)
 clear hC HB
 have HB := HB2
 clear HB2
 go_wp2_with fail
 go_ret
 exact ⟨rfl, HB.out.ch⟩
end Go.Proofs.YtkeomlpecjjhiaaGreatDoor
