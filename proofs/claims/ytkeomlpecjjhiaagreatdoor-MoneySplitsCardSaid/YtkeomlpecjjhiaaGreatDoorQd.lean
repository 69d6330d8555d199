/- Package ratio's counted, sign, opposite. -/
import Derived.Test.YtkeomlpecjjhiaaGreatDoorQc
namespace Go.Proofs.YtkeomlpecjjhiaaGreatDoor
open Go.RowKit
set_option maxRecDepth 100000
theorem Tb.cells {w : World} (h : Tb w) : w.cell? ⟨2, 0, none⟩ = some (.bool false) ∧ w.cell? ⟨2, 1, none⟩ = some (S []) ∧ w.cell? ⟨2, 2, none⟩ = some (S [1]) :=
 ⟨h.zero.cell 0, h.zero.cell 1, h.zero.cell 2⟩
theorem Tb.size {w : World} (h : Tb w) : 2 < w.heap.size := h.zero.lt
theorem Box.onR {w W W' : World} {g : Nat} {rows : List (List Value)} {R : Nat → Prop} (h : Box w W g rows) (hC : Ch W.heap.size R W W') (h1 : ∀ i r, rows[i]? = some r → ¬ R (g + i)) (h2 : ∀ k, k < w.heap.size → ¬ R k) : Box w W' g rows :=
 ⟨h.ch.step hC (Nat.le_refl _) (fun k hk q => h2 k hk q), h.ge, fun i r hr => hC.blk (h.row i r hr) (h.row i r hr).lt (h1 i r hr)⟩
def Wit (w : World) (g : Nat) (b : Bool) (v : Value) (e : Ending) (w' : World) : Prop := e = .returned v ∧ Blk w' g 97 [.bool b] ∧ Ch w.heap.size (· = g) w w'
set_option maxHeartbeats 1600000 in
theorem wit_yes (g : Nat) (b : Bool) (s : Bool) (n d : List UInt8) (w : World) (hn : n.length ≤ 1000) (hd : d.length ≤ 1000) (ht : Tb w) (hg : Blk w g 97 [.bool b]) (hr : rightR s n d = true) :
  Calls Tryz.prog 90 #[.pointer (some ⟨g, 0, none⟩), Rv s n d] w (Wit w g b (Rv s n d)) := by
 have H1 := Lib.hid (C_Right hn hd hr)
 have HB := Lib.hid (Box.two w #[.bool s, S n, S d] #[.bool false, S [], S []])
 have HT := Lib.hid ht
 have HG := Lib.hid hg
 clear ht hg hr
 obtain ⟨B, hB⟩ : ∃ B, w.heap.size = B := ⟨_, rfl⟩
 rw [hB] at HB
 go_enter Tryz.func90, Tryz.ntmps90
 go_wp2_with fail
 refine (H1.out _ (HT.out.ch HB.out.ch)).mono ?_
 rintro e w1 ⟨rfl, hC1⟩
 have HB1 := Lib.hid (HB.out.on hC1)
 clear hC1 HB
 obtain ⟨a0, a1, a2⟩ := HB1.out.cells1
 obtain ⟨e0, e1, e2, f0, f1, f2⟩ := HB1.out.store (i := 1) rfl
 go_wp2_with fail
 have hp := HB1.out.put (i := 1) rfl (.bool s) (S n) (S d)
 refine bodyPost_ret (results_cell_row (P := Tryz.prog) rfl _ _ (B + 1) 26 _ (0, 0) _ rfl hp.1 Tryz.underlying26 rfl (by kernel_rfl)) rfl ?_
 have hgl := HG.out.lt
 refine ⟨rfl, hp.2.blk HG.out hgl (fun q => q), hp.2.mono (Nat.le_refl _) (fun _ _ q => q.elim)⟩
set_option maxHeartbeats 1600000 in
theorem wit_no (g : Nat) (b : Bool) (s : Bool) (n d : List UInt8) (w : World) (hn : n.length ≤ 1000) (hd : d.length ≤ 1000) (ht : Tb w) (hg : Blk w g 97 [.bool b]) (hr : rightR s n d = false) (hg0 : g ≠ 2) :
  Calls Tryz.prog 90 #[.pointer (some ⟨g, 0, none⟩), Rv s n d] w (Wit w g true (Rv false [] [1])) := by
 have H1 := Lib.hid (C_Right hn hd hr)
 have HB := Lib.hid (Box.two w #[.bool s, S n, S d] #[.bool false, S [], S []])
 have HT := Lib.hid ht
 have HG := Lib.hid hg
 clear ht hg hr
 obtain ⟨B, hB⟩ : ∃ B, w.heap.size = B := ⟨_, rfl⟩
 rw [hB] at HB
 go_enter Tryz.func90, Tryz.ntmps90
 go_wp2_with fail
 refine (H1.out _ (HT.out.ch HB.out.ch)).mono ?_
 rintro e w1 ⟨rfl, hC1⟩
 have HB1 := Lib.hid (HB.out.on hC1)
 clear hC1 HB
 obtain ⟨a0, a1, a2⟩ := HB1.out.cells1
 obtain ⟨z0, z1, z2⟩ := (HT.out.ch HB1.out.ch).cells
 obtain ⟨e0, e1, e2, f0, f1, f2⟩ := HB1.out.store (i := 1) rfl
 have hg1 := HB1.out.ch.blk HG.out HG.out.lt (fun q => q)
 have k0 := hg1.cell 0
 have k1 := hg1.frozen 0
 have hgB : g ≠ B + 1 := by have := HG.out.lt; omega
 have hgB2 : ¬ (B + 1 = g) := by omega
 have hg3 : ¬ (2 = g) := fun e => hg0 e.symm
 go_wp2_with fail
 have hr1 := HB1.out.row 1 _ rfl
 have hr2 := (((hr1.set_other hgB.symm 0 (.bool true)).set 0 (.bool false)).set 1 (S [])).set 2 (S [1])
 have hw2 := (((hg1.set 0 (.bool true)).set_other hgB 0 (.bool false)).set_other hgB 1 (S [])).set_other hgB 2 (S [1])
 have hC0 : Ch w.heap.size (· = g) w w1 := HB1.out.ch.mono (Nat.le_refl _) (fun _ _ q => q.elim)
 have hle : w.heap.size ≤ B + 1 := by omega
 have hCC := (((hC0.setCell (p := ⟨g, 0, none⟩) (.inr rfl) (.bool true)).setCell (p := ⟨B + 1, 0, none⟩) (.inl hle) (.bool false)).setCell (p := ⟨B + 1, 1, none⟩) (.inl hle) (S [])).setCell (p := ⟨B + 1, 2, none⟩) (.inl hle) (S [1])
 refine bodyPost_ret (results_cell_row (P := Tryz.prog) rfl _ _ (B + 1) 26 _ (0, 0) _ rfl hr2 Tryz.underlying26 rfl (by kernel_rfl)) rfl ?_
 exact ⟨rfl, hw2, hCC⟩
theorem ratOf_no {s : Bool} {n d : List UInt8} (h : rightR s n d = false) : ratOf s n d = 0 := by
 unfold ratOf
 rw [h]
 rfl
theorem wit_any (g : Nat) (b : Bool) {s : Bool} {n d : List UInt8} {s' : Bool} {n' d' : List UInt8} (w : World) (hn : n.length ≤ 1000) (hd : d.length ≤ 1000) (ht : Tb w) (hg : Blk w g 97 [.bool b]) (hg0 : g ≠ 2) (hi : Is (ratOf s n d) s' n' d') :
  Calls Tryz.prog 90 #[.pointer (some ⟨g, 0, none⟩), Rv s n d] w (Wit w g (b || !rightR s n d) (Rv s' n' d')) := by
 cases hr : rightR s n d with
 | true =>
  have h1 := rightR_is hr
  obtain ⟨e1, e2, e3⟩ := hi
  obtain ⟨k1, k2, k3⟩ := h1
  rw [k1] at e1; rw [k2] at e2; rw [k3] at e3
  subst e1 e2 e3
  simpa using wit_yes g b s n d w hn hd ht hg hr
 | false =>
  rw [ratOf_no hr] at hi
  obtain ⟨e1, e2, e3⟩ := hi
  obtain ⟨k1, k2, k3⟩ := Is.zero
  rw [k1] at e1; rw [k2] at e2; rw [k3] at e3
  subst e1 e2 e3
  simpa using wit_no g b s n d w hn hd ht hg hr hg0
set_option maxHeartbeats 1600000 in
theorem C_counted {s : Bool} {n d : List UInt8} {s' : Bool} {n' d' : List UInt8} (hn : n.length ≤ 1000) (hd : d.length ≤ 1000) (hi : Is (ratOf s n d) s' n' d') : AnsT 108 #[Rv s n d] (Rv s' n' d') := fun w ht => by
 have HB := Lib.hid (Box.two w #[.bool s, S n, S d] #[.bool false, S [], S []])
 have HT := Lib.hid ht
 have hz := ht.size
 clear ht
 obtain ⟨B, hB⟩ : ∃ B, w.heap.size = B := ⟨_, rfl⟩
 rw [hB] at HB hz
 go_enter Tryz.func108, Tryz.ntmps108
 go_wp2_with fail
 have hs2 : ((w.alloc (.cells #[.bool s, S n, S d] 26 (0, 0))).alloc (.cells #[.bool false, S [], S []] 26 (0, 0))).heap.size = B + 2 := by rw [World.size_alloc, World.size_alloc, hB]
 have hg := Blk.new ((w.alloc (.cells #[.bool s, S n, S d] 26 (0, 0))).alloc (.cells #[.bool false, S [], S []] 26 (0, 0))) #[.bool false] 97
 rw [hs2] at hg
 have HB1 := Lib.hid (HB.out.on (Ch.alloc (Ch.refl _ none1 _) (Nat.le_refl _) (.cells #[.bool false] 97 (0, 0))))
 clear HB hs2
 have hw := wit_any (B + 2) false _ hn hd (HT.out.ch HB1.out.ch) hg (by omega) hi
 have HW := Lib.hid hw
 clear hw hg
 refine HW.out.mono ?_
 rintro e w1 ⟨rfl, -, hC1⟩
 have HB := Lib.hid (HB1.out.onR hC1 (fun i r hr q => by
  rcases i with _ | _ | i
  ·omega
  ·omega
  ·simp at hr) (fun k hk q => by omega))
 clear hC1 HB1 HW
 obtain ⟨e0, e1, e2, f0, f1, f2⟩ := HB.out.store (i := 1) rfl
 go_wp2_with fail
 have hp := HB.out.put (i := 1) rfl (.bool s') (S n') (S d')
 refine bodyPost_ret (results_cell_row (P := Tryz.prog) rfl _ _ (B + 1) 26 _ (0, 0) _ rfl hp.1 Tryz.underlying26 rfl (by kernel_rfl)) rfl ?_
 exact ⟨rfl, hp.2⟩
theorem Is.sgr {q : Rat} {s : Bool} {n d : List UInt8} (h : Is q s n d) : sgr q = if n = [] then 0 else if s then -1 else 1 := by
 unfold Go.Proofs.YtkeomlpecjjhiaaGreatDoor.sgr
 split
 ·rename_i e
  rw [h.nil.1 e]
  rfl
 ·rename_i e
  have h0 : q.num ≠ 0 := fun e0 => e (h.nil.2 (Rat.num_eq_zero.1 e0))
  cases s with
  | true =>
   have := of_decide_eq_true h.sgn
   exact Int.sign_eq_neg_one_of_neg this
  | false =>
   have := of_decide_eq_false h.sgn
   exact Int.sign_eq_one_of_pos (by omega)
theorem Is.opp {q : Rat} {s : Bool} {n d : List UInt8} (h : Is q s n d) : Is (-q) (!s && !n.isEmpty) n d := by
 refine ⟨?_, by rw [Rat.neg_num, Int.natAbs_neg]; exact h.num, by rw [Rat.neg_den]; exact h.den⟩
 rw [Rat.neg_num]
 have h1 := h.nil
 rw [← Rat.num_eq_zero] at h1
 have h2 := h.sgn
 cases n with
 | nil =>
  have := h1.1 rfl
  rw [this]
  simp
 | cons b m =>
  have h0 : q.num ≠ 0 := fun e => by have := h1.2 e; simp at this
  cases s with
  | true =>
   have := of_decide_eq_true h2
   simp
   omega
  | false =>
   have := of_decide_eq_false h2
   simp
   omega
set_option maxHeartbeats 1600000 in
theorem C_sign {q : Rat} {s : Bool} {n d : List UInt8} {k : Int} (hi : Is q s n d) (hk : sgr q = k) : AnsT 150 #[Rv s n d] (.int .i64 k) := fun w ht => by
 have HB := Lib.hid (Box.one w #[.bool s, S n, S d])
 rw [hi.sgr] at hk
 have h0 := hi.nil
 have hI := Lib.hid hi
 obtain ⟨z0, z1, z2⟩ := (ht.ch HB.out.ch).cells
 clear hi ht
 obtain ⟨B, hB⟩ : ∃ B, w.heap.size = B := ⟨_, rfl⟩
 rw [hB] at HB
 obtain ⟨a0, a1, a2⟩ := HB.out.cells1
 go_enter Tryz.func150, Tryz.ntmps150
 by_cases hn0 : n = []
 ·rw [if_pos hn0] at hk
  have hq := h0.1 hn0
  subst hq
  obtain ⟨e1, e2, e3⟩ := hI.out
  obtain ⟨k1, k2, k3⟩ := Is.zero
  rw [k1] at e1; rw [k2] at e2; rw [k3] at e3
  subst e1 e2 e3 hk
  clear h0
  go_wp2_with fail
  go_ret
  exact ⟨rfl, HB.out.ch⟩
 ·rw [if_neg hn0] at hk
  have e3 := beq_no hn0
  clear h0 hn0
  cases s with
  | true =>
   obtain rfl : -1 = k := by simpa using hk
   clear hk
   go_wp2_with fail
   go_ret
   exact ⟨rfl, HB.out.ch⟩
  | false =>
   obtain rfl : 1 = k := by simpa using hk
   clear hk
   go_wp2_with fail
   go_ret
   exact ⟨rfl, HB.out.ch⟩
end Go.Proofs.YtkeomlpecjjhiaaGreatDoor
