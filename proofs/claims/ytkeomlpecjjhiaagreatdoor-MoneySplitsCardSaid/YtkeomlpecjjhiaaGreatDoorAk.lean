/- Package money: greatest. -/
import Derived.RangeFuncNested
import Derived.RangeFuncCalls
import Derived.RangeFuncLeaves
import Derived.RangeFuncFrom
import Derived.Shelf.Abstract
import Derived.Shelf.RegionOpen
import Derived.OwnWalkIn
import Derived.TacticsInMore
import Derived.LoopNIn
import Derived.LoopIn
import Derived.BigRegionIn
import Derived.Sort.QuietIn
import Derived.Test.YtkeomlpecjjhiaaGreatDoorAi
namespace Go.Proofs.YtkeomlpecjjhiaaGreatDoor
open Go.RowKit
set_option maxRecDepth 100000
def OwI (n0 n1 : Nat) (A B : World) : Prop := (B.os = A.os ∧ B.tape = A.tape ∧ B.output = A.output) ∧ A.heap.size ≤ B.heap.size ∧ ∀ k, k < A.heap.size → (k < n0 ∨ n1 ≤ k) → B.heap[k]? = A.heap[k]?
def Kpt (n0 n1 : Nat) (A B : World) : Prop := A.heap.size ≤ B.heap.size ∧ ∀ k, n0 ≤ k → k < n1 → B.heap[k]? = A.heap[k]?
theorem OwI.refl (n0 n1 : Nat) (A : World) : OwI n0 n1 A A := ⟨⟨rfl, rfl, rfl⟩, Nat.le_refl _, fun _ _ _ => rfl⟩
theorem Kpt.refl (n0 n1 : Nat) (A : World) : Kpt n0 n1 A A := ⟨Nat.le_refl _, fun _ _ _ => rfl⟩
theorem Kpt.trans {n0 n1 : Nat} {A B C : World} (h : Kpt n0 n1 A B) (k : Kpt n0 n1 B C) : Kpt n0 n1 A C := ⟨Nat.le_trans h.1 k.1, fun i h1 h2 => (k.2 i h1 h2).trans (h.2 i h1 h2)⟩
theorem Kpt.put {n0 n1 : Nat} (A : World) {k : Nat} (o : Obj) (hk : k < n0) : Kpt n0 n1 A (A.putObj k o) := ⟨by simp, fun i h1 _ => World.putObj_heap_other (by omega)⟩
variable {F : Fence} {n : Nat} {P : Program}
def ownPost5 {σ : Type} (n0 n1 : Nat) (I : Nat → σ → World → Prop) (s : σ) (W : World) : Exit → Act → World → Prop
 | .normal, _, W' => KeepsOthers W W' ∧ Kpt n0 n1 W W' ∧ I n1 s W'
 | _, _, _ => False
theorem range_own {σ ε : Type} {g : Operand} {ps : Array Tmp} {assign body : Code} {Q : Exit → Act → World → Prop} {a : Act} {w : World}
  (hro : F.round = none) (h1 : 1 ≤ n) {gf : Nat} {lb : Array Value} (hg : a.eval g = .func (.func gf) #[] lb) (hFg : F.fn gf) (eg : ∀ args w, (callFunc gf args).run P w = .ok (.enter gf args) w)
  {n0 : Nat} (hn0 : w.heap.size + 2 = n0) {encs : ε → Array Value} (hps : ∀ x, (encs x).size = ps.size) {S : σ → Prop} {s0 : σ} {nx : ε → σ} {R : Nat → σ → ε → World → Prop}
  (I : Nat → σ → World → Prop)
  (hseq : ∀ (l : Nat) (J : Nat → σ → World → Prop) (W : World), W.heap.size = n0 → Below w.heap.size w W → (∀ n1 s A B, J n1 s A → OwI n0 n1 A B → J n1 s B) →
   (∀ n1 s x W1, n0 ≤ n1 → J n1 s W1 → R n1 s x W1 → YieldAt F (n - 1 - 1) P l (encs x) W1 fun e W' => e = .returned (.bool true) ∧ J n1 (nx x) W' ∧ Kpt n0 n1 W1 W') →
   (∀ W', Below n0 W W' → J W'.heap.size s0 W') →
   CallsIn F (n - 1) P gf (#[.func (.yield l) #[] #[]] ++ lb) W fun e W' => (∃ v, e = .returned v) ∧ ∃ n1 s, n0 ≤ n1 ∧ S s ∧ J n1 s W')
  (hI0 : ∀ W', Below w.heap.size w W' → I W'.heap.size s0 W') (hIo : ∀ n1 s A B, I n1 s A → OwI n0 n1 A B → I n1 s B)
  (hIp : ∀ n1 s W k o o', n0 ≤ n1 → I n1 s W → w.heap.size ≤ k → k < n0 → W.heap[k]? = some o → o.isCells = false → I n1 s (W.putObj k o'))
  (hRp : ∀ n1 s x W k o', R n1 s x W → k < n0 → R n1 s x (W.putObj k o'))
  (a₁ : ε → Act)
  (hassign : ∀ (l : Nat) (x : ε) (W : World) (K : Act → World → Prop), K (a₁ x) W →
   assign.wpIn (F.inRound l) (n - 1 - 1) P (Exit.then K (fun _ _ _ => False)) { tmps := (ps.zip (encs x)).foldl (fun t (p, v) => t.setIfInBounds p v) a.tmps, defers := [] } W)
  (hbody : ∀ (l n1 : Nat) (s : σ) (x : ε) (W : World), n0 ≤ n1 → I n1 s W → R n1 s x W → body.wpIn (F.inRound l) (n - 1 - 1) P (ownPost5 n0 n1 I (nx x) W) (a₁ x) W)
  (hdone : ∀ (D n1 : Nat) (s : σ) (W : World), w.heap.size ≤ D → D < n0 → n0 ≤ n1 → S s → I n1 s W → W.heap[D]? = some (.deferred (some [])) → Q .normal { a with defers := { target := .collected D, args := #[] } :: a.defers } W) :
  (Code.rangeFunc g ps assign body).wpIn F n P Q a w := by
 subst hn0
 refine wpIn_rangeFunc fun fn hfn => ?_
 rw [hro]
 obtain ⟨rec, hrec⟩ : ∃ rec : LoopState → Option Code → Loop, rec = fun st pe => { state := st, pending := pe, fn, tmps := a.tmps, params := ps, assign, body, defers := w.heap.size } := ⟨_, rfl⟩
 obtain ⟨W1, hW1⟩ : ∃ W1, (w.alloc (.deferred (some []))).alloc (.loop (rec .ready none)) = W1 := ⟨_, rfl⟩
 have hL1 : W1.heap[w.heap.size + 1]? = some (.loop (rec .ready none)) := by
  rw [← hW1]; have := World.alloc_heap_new (w.alloc (.deferred (some []))) (.loop (rec .ready none)); rwa [World.size_alloc] at this
 have hK1 : W1.heap[w.heap.size]? = some (.deferred (some [])) := by
  rw [← hW1]; exact (Below.heap_alloc _ _ _ (by simp)).trans (World.alloc_heap_new w _)
 have hS1 : W1.heap.size = w.heap.size + 2 := by rw [← hW1]; simp
 have hb1 : Below w.heap.size w W1 := by rw [← hW1]; exact ((Below.refl _ w).alloc (Nat.le_refl _) _).alloc (by simp) _
 refine ⟨w.heap.size + 1, [{ target := .collected w.heap.size, args := #[] }], W1, { target := .fn (.func gf) lb, args := #[.func (.yield (w.heap.size + 1)) #[] #[]] }, W1, gf,
  #[.func (.yield (w.heap.size + 1)) #[] #[]] ++ lb, W1, ?_, ?_, ?_, ?_, fun _ => h1, ?_⟩
 ·rw [← hW1, hrec]; exact run_enterLoop_outer _ _ _ _ _
 ·simp only [resolve, hg]
  simp [go_sem]
 ·intro f' hf'; simp [Target.leads] at hf'; subst hf'; exact hFg
 ·simp [invoke, go_sem, eg]
 ·refine (hseq (w.heap.size + 1) (fun n1 s W => w.heap.size + 2 ≤ n1 ∧ I n1 s W ∧ W.heap[w.heap.size + 1]? = some (.loop (rec .ready none)) ∧ W.heap[w.heap.size]? = some (.deferred (some []))) W1 hS1 hb1 ?_ ?_ ?_).mono ?_
  ·rintro n1 s A B ⟨hn, hi, hl, hk⟩ ho
   have e1 := (Array.getElem?_eq_some_iff.1 hl).1
   exact ⟨hn, hIo n1 s A B hi ho, (ho.2.2 _ e1 (.inl (by omega))).trans hl, (ho.2.2 _ (by omega) (.inl (by omega))).trans hk⟩
  ·rintro n1 s x W hn1 ⟨_, hi, hl, hk⟩ hr
   have hlt : w.heap.size + 1 < W.heap.size := (Array.getElem?_eq_some_iff.1 hl).1
   have hy := run_yield (P := P) (args := encs x) hl (by rw [hrec]; exact hps x)
   rw [hrec] at hy
   refine ⟨fn, _, assign, body, hy, roundIn_of_wpIn hfn (hassign _ x W _ ⟨_, run_beginRound hl (by rw [hrec]), ?_⟩)⟩
   have hl2 : (W.putObj (w.heap.size + 1) (.loop { rec .ready none with state := .busy })).heap[w.heap.size + 1]? = some (.loop { rec .ready none with state := .busy }) := World.putObj_heap_same hlt
   have hk2 : (W.putObj (w.heap.size + 1) (.loop { rec .ready none with state := .busy })).heap[w.heap.size]? = some (.deferred (some [])) := (World.putObj_heap_other (by omega)).trans hk
   refine wpIn_mono (hbody _ n1 s x _ hn1 (hIp n1 s W (w.heap.size + 1) _ _ hn1 hi (by omega) (by omega) hl rfl) (hRp n1 s x W _ _ hr (by omega))) ?_
   rintro e a3 W3 hp
   cases e with
   | normal =>
    obtain ⟨hk3, hkp3, hi3⟩ := hp
    have hl3 := hk3.same _ _ hl2 rfl
    have hend := run_endRound (P := P) none hl3
    rw [hrec] at hend hl3
    refine ⟨_, _, hend, rfl, ⟨hn1, hIp n1 _ W3 (w.heap.size + 1) _ _ hn1 hi3 (by omega) (by omega) hl3 rfl, ?_, (World.putObj_heap_other (by omega)).trans (hk3.same _ _ hk2 rfl)⟩, ((Kpt.put W _ (by omega)).trans hkp3).trans (Kpt.put W3 _ (by omega))⟩
    rw [hrec]
    exact World.putObj_heap_same (Array.getElem?_eq_some_iff.1 hl3).1
   | ret => exact hp.elim
   | exit id => exact hp.elim
   | goto t => exact hp.elim
   | panic ch => exact hp.elim
   | outgrown => exact hp.elim
  ·intro W' hW'
   have e1 := (Array.getElem?_eq_some_iff.1 hL1).1
   refine ⟨by have := hW'.size; omega, hI0 W' (hb1.trans (hW'.mono (by omega))), (hW'.block _ (by omega)).trans hL1, (hW'.block _ (by omega)).trans hK1⟩
  ·rintro e W2 ⟨⟨v, rfl⟩, n1, s, hn1, hS, _, hi, hl, hk⟩
   exact ⟨none, _, by have := run_endLoop (P := P) hl (by rw [hrec]; simp); rw [hrec] at this; exact this, hdone _ n1 s _ (Nat.le_refl _) (by omega) hn1 hS (hIp n1 s W2 (w.heap.size + 1) _ _ hn1 hi (by omega) (by omega) hl rfl) ((World.putObj_heap_other (by omega)).trans hk)⟩
end Go.Proofs.YtkeomlpecjjhiaaGreatDoor
namespace Go.Proofs.YtkeomlpecjjhiaaGreatDoor
open Go.RowKit Go.Shelf
attribute [local go_sem] Oper.semAt_some
structure Fi (w wr : World) (G n k : Nat) : Prop where
 cells : ∃ cs : List Value, Blk wr G 3 cs ∧ cs.length = n ∧ cs.take k = (List.range k).map fun i : Nat => .int .i64 (i : Int)
 ch : Ch w.heap.size none1 w wr
 size : wr.heap.size = G + 1
theorem Fi.start {w : World} {G : Nat} (hG : w.heap.size = G) (n : Nat) : Fi w (w.alloc (.cells (madeCells #[.int .i64 0] n) 3 (0, 0))) G n 0 :=
 ⟨⟨_, hG ▸ Blk.new w _ _, by rw [Array.length_toList, size_madeCells], by rw [List.take_zero]; rfl⟩, (Ch.refl _ _ _).alloc (Nat.le_refl _) _, by rw [World.size_alloc, hG]⟩
theorem Fi.slot {w wr : World} {G n k : Nat} (h : Fi w wr G n k) (hk : k < n) : (∃ x, wr.cell? ⟨G, k, none⟩ = some x) ∧ wr.frozen? ⟨G, k, none⟩ = false := by
 obtain ⟨cs, hb, hl, _⟩ := h.cells
 exact ⟨⟨cs[k]'(by omega), by rw [hb.cell]; exact List.getElem?_eq_getElem _⟩, hb.frozen k⟩
theorem Fi.put {w wr : World} {G n k : Nat} (h : Fi w wr G n k) (hG : w.heap.size = G) (hk : k < n) : Fi w (wr.setCell ⟨G, k, none⟩ (.int .i64 (k : Int))) G n (k + 1) := by
 obtain ⟨cs, hb, hl, ht⟩ := h.cells
 refine ⟨⟨_, hb.set k _, by rw [List.length_set]; exact hl, ?_⟩, ⟨h.ch.os, h.ch.tape, h.ch.output, by simp [World.setCell]; exact h.ch.size, fun j hj hn => ?_⟩, by simp [World.setCell]; exact h.size⟩
 ·rw [List.range_succ, List.map_append, ← ht, List.take_add_one, List.take_set, List.getElem?_set_self (by omega)]
  rw [List.set_eq_of_length_le (by rw [List.length_take]; omega)]
  rfl
 ·rw [Below.heap_setCell _ _ _ _ (show j ≠ G by omega)]
  exact h.ch.block j hj hn
theorem Fi.done {w wr : World} {G n : Nat} (h : Fi w wr G n n) : Blk wr G 3 ((List.range n).map fun i : Nat => .int .i64 (i : Int)) := by
 obtain ⟨cs, hb, hl, ht⟩ := h.cells
 refine hb.cast ?_
 rw [← ht, List.take_of_length_le (by omega)]
structure Pl (wr : World) (n0 n1 g : Nat) (l : List Nat) : Prop where
 cell : ∀ j i : Nat, l[j]? = some i → wr.cell? ⟨g, j, none⟩ = some (.int .i64 (i : Int))
 lo : n0 ≤ g
 hi : g < n1
theorem Pl.kpt {wr W : World} {n0 n1 g : Nat} {l : List Nat} (h : Pl wr n0 n1 g l) (hk : Kpt n0 n1 wr W) : Pl W n0 n1 g l :=
 ⟨fun j i e => by rw [World.cell?_of_block (w := wr) (a := ⟨g, j, none⟩) (hk.2 _ h.lo h.hi)]; exact h.cell j i e, h.lo, h.hi⟩
theorem OwI.heap {n0 n1 : Nat} {A B C : World} (h : OwI n0 n1 A B) (e : C.heap = B.heap) (q : C.os = B.os ∧ C.tape = B.tape ∧ C.output = B.output) : OwI n0 n1 A C := ⟨⟨q.1.trans h.1.1, q.2.1.trans h.1.2.1, q.2.2.trans h.1.2.2⟩, by rw [e]; exact h.2.1, fun k hk hh => by rw [e]; exact h.2.2 k hk hh⟩
set_option maxHeartbeats 4000000 in
theorem greatest1_in (n : Nat) (hn : 2 ≤ n) (l : Nat) (L : List (List UInt8)) (m c cap : Nat) (p : Option Addr) (Bn Bc n0 : Nat) (W : World) (J : Nat → Nat → World → Prop)
  (hn0 : W.heap.size = n0) (hBn : W.cell? ⟨Bn, 0, none⟩ = some (.slice p (m + 1) cap)) (hBl : Bn < n0) (hBc : W.cell? ⟨Bc, 0, none⟩ = some (.int .i64 (c : Int))) (hBm : Bc < n0) (hv : Vs W p (m + 1) (L.map S)) (hc : c ≤ m + 1) (hm : m ≤ 18) (hsz : ∀ x ∈ L, x.length ≤ 900)
  (hJ : ∀ n1 s A B, J n1 s A → OwI n0 n1 A B → J n1 s B)
  (hY : ∀ n1 s i W1, n0 ≤ n1 → J n1 s W1 → s < c → (srv (restOf L) (m + 1))[s]? = some i → YieldAt Fence.wide (n - 1) Tryz.prog l #[.int .i64 (i : Int)] W1 fun e W' => e = .returned (.bool true) ∧ J n1 (s + 1) W' ∧ Kpt n0 n1 W1 W')
  (h0 : ∀ W', Below n0 W W' → J W'.heap.size 0 W') :
  CallsIn Fence.wide n Tryz.prog 147 #[.func (.yield l) #[] #[], .pointer (some ⟨Bn, 0, none⟩), .pointer (some ⟨Bc, 0, none⟩)] W fun e W' => (∃ v, e = .returned v) ∧ ∃ n1, n0 ≤ n1 ∧ J n1 c W' := by
 have HJ := Lib.hid hJ
 have HY := Lib.hid hY
 have H0 := Lib.hid h0
 have HV := Lib.hid hv
 have HN := Lib.hid hn0
 have HS := Lib.hid (fun (w : World) (hB : w.cell? ⟨Bn, 0, none⟩ = some (.slice p (m + 1) cap)) (hBl : Bn < w.heap.size) (hv : Vs w p (m + 1) (L.map S)) (hBn : Bn ≠ n0) (hvg : ∀ a, p = some a → a.block ≠ n0) (hP : Blk w n0 3 ((List.range (m + 1)).map fun i : Nat => .int .i64 (i : Int))) =>
  (callsIn_wide (n := n - 1)).2 (ordered_any L p m cap Bn n0 (m + 1) 3 w hB hBl hv hBn hvg hP hm hsz))
 have hmk : ∀ W : World, (Instr.makeSlice 54 (.int .i64 ((m + 1 : Nat) : Int)) (.int .i64 ((m + 1 : Nat) : Int))).run Tryz.prog W = .ok (.slice (some ⟨W.heap.size, 0, none⟩) (m + 1) (m + 1)) (W.alloc (.cells (madeCells #[.int .i64 0] (m + 1)) 3)) := fun W => by
  have hinf : (Tryz.prog.info? 3).map (fun i => (i.zero, i.size, i.bytes)) = some (some (.int .i64 0), 1, 8) := by kernel_rfl
  obtain ⟨i0, hi, hz0, hz1, hz2⟩ := info_parts hinf
  have h := run_make (P := Tryz.prog) W 54 3 i0 (.int .i64 0) Tryz.underlying54 hi hz0 .i64 .i64 ((m + 1 : Nat) : Int) ((m + 1 : Nat) : Int) (by omega) (Int.le_refl _) (by rw [hz2]; omega) (by omega)
  rw [hz1] at h
  simp only [Int.toNat_natCast, Nat.mul_one] at h
  exact h
 have hvg : ∀ a, p = some a → a.block ≠ n0 := fun a ha => by
  obtain ⟨_, t, pre, post, hb, _⟩ := hv.at' a ha
  have := hb.lt
  omega
 have HVG := Lib.hid hvg
 clear hJ hY h0 hv hvg hn0 hsz
 have h1 : 1 ≤ n := by omega
 obtain ⟨N, hN⟩ : ∃ N, m + 1 = N := ⟨_, rfl⟩
 rw [hN] at hBn hmk HV HS HY hc
 refine callsIn_of_wp Tryz.func147 rfl trivial ?_ rfl
 simp only [Tryz.ntmps147, List.size_toArray, List.length_cons, List.length_nil, Nat.reduceAdd, Nat.reduceSub, Array.replicate_succ, Array.replicate_zero, List.push_toArray, List.append_toArray, List.nil_append, List.cons_append]
 gi_wp2
 rw [HN.out]
 gi_loopw [13] (fun i wr => ∃ k : Nat, k ≤ N ∧ i = .int .i64 k ∧ Fi W wr n0 N k) (fun i _ => N - (intOf i).toNat)
 case atStart => exact ⟨0, Nat.zero_le _, rfl, Fi.start HN.out N⟩
 case round =>
  obtain ⟨k, hk, rfl, hrel⟩ := hrel
  have HR := Lib.hid hrel
  clear hrel
  by_cases hlt : k < N
  ·obtain ⟨⟨x0, e0⟩, f0⟩ := HR.out.slot hlt
   gi_wp2
   go_roundw
   case rel => exact ⟨k + 1, by omega, by go_num, HR.out.put HN.out hlt⟩
   case measure => simp [intOf]; omega
  ·have hkn : k = N := by omega
   subst hkn
   gi_wp2
   have HF := Lib.hid HR.out.ch
   have hb1 : wr.cell? ⟨Bn, 0, none⟩ = some (.slice p k cap) := by rw [HF.out.cell (p := ⟨Bn, 0, none⟩) (by rw [HN.out]; exact hBl) (fun q => q)]; exact hBn
   have hg1 : wr.heap.size = n0 + 1 := HR.out.size
   refine ⟨trivial, ?_⟩
   refine (HS.out wr hb1 (by omega) (HV.out.ch HF.out) (by omega) HVG.out HR.out.done).mono ?_
   rintro e w2 ⟨rfl, hpl, hC⟩
   have hC3 : Ch W.heap.size none1 W w2 := HF.out.step hC (by rw [HN.out]; omega) (fun j hj q => by have := HN.out; omega)
   obtain ⟨n1, hn1⟩ : ∃ n1, w2.heap.size = n1 := ⟨_, rfl⟩
   have hle : n0 + 1 ≤ n1 := by have := hC.size; omega
   have hbc : w2.cell? ⟨Bc, 0, none⟩ = some (.int .i64 (c : Int)) := by rw [hC3.cell (p := ⟨Bc, 0, none⟩) (by rw [HN.out]; exact hBm) (fun q => q)]; exact hBc
   have hj0 : J n1 0 w2 := by
    have hh := hC3.below
    rw [HN.out] at hh
    have := H0.out w2 hh
    rwa [hn1] at this
   have HPL := Lib.hid (⟨hpl, Nat.le_refl _, by omega⟩ : Pl w2 n0 n1 n0 (srv (restOf L) k))
   have HJ0 := Lib.hid hj0
   have HLE := Lib.hid (show n0 ≤ n1 by omega)
   clear hj0 hpl hC hC3 hb1 hg1 hn1 hle HF HR HS hmk hlt hk
   have hcb : (0 : Int) ≤ (c : Int) ∧ (c : Int) ≤ (k : Int) := by omega
   gi_wp2
   gi_loopw [28] (fun i wr => ∃ s : Nat, s ≤ c ∧ i = .int .i64 s ∧ Pl wr n0 n1 n0 (srv (restOf L) k) ∧ J n1 s wr) (fun i _ => c - (intOf i).toNat)
   case atStart => exact ⟨0, Nat.zero_le _, rfl, HPL.out, HJ0.out⟩
   case round =>
    clear HPL HJ0
    obtain ⟨s, hs, rfl, hp, hj⟩ := hrel
    have HP := Lib.hid hp
    have HJR := Lib.hid hj
    clear hp hj
    by_cases hlt : s < c
    ·obtain ⟨i, hi⟩ : ∃ i, (srv (restOf L) k)[s]? = some i := ⟨(srv (restOf L) k)[s]'(by rw [srv_len]; omega), List.getElem?_eq_getElem _⟩
     have hc1 := HP.out.cell s i hi
     obtain ⟨fn, tmps, assign, body, hyy, hRR⟩ := HY.out n1 s i wr HLE.out HJR.out hlt hi
     clear hi
     gi_wp2
     refine hRR.mono ?_
     rintro e W4 ⟨rfl, hJ4, hk4⟩
     have HJ4 := Lib.hid hJ4
     have HP4 := Lib.hid (HP.out.kpt hk4)
     clear hyy hJ4 hk4 HP HJR hc1
     gi_wp2
     go_roundw
     case rel => exact ⟨s + 1, by omega, by go_num, HP4.out, HJ4.out⟩
     case measure => simp [intOf]; omega
    ·have hsc : s = c := by omega
     subst hsc
     gi_wp2
     go_end0
     exact ⟨⟨_, rfl⟩, n1, HLE.out, HJR.out⟩
end Go.Proofs.YtkeomlpecjjhiaaGreatDoor
namespace Go.Proofs.YtkeomlpecjjhiaaGreatDoor
open Go.RowKit
set_option maxHeartbeats 3200000 in
theorem greatest_any (p : Option Addr) (n cap : Nat) (c : Int) (w : World) :
  Calls Tryz.prog 106 #[.slice p n cap, .int .i64 c] w fun e w' => e = .returned (.func (.func 147) #[] #[.pointer (some ⟨w.heap.size, 0, none⟩), .pointer (some ⟨w.heap.size + 1, 0, none⟩)]) ∧
   w' = (w.alloc (.cells #[.slice p n cap] 66)).alloc (.cells #[.int .i64 c] 3) := by
 go_enter Tryz.func106, Tryz.ntmps106
 go_wp2_with fail
 go_ret
 exact ⟨rfl, rfl⟩
end Go.Proofs.YtkeomlpecjjhiaaGreatDoor
