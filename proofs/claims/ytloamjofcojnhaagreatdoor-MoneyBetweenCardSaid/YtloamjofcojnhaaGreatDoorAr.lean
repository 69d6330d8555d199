/- A range over a function whose iterator keeps state of its own in cells: the blocks from n0 to n1 are the iterator's. (XSr with another name: nat has an Own, too.) -/
import Derived.RangeFuncNested
import Derived.RangeFuncCalls
import Derived.RangeFuncLeaves
import Derived.RangeFuncFrom
namespace Go.Proofs.YtloamjofcojnhaaGreatDoor
open Go.RowKit
/-- An iterator's own step: blocks that lay stay, but for those from n0 to n1. -/
def OwI (n0 n1 : Nat) (A B : World) : Prop := (B.os = A.os ∧ B.tape = A.tape ∧ B.output = A.output) ∧ A.heap.size ≤ B.heap.size ∧ ∀ k, k < A.heap.size → (k < n0 ∨ n1 ≤ k) → B.heap[k]? = A.heap[k]?
/-- What a round keeps: the blocks from n0 to n1. -/
def Kpt (n0 n1 : Nat) (A B : World) : Prop := A.heap.size ≤ B.heap.size ∧ ∀ k, n0 ≤ k → k < n1 → B.heap[k]? = A.heap[k]?
theorem OwI.refl (n0 n1 : Nat) (A : World) : OwI n0 n1 A A := ⟨⟨rfl, rfl, rfl⟩, Nat.le_refl _, fun _ _ _ => rfl⟩
theorem Kpt.refl (n0 n1 : Nat) (A : World) : Kpt n0 n1 A A := ⟨Nat.le_refl _, fun _ _ _ => rfl⟩
theorem Kpt.trans {n0 n1 : Nat} {A B C : World} (h : Kpt n0 n1 A B) (k : Kpt n0 n1 B C) : Kpt n0 n1 A C := ⟨Nat.le_trans h.1 k.1, fun i h1 h2 => (k.2 i h1 h2).trans (h.2 i h1 h2)⟩
theorem Kpt.put {n0 n1 : Nat} (A : World) {k : Nat} (o : Obj) (hk : k < n0) : Kpt n0 n1 A (A.putObj k o) := ⟨by simp, fun i h1 _ => World.putObj_heap_other (by omega)⟩
variable {F : Fence} {n : Nat} {P : Program}
def ownPost5 {σ : Type} (n0 n1 : Nat) (I : Nat → σ → World → Prop) (s : σ) (W : World) : Exit → Act → World → Prop
  | .normal, _, W' => KeepsOthers W W' ∧ Kpt n0 n1 W W' ∧ I n1 s W'
  | _, _, _ => False
theorem range_own {σ ε : Type} {g : Operand} {ps : Array Tmp} {assign body : Code} {Q : Exit → Act → World → Prop} {a : Act} {w : World}
    (hro : F.round = none) (h1 : 1 ≤ n) {gf : Nat} {lb : Array Value} (hg : a.eval g = .func (.func gf) #[] lb) (hFg : F.fn gf) (eg : ∀ args w, (callFunc gf args).run P w = .ok (.enter gf args) w)
    {n0 : Nat} (hn0 : w.heap.size + 2 = n0) {encs : ε → Array Value} (hps : ∀ x, (encs x).size = ps.size) {S : σ → Prop} {s0 : σ} {nx : ε → σ} {R : Nat → σ → ε → World → Prop}
    (I : Nat → σ → World → Prop)
    (hseq : ∀ (l : Nat) (J : Nat → σ → World → Prop) (W : World), W.heap.size = n0 → Below w.heap.size w W → (∀ n1 s A B, J n1 s A → OwI n0 n1 A B → J n1 s B) →
      (∀ n1 s x W1, n0 ≤ n1 → J n1 s W1 → R n1 s x W1 → YieldAt F (n - 1 - 1) P l (encs x) W1 fun e W' => e = .returned (.bool true) ∧ J n1 (nx x) W' ∧ Kpt n0 n1 W1 W') →
      (∀ W', Below n0 W W' → J W'.heap.size s0 W') →
      CallsIn F (n - 1) P gf (#[.func (.yield l) #[] #[]] ++ lb) W fun e W' => (∃ v, e = .returned v) ∧ ∃ n1 s, n0 ≤ n1 ∧ S s ∧ J n1 s W')
    (hI0 : ∀ W', Below w.heap.size w W' → I W'.heap.size s0 W') (hIo : ∀ n1 s A B, I n1 s A → OwI n0 n1 A B → I n1 s B)
    (hIp : ∀ n1 s W k o o', n0 ≤ n1 → I n1 s W → w.heap.size ≤ k → k < n0 → W.heap[k]? = some o → o.isCells = false → I n1 s (W.putObj k o'))
    (hRp : ∀ n1 s x W k o', R n1 s x W → k < n0 → R n1 s x (W.putObj k o'))
    (a₁ : ε → Act)
    (hassign : ∀ (l : Nat) (x : ε) (W : World) (K : Act → World → Prop), K (a₁ x) W →
      assign.wpIn (F.inRound l) (n - 1 - 1) P (Exit.then K (fun _ _ _ => False)) { tmps := (ps.zip (encs x)).foldl (fun t (p, v) => t.setIfInBounds p v) a.tmps, defers := [] } W)
    (hbody : ∀ (l n1 : Nat) (s : σ) (x : ε) (W : World), n0 ≤ n1 → I n1 s W → R n1 s x W → body.wpIn (F.inRound l) (n - 1 - 1) P (ownPost5 n0 n1 I (nx x) W) (a₁ x) W)
    (hdone : ∀ (D n1 : Nat) (s : σ) (W : World), w.heap.size ≤ D → D < n0 → n0 ≤ n1 → S s → I n1 s W → W.heap[D]? = some (.deferred (some [])) → Q .normal { a with defers := { target := .collected D, args := #[] } :: a.defers } W) :
    (Code.rangeFunc g ps assign body).wpIn F n P Q a w := by
  subst hn0
  refine wpIn_rangeFunc fun fn hfn => ?_
  rw [hro]
  obtain ⟨rec, hrec⟩ : ∃ rec : LoopState → Option Code → Loop, rec = fun st pe => { state := st, pending := pe, fn, tmps := a.tmps, params := ps, assign, body, defers := w.heap.size } := ⟨_, rfl⟩
  obtain ⟨W1, hW1⟩ : ∃ W1, (w.alloc (.deferred (some []))).alloc (.loop (rec .ready none)) = W1 := ⟨_, rfl⟩
  have hL1 : W1.heap[w.heap.size + 1]? = some (.loop (rec .ready none)) := by
    rw [← hW1]; have := World.alloc_heap_new (w.alloc (.deferred (some []))) (.loop (rec .ready none)); rwa [World.size_alloc] at this
  have hK1 : W1.heap[w.heap.size]? = some (.deferred (some [])) := by
    rw [← hW1]; exact (Below.heap_alloc _ _ _ (by simp)).trans (World.alloc_heap_new w _)
  have hS1 : W1.heap.size = w.heap.size + 2 := by rw [← hW1]; simp
  have hb1 : Below w.heap.size w W1 := by rw [← hW1]; exact ((Below.refl _ w).alloc (Nat.le_refl _) _).alloc (by simp) _
  refine ⟨w.heap.size + 1, [{ target := .collected w.heap.size, args := #[] }], W1, { target := .fn (.func gf) lb, args := #[.func (.yield (w.heap.size + 1)) #[] #[]] }, W1, gf,
    #[.func (.yield (w.heap.size + 1)) #[] #[]] ++ lb, W1, ?_, ?_, ?_, ?_, fun _ => h1, ?_⟩
  · rw [← hW1, hrec]; exact run_enterLoop_outer _ _ _ _ _
  · simp only [resolve, hg]
    simp [go_sem]
  · intro f' hf'; simp [Target.leads] at hf'; subst hf'; exact hFg
  · simp [invoke, go_sem, eg]
  · refine (hseq (w.heap.size + 1) (fun n1 s W => w.heap.size + 2 ≤ n1 ∧ I n1 s W ∧ W.heap[w.heap.size + 1]? = some (.loop (rec .ready none)) ∧ W.heap[w.heap.size]? = some (.deferred (some []))) W1 hS1 hb1 ?_ ?_ ?_).mono ?_
    · rintro n1 s A B ⟨hn, hi, hl, hk⟩ ho
      have e1 := (Array.getElem?_eq_some_iff.1 hl).1
      exact ⟨hn, hIo n1 s A B hi ho, (ho.2.2 _ e1 (.inl (by omega))).trans hl, (ho.2.2 _ (by omega) (.inl (by omega))).trans hk⟩
    · rintro n1 s x W hn1 ⟨_, hi, hl, hk⟩ hr
      have hlt : w.heap.size + 1 < W.heap.size := (Array.getElem?_eq_some_iff.1 hl).1
      have hy := run_yield (P := P) (args := encs x) hl (by rw [hrec]; exact hps x)
      rw [hrec] at hy
      refine ⟨fn, _, assign, body, hy, roundIn_of_wpIn hfn (hassign _ x W _ ⟨_, run_beginRound hl (by rw [hrec]), ?_⟩)⟩
      have hl2 : (W.putObj (w.heap.size + 1) (.loop { rec .ready none with state := .busy })).heap[w.heap.size + 1]? = some (.loop { rec .ready none with state := .busy }) := World.putObj_heap_same hlt
      have hk2 : (W.putObj (w.heap.size + 1) (.loop { rec .ready none with state := .busy })).heap[w.heap.size]? = some (.deferred (some [])) := (World.putObj_heap_other (by omega)).trans hk
      refine wpIn_mono (hbody _ n1 s x _ hn1 (hIp n1 s W (w.heap.size + 1) _ _ hn1 hi (by omega) (by omega) hl rfl) (hRp n1 s x W _ _ hr (by omega))) ?_
      rintro e a3 W3 hp
      cases e with
      | normal =>
        obtain ⟨hk3, hkp3, hi3⟩ := hp
        have hl3 := hk3.same _ _ hl2 rfl
        have hend := run_endRound (P := P) none hl3
        rw [hrec] at hend hl3
        refine ⟨_, _, hend, rfl, ⟨hn1, hIp n1 _ W3 (w.heap.size + 1) _ _ hn1 hi3 (by omega) (by omega) hl3 rfl, ?_, (World.putObj_heap_other (by omega)).trans (hk3.same _ _ hk2 rfl)⟩, ((Kpt.put W _ (by omega)).trans hkp3).trans (Kpt.put W3 _ (by omega))⟩
        rw [hrec]
        exact World.putObj_heap_same (Array.getElem?_eq_some_iff.1 hl3).1
      | ret => exact hp.elim
      | exit id => exact hp.elim
      | goto t => exact hp.elim
      | panic ch => exact hp.elim
      | outgrown => exact hp.elim
    · intro W' hW'
      have e1 := (Array.getElem?_eq_some_iff.1 hL1).1
      refine ⟨by have := hW'.size; omega, hI0 W' (hb1.trans (hW'.mono (by omega))), (hW'.block _ (by omega)).trans hL1, (hW'.block _ (by omega)).trans hK1⟩
    · rintro e W2 ⟨⟨v, rfl⟩, n1, s, hn1, hS, _, hi, hl, hk⟩
      exact ⟨none, _, by have := run_endLoop (P := P) hl (by rw [hrec]; simp); rw [hrec] at this; exact this, hdone _ n1 s _ (Nat.le_refl _) (by omega) hn1 hS (hIp n1 s W2 (w.heap.size + 1) _ _ hn1 hi (by omega) (by omega) hl rfl) ((World.putObj_heap_other (by omega)).trans hk)⟩
end Go.Proofs.YtloamjofcojnhaaGreatDoor
