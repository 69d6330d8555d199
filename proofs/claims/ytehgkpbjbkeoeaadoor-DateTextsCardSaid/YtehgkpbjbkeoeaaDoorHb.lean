/- Bytes of a string in memory of one's own: made, changed, read back. -/
import Derived.Test.YtehgkpbjbkeoeaaDoorDy
import Derived.Laws.IdiomStrings
namespace Go.Proofs.YtehgkpbjbkeoeaaDoor
open Go.RowKit Go.Shelf
/-- Block g begins with these bytes. -/
def Byt (W : World) (g : Nat) (l : List UInt8) : Prop :=
  ∃ (cs : Array Value) (t : TypeId) (lo hi : Nat), W.heap[g]? = some (.cells cs t (lo, hi)) ∧ (∀ j (h : j < l.length), cs[j]? = some (Y l[j])) ∧ l.length ≤ lo
theorem Byt.lt {W : World} {g : Nat} {l : List UInt8} (h : Byt W g l) : g < W.heap.size := by
  obtain ⟨cs, t, lo, hi, h1, _⟩ := h
  exact (Array.getElem?_eq_some_iff.1 h1).1
theorem Byt.cell {W : World} {g : Nat} {l : List UInt8} (h : Byt W g l) (j : Nat) (hj : j < l.length) : W.cell? ⟨g, j, none⟩ = some (Y l[j]) := by
  obtain ⟨cs, t, lo, hi, h1, h2, _⟩ := h
  simp only [World.cell?, h1]
  exact h2 j hj
theorem Byt.frozen {W : World} {g : Nat} {l : List UInt8} (h : Byt W g l) (j : Nat) (hj : j < l.length) : W.frozen? ⟨g, j, none⟩ = false := by
  obtain ⟨cs, t, lo, hi, h1, _, h3⟩ := h
  simp only [World.frozen?, h1]
  rw [decide_eq_false (by omega : ¬ lo ≤ j), Bool.false_and]
theorem Byt.block {W W' : World} {g : Nat} {l : List UInt8} (h : Byt W g l) (hb : W'.heap[g]? = W.heap[g]?) : Byt W' g l := by
  obtain ⟨cs, t, lo, hi, h1, h2, h3⟩ := h
  exact ⟨cs, t, lo, hi, hb.trans h1, h2, h3⟩
theorem Byt.drew {W : World} {g : Nat} {l : List UInt8} (h : Byt W g l) : Byt W.drew g l := h
theorem Byt.on {W W' : World} {g : Nat} {l : List UInt8} (h : Byt W g l) (hC : Ch W.heap.size none1 W W') : Byt W' g l := h.block (hC.block g h.lt (fun q => q))
theorem Byt.set {W : World} {g : Nat} {l : List UInt8} (h : Byt W g l) (k : Nat) (hk : k < l.length) (b : UInt8) : Byt (W.setCell ⟨g, k, none⟩ (Y b)) g (l.set k b) := by
  obtain ⟨cs, t, lo, hi, h1, h2, h3⟩ := h
  refine ⟨cs.setIfInBounds k (Y b), t, lo, hi, ?_, ?_, by rw [List.length_set]; exact h3⟩
  · simp [World.setCell, Array.getElem?_modify, h1]
  · intro j hj
    rw [List.length_set] at hj
    have hc := h2 j hj
    have hjc : j < cs.size := (Array.getElem?_eq_some_iff.1 hc).1
    by_cases hjk : k = j
    · subst hjk
      simp [hjc]
    · rw [Array.getElem?_setIfInBounds_ne hjk, hc, List.getElem_set_ne hjk]
/-- []byte(s). -/
theorem byt_made (w : World) (src dst e : TypeId) (l : List UInt8) (hs : Tryd.prog.underlying src = some .string) (hd : Tryd.prog.underlying dst = some (.slice e)) (he : Tryd.prog.underlying e = some (.int .u8)) :
    ∃ cap W, (convert src dst (S l)).run Tryd.prog w = .ok (.slice (some ⟨w.heap.size, 0, none⟩) l.length cap) W ∧ Byt W w.heap.size l ∧ Ch w.heap.size none1 w W ∧ W.heap.size = w.heap.size + 1 := by
  have h := run_bytes_of_string (P := Tryd.prog) w src dst e ⟨l.toArray⟩ hs hd he
  obtain ⟨cap, hcap⟩ : ∃ c, grownCap w (ByteArray.mk l.toArray).size 0 e = c := ⟨_, rfl⟩
  rw [hcap] at h
  have hrow : ∀ j (hj : j < l.length), (bytesRow ⟨l.toArray⟩ cap)[j]? = some (Y l[j]) := fun j hj => by
    rw [bytesRow_at _ _ _ (by simpa using hj)]
    simp
  have hsz : l.length ≤ (bytesRow ⟨l.toArray⟩ cap).size := by
    unfold bytesRow
    simp
  obtain ⟨cs, hcs⟩ : ∃ cs, bytesRow ⟨l.toArray⟩ cap = cs := ⟨_, rfl⟩
  rw [hcs] at h hrow hsz
  have hz : (ByteArray.mk l.toArray).size = l.length := rfl
  rw [hz] at h
  refine ⟨cap, _, h, ⟨cs, e, cs.size, cs.size + 1, ?_, hrow, hsz⟩, (Ch.refl _ _ _).drew.alloc (Nat.le_refl _) _, by simp⟩
  show (w.heap.push _)[w.heap.size]? = _
  simp
/-- string(b). -/
theorem byt_read {W : World} {g cap : Nat} {l : List UInt8} (h : Byt W g l) : (convert 27 9 (.slice (some ⟨g, 0, none⟩) l.length cap)).run Tryd.prog W = .ok (S l) W := by
  rw [run_convert_bytes_arg (P := Tryd.prog) W 27 5 Tryd.underlying27 Tryd.underlying5 g 0 l.length cap (l.map fun b => (b.toNat : Int)) (by simp) (fun i hi => by
    rw [Nat.zero_add, h.cell i hi]
    simp [List.getD, hi]) 9 Tryd.underlying9, strOfNums_bytes]
end Go.Proofs.YtehgkpbjbkeoeaaDoor
