/- The reference implementation's Made: the first forty bytes of a slice that came in. -/
import Derived.Test.YtcghnkdfhiancaaDoorRs
import Derived.Test.YtcghnkdfhiancaaDoorRa
namespace Go.Proofs.YtcghnkdfhiancaaDoor
open Go.RowKit
/-- A slice of bytes that came in reads as the list l. -/
def BS (w : World) (v : Value) (l : List UInt8) : Prop :=
  ∃ p cap, v = .slice p l.length cap ∧ l.length ≤ cap ∧ cap ≤ maxLen ∧ (p = none → cap = 0) ∧
    (0 < l.length → ∃ g off, p = some ⟨g, off, none⟩ ∧ ∀ i (h : i < l.length), w.cell? ⟨g, off + i, none⟩ = some (Y l[i]))
theorem cell_lt {w : World} {p : Addr} {v : Value} (h : w.cell? p = some v) : p.block < w.heap.size := by
  by_cases hb : p.block < w.heap.size
  · exact hb
  · exfalso
    have : w.heap[p.block]? = none := Array.getElem?_eq_none (by omega)
    simp [World.cell?, this] at h
theorem BS.ch {w w' : World} {v : Value} {l : List UInt8} (h : BS w v l) (hC : Ch w.heap.size none1 w w') : BS w' v l := by
  obtain ⟨p, cap, hv, h1, h2, h3, h4⟩ := h
  refine ⟨p, cap, hv, h1, h2, h3, fun h0 => ?_⟩
  obtain ⟨g, off, hp, hc⟩ := h4 h0
  exact ⟨g, off, hp, fun i hi => by
    have h := hc i hi
    rw [hC.cell (p := ⟨g, off + i, none⟩) (cell_lt h) (fun q => q)]; exact h⟩
section
variable {P : Program}
theorem conv_empty (w : World) (src dst e : TypeId) (hs : P.underlying src = some (.slice e)) (he : P.underlying e = some (.int .u8)) (hd : P.underlying dst = some .string) (x : Addr) (cap : Nat) :
    (convert src dst (.slice (some x) 0 cap)).run P w = .ok (S []) w := by
  have hl : (loadCells x 0).run P w = .ok (([] : List Int).map (Value.int .u8)).toArray w := by
    have := run_loadCells_list (P := P) w x [] (fun j v hj => by simp at hj)
    simpa using this
  rw [run_convert_bytes_string w src dst e _ 0 cap hs he hd, run_bytesToString w _ 0 cap [] hl]
  rfl
theorem conv_take (w : World) (src dst e : TypeId) (hs : P.underlying src = some (.slice e)) (he : P.underlying e = some (.int .u8)) (hd : P.underlying dst = some .string) (x : Addr) (cap : Nat) (l : List UInt8)
    (h : 0 < l.length → ∃ g off, x = ⟨g, off, none⟩ ∧ ∀ i (h : i < l.length), w.cell? ⟨g, off + i, none⟩ = some (Y l[i])) (k n : Nat) (hn : n = min l.length k) :
    (convert src dst (.slice (some x) n cap)).run P w = .ok (S (l.take k)) w := by
  rcases Nat.eq_zero_or_pos n with h0 | h0
  · have ht : l.take k = [] := by
      apply List.eq_nil_of_length_eq_zero
      rw [List.length_take]; omega
    rw [ht, h0]
    exact conv_empty w src dst e hs he hd x cap
  · obtain ⟨g, off, rfl, hc⟩ := h (by omega)
    have hk : (l.take k).length = n := by rw [List.length_take]; omega
    rw [run_convert_bytes_arg (P := P) w src e hs he g off n cap ((l.take k).map fun b => (b.toNat : Int)) (by simpa using hk) (fun i hi => by
      have hil : i < l.length := by omega
      have hik : i < k := by omega
      rw [hc i hil]
      simp [List.getD, hik, hil]) dst hd, strOfNums_bytes]
end
set_option maxRecDepth 100000 in
theorem made_any (v : Value) (l : List UInt8) (w : World) (h : BS w v l) :
    Calls Tryd.prog 12 #[v] w (Yld w (S (l.take 40))) := by
  obtain ⟨p, cap, rfl, h1, h2, h3, h4⟩ := h
  rcases p with _ | x
  · have h0 := h3 rfl
    have hl0 : l.length = 0 := by omega
    obtain rfl : l = [] := List.eq_nil_of_length_eq_zero hl0
    subst h0
    have hcv : (convert 22 24 (.slice none (min (0:Int) 40).toNat 0)).run Tryd.prog w = .ok (.string ⟨#[]⟩) w := by kernel_rfl
    clear h1 h2 h3 h4 hl0
    rw [show ([] : List UInt8).length = 0 from rfl]
    go_enter Tryd.func12, Tryd.ntmps12
    go_wp2_with fail
    go_ret
    exact ⟨rfl, Ch.refl _ _ _⟩
  · have hcv : (convert 22 24 (.slice (some x) (min (l.length : Int) 40).toNat cap)).run Tryd.prog w = .ok (S (l.take 40)) w :=
      conv_take w _ _ 5 Tryd.underlying22 Tryd.underlying5 Tryd.underlying24 x cap l (fun h0 => by
        obtain ⟨g, off, hp, hc⟩ := h4 h0
        exact ⟨g, off, Option.some.inj hp, hc⟩) 40 _ (by rw [Int.min_def]; split <;> omega)
    unfold maxLen at h2
    clear h4 h3
    go_enter Tryd.func12, Tryd.ntmps12
    go_wp2_with fail
    go_ret
    exact ⟨rfl, Ch.refl _ _ _⟩
end Go.Proofs.YtcghnkdfhiancaaDoor
