/- SpanCounts: mathematics and the walk. -/
import Derived.Test.YtnbcfolmadkliaaDoorJm
import Derived.Test.YtnbcfolmadkliaaDoorSv
namespace Go.Proofs.YtnbcfolmadkliaaDoor
open Go.RowKit Go.Shelf
theorem counts_far {xs : List (Int × Int)} {s n d : Int} (h : Spn.Ends (Spn.has (made xs)) s n d) (h0 : 0 ≤ s) (hs : s < 100 ∨ 3652000 ≤ s) (hn : n ≤ 58) : d ≤ s + 200 := by
  have hi := h.hi
  rcases hs with hs | hs
  rotate_left
  · omega
  by_cases hd : d ≤ s + 200
  · exact hd
  exfalso
  have h1 := h.lt (d := s + 200) (by omega) (by omega)
  have h2 : ∀ k, s + 71 ≤ k → k < s + 200 → Spn.has (made xs) k = false := fun k h2 h3 => Spn.has_not.2 fun t ht _ h4 => by
    rcases made_ends ht with q | q <;> omega
  rw [Spn.cnt_split _ (show s ≤ s + 71 by omega) (show s + 71 ≤ s + 200 by omega), Spn.cnt_all (s := s + 71) (fun k h3 h4 => by rw [h2 k h3 (by omega)]; rfl)] at h1
  have := (Spn.cnt_nonneg (fun k => !Spn.has (made xs) k) s (s + 71 - s).toNat).1
  omega
theorem counts_step (p : Int → Bool) {s k : Int} (h : s ≤ k) : Spn.cnt (fun k => !p k) s (k + 1 - s).toNat = Spn.cnt (fun k => !p k) s (k - s).toNat + if p k then 0 else 1 := by
  rw [show (k + 1 - s).toNat = (k - s).toNat + 1 by omega, Spn.cnt_succ, show s + ((k - s).toNat : Int) = k by omega]
  cases p k <;> rfl
theorem Count_as {a : List Spn.Sp} {pa : Option Addr} {na ca : Nat} {s n : Int} {w : World} {V : Value} (ha : Rd spc 2 w pa na a) (hna : na ≤ 8) (hs : 0 ≤ s ∧ s ≤ 3652058) (hn : -1 ≤ n ∧ n ≤ 100) (h : cenV (Spn.has a) s n = V) :
    Calls Tryd.prog 17 #[.slice pa na ca, iz s, iz n] w (Ya w V) := by
  have := Count_any a pa na ca s n w ha (by omega) (by omega) (by omega)
  rwa [h] at this
end Go.Proofs.YtnbcfolmadkliaaDoor
