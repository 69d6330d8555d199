/- SpanMany: mathematics and the walk. -/
import Derived.Test.YtnbcfolmadkliaaDoorJr
namespace Go.Proofs.YtnbcfolmadkliaaDoor
open Go.RowKit Go.Shelf
theorem made_ends {xs : List (Int × Int)} {s : Spn.Sp} (h : s ∈ made xs) : s.2 ≤ 71 ∨ 3652039 ≤ s.1 := by
  unfold made at h
  obtain ⟨x, _, rfl⟩ := List.mem_map.1 h
  unfold mk
  dsimp only
  split <;> omega
theorem made_mid {xs : List (Int × Int)} {d : Int} (h0 : 75 ≤ d) (h1 : d < 3651984) : Spn.has (made xs) d = false := Spn.has_not.2 fun s hs _ h => by
  rcases made_ends hs with q | q <;> omega
theorem many_sum (xs : List (Int × Int)) : Spn.days (Spn.nf (Spn.has (made xs))) = Spn.cnt (Spn.has (made xs)) 0 75 + Spn.cnt (Spn.has (made xs)) (3652059 - ((75 : Nat) : Int)) 75 := by
  obtain ⟨M, hM⟩ : ∃ M : Nat, (M : Int) = 3651909 := ⟨3651909, rfl⟩
  rw [Spn.days_nf (Spn.dom_has (made xs)) (N := 75 + (M + 75)) (by omega), Spn.cnt_add, Spn.cnt_add]
  rw [Spn.cnt_none (s := 0 + ((75 : Nat) : Int)) (n := M) (fun d h0 h1 => made_mid (by omega) (by omega))]
  rw [show 0 + ((75 : Nat) : Int) + (M : Int) = 3652059 - ((75 : Nat) : Int) by omega]
  omega
theorem many_both (A B : List Spn.Sp) : Spn.days (Spn.nf (dUnion A B)) + Spn.days (Spn.nf (dMeet A B)) = Spn.days (Spn.nf (Spn.has A)) + Spn.days (Spn.nf (Spn.has B)) := by
  obtain ⟨N, hN⟩ : ∃ N : Nat, (N : Int) = 3652059 := ⟨3652059, rfl⟩
  rw [Spn.days_nf (dom_union A B) hN, Spn.days_nf (dom_meet A B) hN, Spn.days_nf (Spn.dom_has A) hN, Spn.days_nf (Spn.dom_has B) hN]
  exact Spn.cnt_or_and (Spn.has A) (Spn.has B) 0 N
theorem many_step (p : Int → Bool) (k : Nat) : Spn.cnt p 0 (k + 1) + Spn.cnt p (3652059 - ((k + 1 : Nat) : Int)) (k + 1) = Spn.cnt p 0 k + Spn.cnt p (3652059 - (k : Int)) k + (if p (k : Int) then 1 else 0) + (if p (3652058 - (k : Int)) then 1 else 0) := by
  rw [Spn.cnt_succ, Spn.cnt_cons, show 3652059 - ((k + 1 : Nat) : Int) = 3652058 - (k : Int) by omega, show 3652058 - (k : Int) + 1 = 3652059 - (k : Int) by omega, Int.zero_add]
  omega
theorem Has_as {d : Int} {w : World} {p : Option Addr} {n cap : Nat} {l : List Spn.Sp} {b : Bool} (hv : Rd spc 2 w p n l) (hn : n ≤ 1000000000) (h : Spn.has l d = b) :
    Calls Tryd.prog 10 #[.slice p n cap, iz d] w (Ya w (.bool b)) := by
  have := Has_any d w p n cap l hv hn
  rwa [h] at this
theorem Days_as {a : List Spn.Sp} {pa : Option Addr} {na ca : Nat} {w : World} {d : Int} (ha : Rd spc 2 w pa na a) (hna : na ≤ 4000000) (h : Spn.days (Spn.nf (Spn.has a)) = d) :
    Calls Tryd.prog 24 #[.slice pa na ca] w (Ya w (iz d)) := by
  have := Days_any a pa na ca w ha hna
  rwa [h] at this
theorem days_of {p : Int → Bool} (h : Spn.Dom p) {d : Int} (e : Spn.days (Spn.nf p) = d) : Spn.days (Spn.nf (Spn.has (Spn.nf p))) = d := by rw [Spn.nf_has (Spn.nf_spec h).1, e]
theorem days_rg {p : Int → Bool} (h : Spn.Dom p) {d : Int} (e : Spn.days (Spn.nf p) = d) : 0 ≤ d ∧ d ≤ 3652059 := by rw [← e]; exact Spn.days_range (Spn.nf_spec h).1
end Go.Proofs.YtnbcfolmadkliaaDoor
