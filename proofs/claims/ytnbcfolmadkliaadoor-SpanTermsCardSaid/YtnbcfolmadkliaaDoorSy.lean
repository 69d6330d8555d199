/- Package tithinglaw05: few. -/
import Derived.Test.YtnbcfolmadkliaaDoorSt
import Derived.Laws.OwnMore
namespace Go.Proofs.YtnbcfolmadkliaaDoor
open Go.RowKit Go.Shelf
theorem sp_flat {w : World} {g o n : Nat} {l : List Spn.Sp} (h : Rd spc 2 w (some ⟨g, o, none⟩) n l) (m : Nat) : ∀ (j : Nat) (u : Value), ((l.take m).flatMap spc)[j]? = some u → w.cell? ((⟨g, o, none⟩ : Addr).add j) = some u := by
  intro j u hj
  have hlt : j < (l.take m).length * 2 := by have := (List.getElem?_eq_some_iff.1 hj).1; rwa [flat_len spc_len] at this
  have hi : j / 2 < (l.take m).length := by omega
  have hx : (l.take m)[j / 2]? = some ((l.take m)[j / 2]) := List.getElem?_eq_getElem hi
  obtain ⟨x, hxe⟩ : ∃ x, (l.take m)[j / 2] = x := ⟨_, rfl⟩
  rw [hxe] at hx
  have hl : l[j / 2]? = some x := by
    rw [List.getElem?_take] at hx
    split at hx
    · exact hx
    · cases hx
  have hr : j % 2 < (spc x).length := by rw [spc_len]; omega
  have hv : (spc x)[j % 2]? = some (spc x)[j % 2] := List.getElem?_eq_getElem hr
  have hf := flat_get spc_len _ _ _ hx _ _ hv
  rw [show j / 2 * 2 + j % 2 = j by omega, hj] at hf
  have hc := h.get hl (j % 2) hv
  rw [← Option.some.inj hf] at hc
  rw [plain_add]
  rwa [show o + j / 2 * 2 + j % 2 = o + j by omega] at hc
theorem sp_ones (l : List Spn.Sp) : ∀ u ∈ l.flatMap spc, u.oneCell' = true := fun u hu => by
  obtain ⟨x, _, hx⟩ := List.mem_flatMap.1 hu
  exact two_one x.1 x.2 u hx
end Go.Proofs.YtnbcfolmadkliaaDoor
