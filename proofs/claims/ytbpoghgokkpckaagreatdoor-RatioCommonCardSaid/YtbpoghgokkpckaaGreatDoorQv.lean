/- The reference model of layer 2: Parse. -/
import Derived.Test.YtbpoghgokkpckaaGreatDoorQu
namespace Go.Proofs.YtbpoghgokkpckaaGreatDoor
open Go.RowKit
theorem decR_is {s rs a b : List UInt8} {ng f : Bool} (h1 : Lib.hasPrefix s [45] = ng) (h2 : Lib.trimPrefix s [45] = rs) (h3 : cutS rs = (a, b, f)) :
    decR s = if decB a = true then if f = true then if decB b = true ∧ nb (dcv b) ≠ [1] then chk (ng, nb (dcv a), nb (dcv b)) else none else chk (ng, nb (dcv a), [1]) else none := by
  unfold decR
  rw [h1, h2]
  simp only [h3]
/-- The parts of what is read: its sign, and what its two halves are read as. -/
structure Cutd (s : List UInt8) (ng : Bool) (a d : List UInt8) : Prop where
  no : decB a = false ∨ decB d = false ∨ nb (dcv d) = [] → decR s = none
  yes : decB a = true → decB d = true → ∀ t, decR s = some t → t = (ng, nb (dcv a), nb (dcv d))
theorem one_dec : decB [49] = true ∧ nb (dcv [49]) = [1] := ⟨by decide, by rw [show dcv [49] = 1 from by decide]; exact nb_one⟩
theorem chk_t {t u : T3} (h : chk t = some u) : u = t := by
  unfold chk at h
  split at h
  · exact (Option.some.inj h).symm
  · simp at h
theorem cutd_no {s rs : List UInt8} {ng : Bool} (h1 : Lib.hasPrefix s [45] = ng) (h2 : Lib.trimPrefix s [45] = rs) (h3 : ∀ b ∈ rs, b ≠ 47) : Cutd s ng rs [49] := by
  have h := decR_is h1 h2 (cutS_no rs h3)
  refine ⟨fun hn => ?_, fun ha _ t ht => ?_⟩
  · rcases hn with hn | hn | hn
    · rw [h, hn]; rfl
    · rw [one_dec.1] at hn; simp at hn
    · rw [one_dec.2] at hn; simp at hn
  · rw [h, if_pos ha, if_neg (by simp)] at ht
    rw [one_dec.2]
    exact chk_t ht
theorem cutd_at {s rs : List UInt8} {ng : Bool} {k : Nat} (h1 : Lib.hasPrefix s [45] = ng) (h2 : Lib.trimPrefix s [45] = rs) (h3 : ∀ b ∈ rs.take k, b ≠ 47) (hk : k < rs.length) (h4 : rs[k] = 47) : Cutd s ng (rs.take k) (rs.drop (k + 1)) := by
  have hj : rs = rs.take k ++ 47 :: rs.drop (k + 1) := by
    rw [← h4, ← List.drop_eq_getElem_cons hk, List.take_append_drop]
  have hc : cutS rs = (rs.take k, rs.drop (k + 1), true) := by
    conv => lhs; rw [hj]
    exact cutS_at _ _ h3
  have h := decR_is h1 h2 hc
  refine ⟨fun hn => ?_, fun ha hd t ht => ?_⟩
  · rcases hn with hn | hn | hn
    · rw [h, hn]; rfl
    · rw [h, hn]
      split
      · rfl
      · rfl
    · rw [h, hn]
      split
      · rw [if_pos rfl]
        split
        · unfold chk
          rw [if_neg]
          intro hr
          exact ((rightR_iff _ _ _).1 hr).2.2.1 rfl
        · rfl
      · rfl
  · rw [h, if_pos ha, if_pos rfl] at ht
    split at ht
    · exact chk_t ht
    · simp at ht
theorem Cutd.some {s a d : List UInt8} {ng : Bool} (h : Cutd s ng a d) (ha : decB a = true) (hd : decB d = true) {q : Rat} (hq : mq ng (bv (nb (dcv a))) (bv (nb (dcv d))) = q) (hne : rtx (pt q) ≠ s) : decR s = none := by
  cases ht : decR s with
  | none => rfl
  | some t =>
    have h1 := h.yes ha hd t ht
    obtain ⟨h2, h3⟩ := rtx_dec s t ht
    exfalso
    apply hne
    have h4 := pt_of (rightR_is h2)
    unfold ratOf at h4
    rw [if_pos h2, h1] at h4
    simp only at h4
    rw [hq] at h4
    rw [h4, ← h1]
    exact h3
theorem ext_take (l : List UInt8) (k : Nat) : (ByteArray.mk l.toArray).extract 0 k = ⟨(l.take k).toArray⟩ := by
  apply ByteArray.ext
  simp [ByteArray.data_extract]
end Go.Proofs.YtbpoghgokkpckaaGreatDoor
