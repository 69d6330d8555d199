/- Layouts of dates: plain mathematics. -/
import Derived.Test.YtehgkpbjbkeoeaaDoorDa
import Derived.Test.YtehgkpbjbkeoeaaDoorNw
import Derived.Lib.ItoaNum
namespace Go.Proofs.YtehgkpbjbkeoeaaDoor
namespace Lay
abbrev Part := List UInt8
def fw (l : Part) : Nat := if [89, 89, 89, 89].isPrefixOf l then 4 else if [77, 77].isPrefixOf l then 2 else if [68, 68].isPrefixOf l then 2 else 1
def partsF : Nat → Part → List Part
  | 0, _ => []
  | n + 1, l => if l = [] then [] else l.take (fw l) :: partsF n (l.drop (fw l))
def parts (l : Part) : List Part := partsF l.length l
theorem fw_pos (l : Part) : 1 ≤ fw l := by unfold fw; split; omega; split; omega; split <;> omega
theorem fw_len {l : Part} (h : l ≠ []) : fw l ≤ l.length := by
  unfold fw
  split
  · rename_i h1
    have := (List.isPrefixOf_iff_prefix.1 h1).length_le
    simpa using this
  · split
    · rename_i h1
      have := (List.isPrefixOf_iff_prefix.1 h1).length_le
      simpa using this
    · split
      · rename_i h1
        have := (List.isPrefixOf_iff_prefix.1 h1).length_le
        simpa using this
      · cases l with
        | nil => exact absurd rfl h
        | cons _ _ => simp
theorem partsF_nil (n : Nat) : partsF n [] = [] := by cases n <;> simp [partsF]
theorem partsF_more : ∀ (n m : Nat) (l : Part), l.length ≤ n → l.length ≤ m → partsF n l = partsF m l
  | 0, m, l, h, _ => by
    obtain rfl : l = [] := List.length_eq_zero_iff.1 (by omega)
    rw [partsF_nil, partsF_nil]
  | n + 1, 0, l, _, h => by
    obtain rfl : l = [] := List.length_eq_zero_iff.1 (by omega)
    rw [partsF_nil, partsF_nil]
  | n + 1, m + 1, l, h1, h2 => by
    by_cases h : l = []
    · subst h; rw [partsF_nil, partsF_nil]
    · have hp := fw_pos l
      simp only [partsF, if_neg h]
      rw [partsF_more n m _ (by rw [List.length_drop]; omega) (by rw [List.length_drop]; omega)]
theorem parts_nil : parts [] = [] := rfl
theorem parts_cons {l : Part} (h : l ≠ []) : parts l = l.take (fw l) :: parts (l.drop (fw l)) := by
  unfold parts
  cases l with
  | nil => exact absurd rfl h
  | cons a t =>
    have hp := fw_pos (a :: t)
    show partsF (t.length + 1) (a :: t) = _
    simp only [partsF, if_neg h]
    rw [partsF_more t.length _ _ (by rw [List.length_drop, List.length_cons]; omega) (Nat.le_refl _)]
theorem parts_ind {M : Part → Prop} (h0 : M []) (h1 : ∀ l, l ≠ [] → M (l.drop (fw l)) → M l) (l : Part) : M l := by
  obtain ⟨n, hn⟩ : ∃ n, l.length = n := ⟨_, rfl⟩
  induction n using Nat.strongRecOn generalizing l with
  | _ n ih =>
    by_cases h : l = []
    · rw [h]; exact h0
    · have hp := fw_pos l
      have hl : 0 < l.length := List.length_pos_iff.2 h
      exact h1 l h (ih _ (by rw [← hn, List.length_drop]; omega) _ rfl)
theorem parts_flat (l : Part) : (parts l).flatten = l := by
  induction l using parts_ind with
  | h0 => rfl
  | h1 l h ih => rw [parts_cons h, List.flatten_cons, ih, List.take_append_drop]
def Y4 : Part := [89, 89, 89, 89]
def isY (p : Part) : Bool := p == [89, 89, 89, 89]
def isM (p : Part) : Bool := p == [77, 77] || p == [77]
def isD (p : Part) : Bool := p == [68, 68] || p == [68]
def isF (p : Part) : Bool := isY p || isM p || isD p
def isO (p : Part) : Bool := p == [77] || p == [68]
inductive Ok : Part → Prop
  | y : Ok [89, 89, 89, 89]
  | mm : Ok [77, 77]
  | m : Ok [77]
  | dd : Ok [68, 68]
  | d : Ok [68]
  | one (c : UInt8) (h1 : ¬ c = 77) (h2 : ¬ c = 68) : Ok [c]
theorem take_prefix {p l : Part} (h : p.isPrefixOf l = true) : l.take p.length = p := by
  obtain ⟨t, rfl⟩ := List.isPrefixOf_iff_prefix.1 h
  simp
theorem first_ok {l : Part} (h : l ≠ []) : Ok (l.take (fw l)) := by
  unfold fw
  split
  · rename_i h1
    have := take_prefix h1
    rw [show ([89, 89, 89, 89] : Part).length = 4 from rfl] at this
    rw [this]; exact .y
  · split
    · rename_i h1
      have := take_prefix h1
      rw [show ([77, 77] : Part).length = 2 from rfl] at this
      rw [this]; exact .mm
    · split
      · rename_i h1
        have := take_prefix h1
        rw [show ([68, 68] : Part).length = 2 from rfl] at this
        rw [this]; exact .dd
      · cases l with
        | nil => exact absurd rfl h
        | cons c t =>
          show Ok [c]
          by_cases hm : c = 77
          · subst hm; exact .m
          · by_cases hd : c = 68
            · subst hd; exact .d
            · exact .one c hm hd
theorem parts_ok (l : Part) : ∀ p ∈ parts l, Ok p := by
  induction l using parts_ind with
  | h0 => intro p hp; simp [parts_nil] at hp
  | h1 l h ih =>
    intro p hp
    rw [parts_cons h] at hp
    rcases List.mem_cons.1 hp with rfl | hp
    · exact first_ok h
    · exact ih p hp
/-- Whether a byte may stand outside the fields of a right layout. -/
def plain (c : UInt8) : Bool := decide (32 ≤ c.toNat) && decide (c.toNat ≤ 126) && !(decide (48 ≤ c.toNat) && decide (c.toNat ≤ 57)) && !(c == 89)
def node (op : Bool) (p : Part) : Bool := if isF p then !op else match p with | c :: _ => plain c | [] => false
def good : Bool → List Part → Bool
  | _, [] => true
  | op, p :: ps => node op p && good (isO p) ps
def openAfter (ps : List Part) : Bool := match ps.getLast? with | some p => isO p | none => false
def right (l : Part) : Bool := decide (l.length ≤ 40) && (good false (parts l) && ((parts l).countP isY == 1 && ((parts l).countP isM == 1 && (parts l).countP isD == 1)))
def after (op : Bool) (ps : List Part) : Bool := match ps.getLast? with | some p => isO p | none => op
theorem good_append (op : Bool) (ps qs : List Part) : good op (ps ++ qs) = (good op ps && good (after op ps) qs) := by
  induction ps generalizing op with
  | nil => simp [good, after]
  | cons p ps ih =>
    rw [List.cons_append, good, ih, good, Bool.and_assoc]
    congr 2
    cases ps with
    | nil => simp [after]
    | cons q ps => simp only [after, List.getLast?_cons, Option.getD_some]
theorem good_snoc (ps : List Part) (p : Part) : good false (ps ++ [p]) = (good false ps && node (openAfter ps) p) := by
  rw [good_append]
  simp [good, after, openAfter]
theorem openAfter_snoc (ps : List Part) (p : Part) : openAfter (ps ++ [p]) = isO p := by simp [openAfter]
theorem good_prefix {ps qs : List Part} (h : ps <+: qs) (hg : good false ps = false) : good false qs = false := by
  obtain ⟨t, rfl⟩ := h
  rw [good_append, hg, Bool.false_and]
/-- Digits with zeros in front. -/
def pad (k : Nat) (n : Int) : Part := List.replicate (k - (Lib.decDigits n.toNat).length) 48 ++ Lib.decDigits n.toNat
def wr (y m d : Int) (p : Part) : Part :=
  if p = [89, 89, 89, 89] then pad 4 y else if p = [77, 77] then pad 2 m else if p = [77] then pad 1 m else if p = [68, 68] then pad 2 d else if p = [68] then pad 1 d else p
def fmt (l : Part) (y m d : Int) : Part := (parts l).flatMap (wr y m d)
end Lay
end Go.Proofs.YtehgkpbjbkeoeaaDoor
