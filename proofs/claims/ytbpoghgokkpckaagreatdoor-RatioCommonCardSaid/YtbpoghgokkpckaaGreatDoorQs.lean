/- Texts of rational numbers as they are read: the mathematics. -/
import Derived.Test.YtbpoghgokkpckaaGreatDoorQr
import Derived.Lib.IndexMore
namespace Go.Proofs.YtbpoghgokkpckaaGreatDoor
open Go.RowKit
/-- strings.Cut at a slash. -/
def cutS : List UInt8 → List UInt8 × List UInt8 × Bool
  | [] => ([], [], false)
  | b :: l => if b = 47 then ([], l, true) else (b :: (cutS l).1, (cutS l).2.1, (cutS l).2.2)
theorem index_cons (b : UInt8) (l : List UInt8) : Lib.index (b :: l) [47] = if b = 47 then 0 else if Lib.index l [47] = -1 then -1 else Lib.index l [47] + 1 := by
  rw [Lib.index]
  by_cases h : b = 47
  · subst h; simp
  · have h' : ¬ (47 : UInt8) = b := fun e => h e.symm
    rw [if_neg h]
    simp [h']
theorem cut_eq (l : List UInt8) : Lib.cut l [47] = cutS l := by
  induction l with
  | nil => rfl
  | cons b l ih =>
    have hg := Lib.index_ge l [47]
    unfold Lib.cut at ih ⊢
    rw [index_cons]
    unfold cutS
    by_cases h : b = 47
    · rw [if_pos h, if_pos h]
      simp
    · rw [if_neg h, if_neg h, ← ih]
      by_cases h1 : Lib.index l [47] = -1
      · rw [if_pos h1, if_neg (by omega), if_neg (by omega)]
      · rw [if_neg h1, if_pos (by omega), if_pos (by omega)]
        obtain ⟨k, hk⟩ := Int.eq_ofNat_of_zero_le (show 0 ≤ Lib.index l [47] by omega)
        rw [hk]
        have e1 : ((k : Int) + 1).toNat = k + 1 := by omega
        rw [e1, Int.toNat_natCast, show k + 1 + [(47 : UInt8)].length = (k + [(47 : UInt8)].length) + 1 by omega, List.take_succ_cons, List.drop_succ_cons]
theorem cutS_join (l : List UInt8) : l = if (cutS l).2.2 = true then (cutS l).1 ++ 47 :: (cutS l).2.1 else (cutS l).1 := by
  induction l with
  | nil => rfl
  | cons b l ih =>
    unfold cutS
    by_cases h : b = 47
    · rw [if_pos h, h]; rfl
    · rw [if_neg h]
      simp only
      by_cases h1 : (cutS l).2.2 = true
      · rw [if_pos h1] at ih ⊢
        rw [List.cons_append, ← ih]
      · rw [if_neg h1] at ih ⊢
        rw [← ih]
theorem cutS_no (l : List UInt8) (h : ∀ b ∈ l, b ≠ 47) : cutS l = (l, [], false) := by
  induction l with
  | nil => rfl
  | cons b l ih =>
    unfold cutS
    rw [if_neg (h b (List.mem_cons_self ..)), ih fun x hx => h x (List.mem_cons_of_mem _ hx)]
theorem cutS_at (l m : List UInt8) (h : ∀ b ∈ l, b ≠ 47) : cutS (l ++ 47 :: m) = (l, m, true) := by
  induction l with
  | nil => simp [cutS]
  | cons b l ih =>
    rw [List.cons_append]
    unfold cutS
    rw [if_neg (h b (List.mem_cons_self ..)), ih fun x hx => h x (List.mem_cons_of_mem _ hx)]
theorem cutS_len (l : List UInt8) : (cutS l).1.length ≤ l.length ∧ (cutS l).2.1.length ≤ l.length := by
  induction l with
  | nil => exact ⟨Nat.le_refl _, Nat.le_refl _⟩
  | cons b l ih =>
    unfold cutS
    split
    · simp
    · simp only [List.length_cons]; omega
theorem isDig_ne {b : UInt8} (h : isDig b = true) : b ≠ 47 ∧ b ≠ 45 := by
  simp only [isDig, Bool.and_eq_true, decide_eq_true_eq] at h
  constructor
  · rintro rfl
    exact absurd h.1 (by decide)
  · rintro rfl
    exact absurd h.1 (by decide)
theorem dig_no {l : List UInt8} (h : l.all isDig = true) : ∀ b ∈ l, b ≠ 47 := fun b hb => (isDig_ne (List.all_eq_true.1 h b hb)).1
theorem decB_ne {l : List UInt8} (h : decB l = true) : l ≠ [] := by
  rintro rfl
  simp [decB] at h
/-- A decimal text is that of its number. -/
theorem dec_dcv : ∀ (k : Nat) (l : List UInt8), l.length = k → decB l = true → Lib.decDigits (dcv l) = l := by
  intro k
  induction k with
  | zero => intro l h hd; exact absurd (List.eq_nil_of_length_eq_zero h) (decB_ne hd)
  | succ k ih =>
    intro l h hd
    have hall := decB_all hd
    rcases List.eq_nil_or_concat l with rfl | ⟨m, b, hlm⟩
    · simp at h
    · rw [List.concat_eq_append] at hlm
      subst hlm
      have hb : isDig b = true := List.all_eq_true.1 hall b (by simp)
      simp only [isDig, Bool.and_eq_true, decide_eq_true_eq] at hb
      have hbb : UInt8.ofNat (48 + (b.toNat - 48)) = b := by
        rw [show 48 + (b.toNat - 48) = b.toNat by omega, UInt8.ofNat_toNat]
      cases m with
      | nil =>
        rw [dcv_snoc, show dcv [] = 0 from rfl, dec_lt (by omega), show 0 * 10 + (b.toNat - 48) = b.toNat - 48 by omega, hbb]
        rfl
      | cons c t =>
        have hc : c ≠ 48 := by
          cases t with
          | nil => simp only [List.cons_append, List.nil_append, decB, Bool.and_eq_true] at hd; simpa using hd.1
          | cons e t => simp only [List.cons_append, decB, Bool.and_eq_true] at hd; simpa using hd.1
        have hall2 : (c :: t).all isDig = true := by
          rw [List.all_append, Bool.and_eq_true] at hall
          exact hall.1
        have hdm : decB (c :: t) = true := by
          cases t with
          | nil => simpa [decB] using hall2
          | cons e t =>
            simp only [decB, hall2, Bool.and_true]
            simpa using hc
        have hcd : isDig c = true := List.all_eq_true.1 hall2 c (List.mem_cons_self ..)
        simp only [isDig, Bool.and_eq_true, decide_eq_true_eq] at hcd
        have hc48 : c.toNat ≠ 48 := fun e => hc (UInt8.toNat_inj.1 (show c.toNat = (48 : UInt8).toNat from e))
        have hpos : 1 ≤ dcv (c :: t) := by
          rw [dcv_cons]
          have h1 : 1 ≤ (c.toNat - 48) * 10 ^ t.length := Nat.mul_pos (by omega) (Nat.pow_pos (by decide))
          omega
        have hi := ih (c :: t) (by simp at h ⊢; omega) hdm
        rw [dcv_snoc, dec_ge (by omega), show (dcv (c :: t) * 10 + (b.toNat - 48)) / 10 = dcv (c :: t) by omega, show (dcv (c :: t) * 10 + (b.toNat - 48)) % 10 = b.toNat - 48 by omega, hi, hbb]
/-- A triple, if it is right. -/
def chk (t : T3) : Option T3 := if rightR t.1 t.2.1 t.2.2 = true then some t else none
/-- What a text is read as. -/
def decR (s : List UInt8) : Option T3 :=
  let c := cutS (Lib.trimPrefix s [45])
  if decB c.1 = true then
    if c.2.2 = true then
      if decB c.2.1 = true ∧ nb (dcv c.2.1) ≠ [1] then chk (Lib.hasPrefix s [45], nb (dcv c.1), nb (dcv c.2.1)) else none
    else chk (Lib.hasPrefix s [45], nb (dcv c.1), [1])
  else none
theorem pre_cons (l : List UInt8) : Lib.hasPrefix (45 :: l) [45] = true ∧ Lib.trimPrefix (45 :: l) [45] = l := by
  have h : Lib.hasPrefix (45 :: l) [45] = true := by simp [Lib.hasPrefix]
  refine ⟨h, ?_⟩
  unfold Lib.trimPrefix
  rw [if_pos h]
  rfl
theorem pre_no (l : List UInt8) (h : l.head? ≠ some 45) : Lib.hasPrefix l [45] = false ∧ Lib.trimPrefix l [45] = l := by
  have h0 : Lib.hasPrefix l [45] = false := by
    cases l with
    | nil => rfl
    | cons b l =>
      have h1 : ((45 : UInt8) == b) = false := by
        rw [beq_eq_false_iff_ne]
        exact fun e => h (by rw [← e]; rfl)
      show ([45] : List UInt8).isPrefixOf (b :: l) = false
      rw [List.isPrefixOf, h1]
      rfl
  refine ⟨h0, ?_⟩
  unfold Lib.trimPrefix
  rw [h0]
  rfl
theorem pre_join (s : List UInt8) : s = (if Lib.hasPrefix s [45] = true then [45] else []) ++ Lib.trimPrefix s [45] := by
  cases s with
  | nil => rfl
  | cons b l =>
    by_cases h : b = 45
    · subst h
      rw [(pre_cons l).1, (pre_cons l).2]
      rfl
    · have := pre_no (b :: l) (by simpa using h)
      rw [this.1, this.2]
      rfl
theorem pre_len (s : List UInt8) : (Lib.trimPrefix s [45]).length ≤ s.length := by
  unfold Lib.trimPrefix
  split
  · rw [List.length_drop]; omega
  · exact Nat.le_refl _
theorem dec_head (n : Nat) (m : List UInt8) : (Lib.decDigits n ++ m).head? ≠ some 45 := by
  have h1 := all_dec n
  have h2 := decB_ne (decB_dec n)
  cases hd : Lib.decDigits n with
  | nil => exact absurd hd h2
  | cons b l =>
    rw [hd] at h1
    have := (isDig_ne (List.all_eq_true.1 h1 b (List.mem_cons_self ..))).2
    simpa using this
/-- The text of a right number is read as the number. -/
theorem dec_rtx (t : T3) (h : rightR t.1 t.2.1 t.2.2 = true) : decR (rtx t) = some t := by
  obtain ⟨s, n, d⟩ := t
  obtain ⟨k1, k2, k3, -⟩ := (rightR_iff _ _ _).1 h
  simp only at k1 k2 k3 h
  have hcore : ∀ s', decR ((if s' = true then [45] else []) ++ (Lib.decDigits (bv n) ++ (if d = [1] then [] else 47 :: Lib.decDigits (bv d)))) = chk (s', n, d) := by
    intro s'
    have hpre : Lib.hasPrefix ((if s' = true then [45] else []) ++ (Lib.decDigits (bv n) ++ (if d = [1] then [] else 47 :: Lib.decDigits (bv d)))) [45] = s' ∧ Lib.trimPrefix ((if s' = true then [45] else []) ++ (Lib.decDigits (bv n) ++ (if d = [1] then [] else 47 :: Lib.decDigits (bv d)))) [45] = Lib.decDigits (bv n) ++ (if d = [1] then [] else 47 :: Lib.decDigits (bv d)) := by
      cases s' with
      | true => exact pre_cons _
      | false => exact pre_no _ (dec_head _ _)
    unfold decR
    rw [hpre.1, hpre.2]
    by_cases hd : d = [1]
    · subst hd
      rw [if_pos rfl, List.append_nil, cutS_no _ (dig_no (all_dec _))]
      simp only [decB_dec, if_true, dcv_dec, nb_of_rt k1]
      simp
    · rw [if_neg hd, cutS_at _ _ (dig_no (all_dec _))]
      simp only [decB_dec, if_true, dcv_dec, nb_of_rt k1, nb_of_rt k2]
      rw [if_pos ⟨trivial, hd⟩]
  have := hcore s
  unfold rtx
  simp only
  rw [this]
  unfold chk
  rw [if_pos h]
/-- A text that is read is the text of what it is read as. -/
theorem rtx_dec (s : List UInt8) (t : T3) (h : decR s = some t) : rightR t.1 t.2.1 t.2.2 = true ∧ rtx t = s := by
  unfold decR at h
  simp only at h
  have hj := pre_join s
  have hc := cutS_join (Lib.trimPrefix s [45])
  obtain ⟨p, hp⟩ : ∃ p, Lib.hasPrefix s [45] = p := ⟨_, rfl⟩
  obtain ⟨⟨a, b, f⟩, hcc⟩ : ∃ c, cutS (Lib.trimPrefix s [45]) = c := ⟨_, rfl⟩
  rw [hp] at h hj
  rw [hcc] at h hc
  simp only at h hc
  by_cases h1 : decB a = true
  · rw [if_pos h1] at h
    have ha := dec_dcv _ a rfl h1
    cases f with
    | true =>
      rw [if_pos rfl] at h
      by_cases h2 : decB b = true ∧ nb (dcv b) ≠ [1]
      · rw [if_pos h2] at h
        unfold chk at h
        by_cases h3 : rightR p (nb (dcv a)) (nb (dcv b)) = true
        · rw [if_pos h3] at h
          obtain rfl := Option.some.inj h
          refine ⟨h3, ?_⟩
          have hb := dec_dcv _ b rfl h2.1
          unfold rtx
          simp only
          rw [if_neg h2.2, bv_nb, bv_nb, ha, hb]
          rw [if_pos rfl] at hc
          rw [← hc]
          exact hj.symm
        · rw [if_neg h3] at h
          simp at h
      · rw [if_neg h2] at h
        simp at h
    | false =>
      rw [if_neg (by simp)] at h
      unfold chk at h
      by_cases h3 : rightR p (nb (dcv a)) [1] = true
      · rw [if_pos h3] at h
        obtain rfl := Option.some.inj h
        refine ⟨h3, ?_⟩
        unfold rtx
        simp only
        rw [if_pos trivial, bv_nb, ha, List.append_nil]
        rw [if_neg (by simp)] at hc
        rw [← hc]
        exact hj.symm
      · rw [if_neg h3] at h
        simp at h
  · rw [if_neg h1] at h
    simp at h
/-- The answer of Parse. -/
def pans (o : Option T3) : Value := match o with
  | some t => .tuple #[Tv t, .bool true]
  | none => .tuple #[Rv false [] [], .bool false]
end Go.Proofs.YtbpoghgokkpckaaGreatDoor
