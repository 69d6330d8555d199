/- The reference of layer 4: Parse: what it answers. -/
import Derived.Test.YtnblmmhpndnjcaaGreatDoorWo
import Derived.Test.YtnblmmhpndnjcaaGreatDoorWn
namespace Go.Proofs.YtnblmmhpndnjcaaGreatDoor
open Go.RowKit
theorem decB_dig {l : List UInt8} (h : decB l = true) : l.all isDig = true := by
  match l, h with
  | [b], h => simpa [decB] using h
  | b :: c :: m, h =>
    simp only [decB, Bool.and_eq_true] at h
    exact h.2
theorem dec_front (n : Nat) (h0 : 0 < n) : ∃ b m, Lib.decDigits n = b :: m ∧ ¬ b = 48 := by
  induction n using Nat.strongRecOn with
  | _ n ih =>
    by_cases h : n < 10
    · refine ⟨_, [], dec_lt h, fun e => ?_⟩
      have := congrArg UInt8.toNat e
      rw [dig_toNat h] at this
      have h48 : (48 : UInt8).toNat = 48 := rfl
      omega
    · obtain ⟨b, m, he, hb⟩ := ih (n / 10) (by omega) (by omega)
      exact ⟨b, m ++ [UInt8.ofNat (48 + n % 10)], by rw [dec_ge h, he]; rfl, hb⟩
theorem dec_ok (n : Nat) : decB (Lib.decDigits n) = true := by
  rcases Nat.eq_zero_or_pos n with h | h
  · subst h; rw [dec_lt (by omega)]; decide
  · obtain ⟨b, m, he, hb⟩ := dec_front n h
    have ha := (digs_all n).1
    rw [he] at ha ⊢
    cases m with
    | nil => simpa [decB] using ha
    | cons c m => simp only [decB, ha, Bool.and_true]; simp [hb]
theorem dcv_below : ∀ (l : List UInt8), l.all isDig = true → dcv l < 10 ^ l.length
  | [], _ => by simp [dcv]
  | b :: l, h => by
    rw [List.all_cons, Bool.and_eq_true] at h
    have h1 := dcv_below l h.2
    have h2 := h.1
    simp only [isDig, Bool.and_eq_true, decide_eq_true_eq] at h2
    have h3 : (b.toNat - 48) * 10 ^ l.length ≤ 9 * 10 ^ l.length := Nat.mul_le_mul_right _ (by omega)
    rw [dcv_cons, List.length_cons, Nat.pow_succ]
    omega
theorem two_is {r : Nat} (h : r < 100) : ∃ x y : UInt8, two r = [x, y] ∧ isDig x = true ∧ isDig y = true ∧ 10 * (x.toNat - 48) + (y.toNat - 48) = r := by
  have hk : ∀ k, k < 10 → isDig (UInt8.ofNat (48 + k)) = true := fun k h => by simp only [isDig, dig_toNat h, Bool.and_eq_true, decide_eq_true_eq]; omega
  by_cases h1 : r < 10
  · refine ⟨48, UInt8.ofNat (48 + r), two_lt h1, by decide, hk r h1, ?_⟩
    rw [dig_toNat h1, show (48 : UInt8).toNat = 48 from rfl]
    omega
  · refine ⟨_, _, two_ge h1 h, hk _ (by omega), hk _ (by omega), ?_⟩
    rw [dig_toNat (by omega), dig_toNat (by omega)]
    omega
theorem wtx_lens {c : Int} (hc : i64m c) : 5 ≤ (wtx c).length ∧ (wtx c).length ≤ 40 := by
  obtain ⟨x, hx⟩ : ∃ x, nb (c.natAbs / 100) = x := ⟨_, rfl⟩
  have hxv : bv x = c.natAbs / 100 := by rw [← hx, bv_nb]
  have hxl : x.length ≤ 8 := by
    obtain ⟨h1, h2⟩ := hc
    rw [← hx]
    refine (nb_len _ _).2 ?_
    have : (256 : Nat) ^ 8 = 18446744073709551616 := rfl
    omega
  have hd2 := dec_bytes x
  rw [hxv] at hd2
  have hd1 := decDigits_pos (c.natAbs / 100)
  obtain ⟨u, v, h2, -⟩ := two_is (show c.natAbs % 100 < 100 by omega)
  rw [wtx_two, h2, List.length_cons, List.length_append, List.length_append, List.length_cons]
  have : (if c < 0 then ([45] : List UInt8) else []).length ≤ 1 := by split <;> simp
  simp only [List.length_cons, List.length_nil]
  omega
theorem dec_sign {n : Nat} {b : UInt8} {m : List UInt8} (h : Lib.decDigits n = b :: m) : b ≠ 45 := by
  have ha := (digs_all n).1
  rw [h, List.all_cons, Bool.and_eq_true] at ha
  have := dig_ne ha.1
  intro e
  exact this.2.1 (by rw [e]; rfl)
/-- The parts of the text of an amount. -/
theorem wtx_shape {c : Int} {c0 c1 e d1 d2 : UInt8} {m : List UInt8} (h : wtx c = c0 :: c1 :: (m ++ [e, d1, d2])) : c0 = 36 ∧ e = 46 ∧ (isDig d1 = true ∧ isDig d2 = true ∧ 10 * (d1.toNat - 48) + (d2.toNat - 48) = c.natAbs % 100) ∧ ((c < 0 ∧ c1 = 45 ∧ m = Lib.decDigits (c.natAbs / 100)) ∨ (¬ c < 0 ∧ c1 ≠ 45 ∧ c1 :: m = Lib.decDigits (c.natAbs / 100))) := by
  obtain ⟨u, v, h2, du, dv', huv⟩ := two_is (show c.natAbs % 100 < 100 by omega)
  rw [wtx_two, h2] at h
  have h0 := (List.cons.inj h).1
  have h3 := (List.cons.inj h).2
  have h4 : ((if c < 0 then [45] else []) ++ Lib.decDigits (c.natAbs / 100)) ++ [46, u, v] = (c1 :: m) ++ [e, d1, d2] := by
    rw [List.append_assoc]
    exact h3
  obtain ⟨h5, h6⟩ := List.append_inj' h4 rfl
  obtain ⟨rfl, h7⟩ := List.cons.inj h6
  obtain ⟨rfl, h8⟩ := List.cons.inj h7
  obtain ⟨rfl, -⟩ := List.cons.inj h8
  refine ⟨h0.symm, rfl, ⟨du, dv', huv⟩, ?_⟩
  by_cases hc : c < 0
  · rw [if_pos hc] at h5
    obtain ⟨rfl, h9⟩ := List.cons.inj h5
    exact .inl ⟨hc, rfl, h9.symm⟩
  · rw [if_neg hc, List.nil_append] at h5
    exact .inr ⟨hc, dec_sign h5, h5.symm⟩
theorem at_end {s A B : List UInt8} {x : UInt8} {k : Nat} (hs : s = A ++ x :: B) (hk : k = A.length) (h' : k < (ByteArray.mk s.toArray).size) : (ByteArray.mk s.toArray)[k]'h' = x := by
  subst hs hk
  show (A ++ x :: B).toArray[A.length] = x
  simp
theorem ext_mid {s A B C : List UInt8} {a b : Nat} (hs : s = A ++ (B ++ C)) (ha : a = A.length) (hb : b = A.length + B.length) : (ByteArray.mk s.toArray).extract a b = ⟨B.toArray⟩ := by
  have h := ext_list s a b
  have e : ((s.take b).drop a) = B := by
    subst hs ha hb
    rw [List.take_append, List.take_of_length_le (by omega), Nat.add_sub_cancel_left, List.take_left, List.drop_left]
  rw [e] at h
  exact bytes_eqL h
theorem shape_of {s : List UInt8} (h : 5 ≤ s.length) : ∃ c0 c1 m e d1 d2, s = c0 :: c1 :: (m ++ [e, d1, d2]) := by
  match s, h with
  | c0 :: c1 :: t, h =>
    have h3 : 3 ≤ t.length := by simp only [List.length_cons] at h; omega
    have hl : (t.drop (t.length - 3)).length = 3 := by rw [List.length_drop]; omega
    match hd : t.drop (t.length - 3), hl with
    | [e, d1, d2], _ => exact ⟨c0, c1, t.take (t.length - 3), e, d1, d2, by rw [← hd, List.take_append_drop]⟩
theorem cents_mq (s : Bool) (V : Nat) : mq s V 100 = ((sv s V : Int) : Rat) * (1 / 100) := by
  unfold mq
  rw [Rat.mkRat_eq_div]
  grind
theorem centsR_mq {s b : Bool} {V : Nat} {n d : List UInt8} (h : Is (mq s V 100) b n d) : centsR b n d = if i64m (sv s V) then some (sv s V) else none := by
  unfold centsR centsQ
  rw [if_pos (rightR_of h), ratOf_is h, cents_mq, Rat.mul_div_cancel cent_ne, Rat.den_intCast, Rat.num_intCast]
  by_cases hr : i64m (sv s V)
  · rw [if_pos hr, if_pos ⟨rfl, hr⟩]
  · rw [if_neg hr, if_neg (fun h => hr h.2)]
theorem wtx_inj {a b : Int} (ha : i64m a) (hb : i64m b) (h : wtx a = wtx b) : a = b := by
  have h1 := atoi_wtx ha.1 ha.2
  rw [h, atoi_wtx hb.1 hb.2] at h1
  injection h1 with h1
  exact h1.symm
theorem byte_ne {a b : UInt8} (h : a ≠ b) : ¬ (a.toNat : Int) = (b.toNat : Int) := fun e => h (UInt8.toNat_inj.1 (by omega))
theorem dig_rng {b : UInt8} (h : isDig b = true) : 48 ≤ (b.toNat : Int) ∧ (b.toNat : Int) ≤ 57 := by
  simp only [isDig, Bool.and_eq_true, decide_eq_true_eq] at h
  omega
theorem dig_not {b : UInt8} (h : ¬ isDig b = true) : (b.toNat : Int) < 48 ∨ 57 < (b.toNat : Int) := by
  simp only [isDig, Bool.and_eq_true, decide_eq_true_eq] at h
  omega
/-- What is answered: nothing, and no amount has this text; or the amount whose text it is. -/
def Ansd (s : List UInt8) (b2 r2 : Bool) (m2 f2 : List UInt8) : Prop := (b2 = false ∧ r2 = false ∧ m2 = [] ∧ f2 = [] ∧ ∀ c, i64m c → wtx c ≠ s) ∨ (b2 = true ∧ ∃ c, i64m c ∧ wtx c = s ∧ Is ((c : Rat) * (1 / 100)) r2 m2 f2)
theorem Ansd.no {s : List UInt8} {b2 r2 : Bool} {m2 f2 : List UInt8} (h : Ansd s b2 r2 m2 f2) (hn : ∀ c, i64m c → wtx c ≠ s) : b2 = false ∧ r2 = false ∧ m2 = [] ∧ f2 = [] := by
  rcases h with ⟨h1, h2, h3, h4, -⟩ | ⟨-, c, hc, hw, -⟩
  · exact ⟨h1, h2, h3, h4⟩
  · exact absurd hw (hn c hc)
theorem rt_hundred : Rt [100] := .inr ⟨100, [], rfl, by decide⟩
set_option maxHeartbeats 1600000 in
theorem rp_neg {c0 c1 e d1 d2 : UInt8} {m : List UInt8} {b2 r2 : Bool} {m2 f2 : List UInt8} (h40 : (c0 :: c1 :: (m ++ [e, d1, d2])).length ≤ 40) (h0 : c0 = 36) (he : e = 46) (h1 : c1 = 45) (ha : Ansd (c0 :: c1 :: (m ++ [e, d1, d2])) b2 r2 m2 f2) :
    AnsM 33 #[S (c0 :: c1 :: (m ++ [e, d1, d2]))] (.tuple #[Rv r2 m2 f2, .bool b2]) := by
  obtain ⟨s, hs⟩ : ∃ s, c0 :: c1 :: (m ++ [e, d1, d2]) = s := ⟨_, rfl⟩
  rw [hs] at h40 ha ⊢
  have hlen : s.length = m.length + 5 := by rw [← hs]; simp
  have hsh : ∀ c, wtx c = s → isDig d1 = true ∧ isDig d2 = true ∧ 10 * (d1.toNat - 48) + (d2.toNat - 48) = c.natAbs % 100 ∧ m = Lib.decDigits (c.natAbs / 100) ∧ c < 0 := fun c hc => by
    obtain ⟨-, -, ⟨q1, q2, q3⟩, q4⟩ := wtx_shape (hc.trans hs.symm)
    rcases q4 with ⟨q4, q5, q6⟩ | ⟨q4, q5, q6⟩
    · exact ⟨q1, q2, q3, q6, q4⟩
    · exact absurd h1 q5
  have i0 : ∀ h', (ByteArray.mk s.toArray)[0]'h' = c0 := fun h' => at_end (A := []) (B := c1 :: (m ++ [e, d1, d2])) hs.symm rfl h'
  have i1 : ∀ h', (ByteArray.mk s.toArray)[1]'h' = c1 := fun h' => at_end (A := [c0]) (B := m ++ [e, d1, d2]) hs.symm rfl h'
  have ij : ∀ h', (ByteArray.mk s.toArray)[m.length + 2]'h' = e := fun h' => at_end (A := c0 :: c1 :: m) (B := [d1, d2]) hs.symm (by simp) h'
  have ii : ∀ h', (ByteArray.mk s.toArray)[m.length + 3]'h' = d1 := fun h' => at_end (A := c0 :: c1 :: (m ++ [e])) (B := [d2]) (by rw [← hs]; simp) (by simp) h'
  have ik : ∀ h', (ByteArray.mk s.toArray)[m.length + 4]'h' = d2 := fun h' => at_end (A := c0 :: c1 :: (m ++ [e, d1])) (B := []) (by rw [← hs]; simp) (by simp) h'
  have hx : (ByteArray.mk s.toArray).extract 2 (m.length + 2) = ⟨(m).toArray⟩ := ext_mid (A := [c0, c1]) (B := m) (C := [e, d1, d2]) hs.symm rfl (by simp; omega)
  have z0 : (c0.toNat : Int) = 36 := by rw [h0]; rfl
  have ze : (e.toNat : Int) = 46 := by rw [he]; rfl
  have z1 : (c1.toNat : Int) = 45 := by rw [h1]; rfl
  have n5 : 5 ≤ s.length := by omega
  have ni : (s.length : Int) - 2 = ((m.length + 3 : Nat) : Int) := by omega
  have nj : (s.length : Int) - 3 = ((m.length + 2 : Nat) : Int) := by omega
  have nk : (s.length : Int) - 1 = ((m.length + 4 : Nat) : Int) := by omega
  have hl : (m).length ≤ 40 := by omega
  have P1 := fun w => rparse_any m w (by omega)
  by_cases hB : decB m = true
  · rw [hB, if_pos rfl] at P1
    by_cases g1 : isDig d1 = true
    · obtain ⟨a1, b1⟩ := dig_rng g1
      obtain ⟨v1, hv1⟩ : ∃ v : Int, (d1.toNat : Int) - 48 = v := ⟨_, rfl⟩
      by_cases g2 : isDig d2 = true
      · obtain ⟨a2, b2'⟩ := dig_rng g2
        obtain ⟨v2, hv2⟩ : ∃ v : Int, 10 * v1 + ((d2.toNat : Int) - 48) = v := ⟨_, rfl⟩
        have hv0 : 0 ≤ v2 ∧ v2 ≤ 99 := by omega
        have hvn : v2.toNat = 10 * (d1.toNat - 48) + (d2.toNat - 48) := by omega
        have hdl := dcv_below m (decB_dig hB)
        have h256 : dcv m < 256 ^ 40 := Nat.lt_of_lt_of_le hdl (Nat.le_trans (Nat.pow_le_pow_right (by decide) hl) (Nat.pow_le_pow_left (by decide) 40))
        obtain ⟨p, hp, vp⟩ := has_nb (dcv m)
        rw [hp] at P1
        obtain ⟨p1, hp1, vp1⟩ := has_nb (dcv m * 100)
        obtain ⟨p2, hp2, vp2⟩ := has_nb v2.toNat
        obtain ⟨V, hV⟩ : ∃ V, dcv m * 100 + v2.toNat = V := ⟨_, rfl⟩
        obtain ⟨p3, hp3, vp3⟩ := has_nb V
        obtain ⟨K, hK⟩ : ∃ K, K = 40 := ⟨_, rfl⟩
        rw [← hK] at h256
        have l0 := nbl' K hp h256
        have l1 := nbl' (K + 1) hp1 (by rw [Nat.pow_succ]; omega)
        have l2 := nbl' 1 hp2 (by show _ < 256; omega)
        have l3 := nbl' (K + 1) hp3 (by have : 1 ≤ 256 ^ K := Nat.one_le_pow _ _ (by decide); rw [Nat.pow_succ]; omega)
        have hkey : ∀ c, i64m c → wtx c = s → c = sv true V := fun c hc hw => by
          obtain ⟨-, -, q3, q4, q5⟩ := hsh c hw
          have q6 : dcv m = c.natAbs / 100 := by rw [q4]; exact (digs_all _).2
          have q7 : V = c.natAbs := by rw [← hV, q6, hvn]; omega
          rw [q7]
          show c = -(c.natAbs : Int)
          omega
        obtain ⟨r, n1, f, iq⟩ := Is.ex (mq true V 100)
        have hcr := centsR_mq iq
        have zq : Szq (mq true V 100) (K + 1) := Szq.mq (by decide) (by rw [← vp3]; exact bv_b l3) (by have : 1 ≤ 256 ^ K := Nat.one_le_pow _ _ (by decide); rw [Nat.pow_succ]; omega)
        obtain ⟨ln, lf⟩ := zq.len iq
        have H5 := C_radd (a := p1) (b := p2) (n := V) hp3 (by omega) (by omega) (by rw [vp1, vp2, hV])
        have H6 := C_rMake (s := true) (n := p3) (d := [100]) (r := r) (k := n1) (f := f) (by omega) (by decide) (hp3 ▸ rt_nb _) rt_hundred (by simp) (by rw [vp3, show bv [100] = 100 from rfl]; exact iq)
        have H4 := C_refOf (n := v2) hp2 (by omega) (by omega)
        have H3 := C_rmul (a := p) (b := [100]) (n := dcv m * 100) hp1 (by omega) (by decide) (by rw [vp]; rfl)
        by_cases hr : i64m (sv true V)
        · rw [if_pos hr] at hcr
          have H7 := C_rmText_yes (by omega) (by omega) hcr rfl
          have iq2 := iq
          rw [cents_mq] at iq2
          by_cases hw : wtx (sv true V) = s
          · rcases ha with ⟨-, -, -, -, hno⟩ | ⟨rfl, c, hc, hcw, ic⟩
            · exact absurd hw (hno _ hr)
            · obtain rfl := hkey c hc hcw
              obtain ⟨rfl, rfl, rfl⟩ := ic.eqs iq2
              exact rp_good_neg rfl n5 h40 ni nj i0 z0 ij ze i1 z1 hx ii nk ik a1 b1 hv1 a2 b2' hv2 P1 C_ref100 H3 H4 H5 H6 H7 (.inr (.inr ⟨rfl, hw, rfl, rfl, rfl, rfl⟩))
          · obtain ⟨rfl, rfl, rfl, rfl⟩ := ha.no (fun c hc hcw => hw (by rw [← hkey c hc hcw]; exact hcw))
            exact rp_good_neg rfl n5 h40 ni nj i0 z0 ij ze i1 z1 hx ii nk ik a1 b1 hv1 a2 b2' hv2 P1 C_ref100 H3 H4 H5 H6 H7 (.inr (.inl ⟨rfl, hw, rfl, rfl, rfl, rfl⟩))
        · rw [if_neg hr] at hcr
          have H7 := C_rmText_no (by omega) (by omega) hcr
          obtain ⟨rfl, rfl, rfl, rfl⟩ := ha.no (fun c hc hcw => hr (by rw [← hkey c hc hcw]; exact hc))
          exact rp_good_neg rfl n5 h40 ni nj i0 z0 ij ze i1 z1 hx ii nk ik a1 b1 hv1 a2 b2' hv2 P1 C_ref100 H3 H4 H5 H6 H7 (.inl ⟨rfl, rfl, rfl, rfl, rfl⟩)
      · obtain ⟨rfl, rfl, rfl, rfl⟩ := ha.no (fun c _ hcw => g2 (hsh c hcw).2.1)
        exact rp_last2_neg rfl n5 h40 ni nj i0 z0 ij ze i1 z1 hx ii nk ik a1 b1 hv1 (dig_not g2) P1
    · obtain ⟨rfl, rfl, rfl, rfl⟩ := ha.no (fun c _ hcw => g1 (hsh c hcw).1)
      exact rp_last1_neg rfl n5 h40 ni nj i0 z0 ij ze i1 z1 hx ii nk ik (dig_not g1) P1
  · rw [Bool.not_eq_true] at hB
    rw [hB, if_neg (by simp)] at P1
    obtain ⟨rfl, rfl, rfl, rfl⟩ := ha.no (fun c _ hcw => by
      have := dec_ok (c.natAbs / 100)
      rw [← (hsh c hcw).2.2.2.1, hB] at this
      cases this)
    exact rp_digits_neg rfl n5 h40 ni nj i0 z0 ij ze i1 z1 hx P1
set_option maxHeartbeats 1600000 in
theorem rp_pos {c0 c1 e d1 d2 : UInt8} {m : List UInt8} {b2 r2 : Bool} {m2 f2 : List UInt8} (h40 : (c0 :: c1 :: (m ++ [e, d1, d2])).length ≤ 40) (h0 : c0 = 36) (he : e = 46) (h1 : c1 ≠ 45) (ha : Ansd (c0 :: c1 :: (m ++ [e, d1, d2])) b2 r2 m2 f2) :
    AnsM 33 #[S (c0 :: c1 :: (m ++ [e, d1, d2]))] (.tuple #[Rv r2 m2 f2, .bool b2]) := by
  obtain ⟨s, hs⟩ : ∃ s, c0 :: c1 :: (m ++ [e, d1, d2]) = s := ⟨_, rfl⟩
  rw [hs] at h40 ha ⊢
  have hlen : s.length = m.length + 5 := by rw [← hs]; simp
  have hsh : ∀ c, wtx c = s → isDig d1 = true ∧ isDig d2 = true ∧ 10 * (d1.toNat - 48) + (d2.toNat - 48) = c.natAbs % 100 ∧ c1 :: m = Lib.decDigits (c.natAbs / 100) ∧ ¬ c < 0 := fun c hc => by
    obtain ⟨-, -, ⟨q1, q2, q3⟩, q4⟩ := wtx_shape (hc.trans hs.symm)
    rcases q4 with ⟨q4, q5, q6⟩ | ⟨q4, q5, q6⟩
    · exact absurd q5 h1
    · exact ⟨q1, q2, q3, q6, q4⟩
  have i0 : ∀ h', (ByteArray.mk s.toArray)[0]'h' = c0 := fun h' => at_end (A := []) (B := c1 :: (m ++ [e, d1, d2])) hs.symm rfl h'
  have i1 : ∀ h', (ByteArray.mk s.toArray)[1]'h' = c1 := fun h' => at_end (A := [c0]) (B := m ++ [e, d1, d2]) hs.symm rfl h'
  have ij : ∀ h', (ByteArray.mk s.toArray)[m.length + 2]'h' = e := fun h' => at_end (A := c0 :: c1 :: m) (B := [d1, d2]) hs.symm (by simp) h'
  have ii : ∀ h', (ByteArray.mk s.toArray)[m.length + 3]'h' = d1 := fun h' => at_end (A := c0 :: c1 :: (m ++ [e])) (B := [d2]) (by rw [← hs]; simp) (by simp) h'
  have ik : ∀ h', (ByteArray.mk s.toArray)[m.length + 4]'h' = d2 := fun h' => at_end (A := c0 :: c1 :: (m ++ [e, d1])) (B := []) (by rw [← hs]; simp) (by simp) h'
  have hx : (ByteArray.mk s.toArray).extract 1 (m.length + 2) = ⟨(c1 :: m).toArray⟩ := ext_mid (A := [c0]) (B := c1 :: m) (C := [e, d1, d2]) hs.symm rfl (by simp; omega)
  have z0 : (c0.toNat : Int) = 36 := by rw [h0]; rfl
  have ze : (e.toNat : Int) = 46 := by rw [he]; rfl
  have z1 : ¬ (c1.toNat : Int) = 45 := byte_ne (b := 45) h1
  have n5 : 5 ≤ s.length := by omega
  have ni : (s.length : Int) - 2 = ((m.length + 3 : Nat) : Int) := by omega
  have nj : (s.length : Int) - 3 = ((m.length + 2 : Nat) : Int) := by omega
  have nk : (s.length : Int) - 1 = ((m.length + 4 : Nat) : Int) := by omega
  have hl : (c1 :: m).length ≤ 40 := by rw [List.length_cons]; omega
  obtain ⟨mid, hmid⟩ : ∃ l, c1 :: m = l := ⟨_, rfl⟩
  rw [hmid] at hsh hx hl
  have P1 := fun w => rparse_any mid w (by omega)
  by_cases hB : decB mid = true
  · rw [hB, if_pos rfl] at P1
    by_cases g1 : isDig d1 = true
    · obtain ⟨a1, b1⟩ := dig_rng g1
      obtain ⟨v1, hv1⟩ : ∃ v : Int, (d1.toNat : Int) - 48 = v := ⟨_, rfl⟩
      by_cases g2 : isDig d2 = true
      · obtain ⟨a2, b2'⟩ := dig_rng g2
        obtain ⟨v2, hv2⟩ : ∃ v : Int, 10 * v1 + ((d2.toNat : Int) - 48) = v := ⟨_, rfl⟩
        have hv0 : 0 ≤ v2 ∧ v2 ≤ 99 := by omega
        have hvn : v2.toNat = 10 * (d1.toNat - 48) + (d2.toNat - 48) := by omega
        have hdl := dcv_below mid (decB_dig hB)
        have h256 : dcv mid < 256 ^ 40 := Nat.lt_of_lt_of_le hdl (Nat.le_trans (Nat.pow_le_pow_right (by decide) hl) (Nat.pow_le_pow_left (by decide) 40))
        obtain ⟨p, hp, vp⟩ := has_nb (dcv mid)
        rw [hp] at P1
        obtain ⟨p1, hp1, vp1⟩ := has_nb (dcv mid * 100)
        obtain ⟨p2, hp2, vp2⟩ := has_nb v2.toNat
        obtain ⟨V, hV⟩ : ∃ V, dcv mid * 100 + v2.toNat = V := ⟨_, rfl⟩
        obtain ⟨p3, hp3, vp3⟩ := has_nb V
        obtain ⟨K, hK⟩ : ∃ K, K = 40 := ⟨_, rfl⟩
        rw [← hK] at h256
        have l0 := nbl' K hp h256
        have l1 := nbl' (K + 1) hp1 (by rw [Nat.pow_succ]; omega)
        have l2 := nbl' 1 hp2 (by show _ < 256; omega)
        have l3 := nbl' (K + 1) hp3 (by have : 1 ≤ 256 ^ K := Nat.one_le_pow _ _ (by decide); rw [Nat.pow_succ]; omega)
        have hkey : ∀ c, i64m c → wtx c = s → c = sv false V := fun c hc hw => by
          obtain ⟨-, -, q3, q4, q5⟩ := hsh c hw
          have q6 : dcv mid = c.natAbs / 100 := by rw [q4]; exact (digs_all _).2
          have q7 : V = c.natAbs := by rw [← hV, q6, hvn]; omega
          rw [q7]
          show c = (c.natAbs : Int)
          omega
        obtain ⟨r, n1, f, iq⟩ := Is.ex (mq false V 100)
        have hcr := centsR_mq iq
        have zq : Szq (mq false V 100) (K + 1) := Szq.mq (by decide) (by rw [← vp3]; exact bv_b l3) (by have : 1 ≤ 256 ^ K := Nat.one_le_pow _ _ (by decide); rw [Nat.pow_succ]; omega)
        obtain ⟨ln, lf⟩ := zq.len iq
        have H5 := C_radd (a := p1) (b := p2) (n := V) hp3 (by omega) (by omega) (by rw [vp1, vp2, hV])
        have H6 := C_rMake (s := false) (n := p3) (d := [100]) (r := r) (k := n1) (f := f) (by omega) (by decide) (hp3 ▸ rt_nb _) rt_hundred (by simp) (by rw [vp3, show bv [100] = 100 from rfl]; exact iq)
        have H4 := C_refOf (n := v2) hp2 (by omega) (by omega)
        have H3 := C_rmul (a := p) (b := [100]) (n := dcv mid * 100) hp1 (by omega) (by decide) (by rw [vp]; rfl)
        by_cases hr : i64m (sv false V)
        · rw [if_pos hr] at hcr
          have H7 := C_rmText_yes (by omega) (by omega) hcr rfl
          have iq2 := iq
          rw [cents_mq] at iq2
          by_cases hw : wtx (sv false V) = s
          · rcases ha with ⟨-, -, -, -, hno⟩ | ⟨rfl, c, hc, hcw, ic⟩
            · exact absurd hw (hno _ hr)
            · obtain rfl := hkey c hc hcw
              obtain ⟨rfl, rfl, rfl⟩ := ic.eqs iq2
              exact rp_good_pos rfl n5 h40 ni nj i0 z0 ij ze i1 z1 hx ii nk ik a1 b1 hv1 a2 b2' hv2 P1 C_ref100 H3 H4 H5 H6 H7 (.inr (.inr ⟨rfl, hw, rfl, rfl, rfl, rfl⟩))
          · obtain ⟨rfl, rfl, rfl, rfl⟩ := ha.no (fun c hc hcw => hw (by rw [← hkey c hc hcw]; exact hcw))
            exact rp_good_pos rfl n5 h40 ni nj i0 z0 ij ze i1 z1 hx ii nk ik a1 b1 hv1 a2 b2' hv2 P1 C_ref100 H3 H4 H5 H6 H7 (.inr (.inl ⟨rfl, hw, rfl, rfl, rfl, rfl⟩))
        · rw [if_neg hr] at hcr
          have H7 := C_rmText_no (by omega) (by omega) hcr
          obtain ⟨rfl, rfl, rfl, rfl⟩ := ha.no (fun c hc hcw => hr (by rw [← hkey c hc hcw]; exact hc))
          exact rp_good_pos rfl n5 h40 ni nj i0 z0 ij ze i1 z1 hx ii nk ik a1 b1 hv1 a2 b2' hv2 P1 C_ref100 H3 H4 H5 H6 H7 (.inl ⟨rfl, rfl, rfl, rfl, rfl⟩)
      · obtain ⟨rfl, rfl, rfl, rfl⟩ := ha.no (fun c _ hcw => g2 (hsh c hcw).2.1)
        exact rp_last2_pos rfl n5 h40 ni nj i0 z0 ij ze i1 z1 hx ii nk ik a1 b1 hv1 (dig_not g2) P1
    · obtain ⟨rfl, rfl, rfl, rfl⟩ := ha.no (fun c _ hcw => g1 (hsh c hcw).1)
      exact rp_last1_pos rfl n5 h40 ni nj i0 z0 ij ze i1 z1 hx ii nk ik (dig_not g1) P1
  · rw [Bool.not_eq_true] at hB
    rw [hB, if_neg (by simp)] at P1
    obtain ⟨rfl, rfl, rfl, rfl⟩ := ha.no (fun c _ hcw => by
      have := dec_ok (c.natAbs / 100)
      rw [← (hsh c hcw).2.2.2.1, hB] at this
      cases this)
    exact rp_digits_pos rfl n5 h40 ni nj i0 z0 ij ze i1 z1 hx P1
/-- The reference's Parse, at every text. -/
theorem C_rmParse {s : List UInt8} {b2 r2 : Bool} {m2 f2 : List UInt8} (ha : Ansd s b2 r2 m2 f2) : AnsM 33 #[S s] (.tuple #[Rv r2 m2 f2, .bool b2]) := by
  by_cases h5 : s.length < 5
  · obtain ⟨rfl, rfl, rfl, rfl⟩ := ha.no (fun c hc e => by have := (wtx_lens hc).1; rw [e] at this; omega)
    exact rp_short rfl h5
  by_cases h40 : 40 < s.length
  · obtain ⟨rfl, rfl, rfl, rfl⟩ := ha.no (fun c hc e => by have := (wtx_lens hc).2; rw [e] at this; omega)
    exact rp_long rfl h40
  obtain ⟨c0, c1, m, e, d1, d2, rfl⟩ := shape_of (s := s) (by omega)
  have hlen : (c0 :: c1 :: (m ++ [e, d1, d2])).length = m.length + 5 := by simp
  have i0 : ∀ h', (ByteArray.mk (c0 :: c1 :: (m ++ [e, d1, d2])).toArray)[0]'h' = c0 := fun h' => at_end (A := []) (B := c1 :: (m ++ [e, d1, d2])) rfl rfl h'
  have ij : ∀ h', (ByteArray.mk (c0 :: c1 :: (m ++ [e, d1, d2])).toArray)[m.length + 2]'h' = e := fun h' => at_end (A := c0 :: c1 :: m) (B := [d1, d2]) rfl (by simp) h'
  have ni : ((c0 :: c1 :: (m ++ [e, d1, d2])).length : Int) - 2 = ((m.length + 3 : Nat) : Int) := by omega
  have nj : ((c0 :: c1 :: (m ++ [e, d1, d2])).length : Int) - 3 = ((m.length + 2 : Nat) : Int) := by omega
  by_cases h0 : c0 = 36
  · by_cases he : e = 46
    · by_cases h1 : c1 = 45
      · exact rp_neg (by omega) h0 he h1 ha
      · exact rp_pos (by omega) h0 he h1 ha
    · obtain ⟨rfl, rfl, rfl, rfl⟩ := ha.no (fun c _ hw => he (wtx_shape hw).2.1)
      exact rp_point rfl (by omega) (by omega) ni nj i0 (by rw [h0]; rfl) ij (byte_ne (b := 46) he)
  · obtain ⟨rfl, rfl, rfl, rfl⟩ := ha.no (fun c _ hw => h0 (wtx_shape hw).1)
    exact rp_sign rfl (by omega) (by omega) ni nj i0 (byte_ne (b := 36) h0)
end Go.Proofs.YtnblmmhpndnjcaaGreatDoor
