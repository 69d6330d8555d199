/- Plain mathematics of rational numbers, and how they are written. -/
import Derived.Test.YtkeomlpecjjhiaaGreatDoorGb
namespace Go.Proofs.YtkeomlpecjjhiaaGreatDoor
open Go.RowKit
theorem mm0 {α : Type _} {a : α} {l : List α} : a ∈ a :: l := .head _
theorem mm1 {α : Type _} {a b : α} {l : List α} : b ∈ a :: b :: l := .tail _ mm0
theorem mm2 {α : Type _} {a b c : α} {l : List α} : c ∈ a :: b :: c :: l := .tail _ mm1
theorem mm3 {α : Type _} {a b c d : α} {l : List α} : d ∈ a :: b :: c :: d :: l := .tail _ mm2
theorem mm4 {α : Type _} {a b c d e : α} {l : List α} : e ∈ a :: b :: c :: d :: e :: l := .tail _ mm3
theorem mm5 {α : Type _} {a b c d e f : α} {l : List α} : f ∈ a :: b :: c :: d :: e :: f :: l := .tail _ mm4
theorem mm6 {α : Type _} {a b c d e f g : α} {l : List α} : g ∈ a :: b :: c :: d :: e :: f :: g :: l := .tail _ mm5
theorem mm7 {α : Type _} {a b c d e f g h : α} {l : List α} : h ∈ a :: b :: c :: d :: e :: f :: g :: h :: l := .tail _ mm6
theorem rmul_parts (a b : Rat) : (a * b).num = (a.num / (Nat.gcd a.num.natAbs b.den : Nat)) * (b.num / (Nat.gcd b.num.natAbs a.den : Nat)) ∧ (a * b).den = (a.den / Nat.gcd b.num.natAbs a.den) * (b.den / Nat.gcd a.num.natAbs b.den) := by
 show (Rat.mul a b).num = _ ∧ (Rat.mul a b).den = _
 unfold Rat.mul
 simp
theorem radd_parts (a b : Rat) : (a + b).num = (a.num * (b.den / Nat.gcd a.den b.den : Nat) + b.num * (a.den / Nat.gcd a.den b.den : Nat)) / (Nat.gcd (a.num * (b.den / Nat.gcd a.den b.den : Nat) + b.num * (a.den / Nat.gcd a.den b.den : Nat)).natAbs (Nat.gcd a.den b.den) : Nat) ∧ (a + b).den = (a.den / Nat.gcd a.den b.den * b.den) / Nat.gcd (a.num * (b.den / Nat.gcd a.den b.den : Nat) + b.num * (a.den / Nat.gcd a.den b.den : Nat)).natAbs (Nat.gcd a.den b.den) := by
 show (Rat.add a b).num = _ ∧ (Rat.add a b).den = _
 unfold Rat.add
 by_cases h : a.den.gcd b.den = 1
 ·simp [h]
 ·simp only [h, dif_neg, not_false_eq_true]
  unfold Rat.maybeNormalize
  split
  ·rename_i h1
   simp only [h1, Int.natCast_one, Int.ediv_one, Nat.div_one, and_self]
  ·simp
theorem rinv_parts (a : Rat) (h : a ≠ 0) : (a⁻¹).num = (if a.num < 0 then -(a.den : Int) else a.den) ∧ (a⁻¹).den = a.num.natAbs := by
 show (Rat.inv a).num = _ ∧ (Rat.inv a).den = _
 unfold Rat.inv
 have h0 : a.num ≠ 0 := fun e => h (Rat.num_eq_zero.1 e)
 by_cases h1 : a.num < 0
 ·simp [h1]
 ·have h2 : a.num > 0 := by omega
  simp [h1, h2]
def sv (neg : Bool) (n : Nat) : Int := if neg then -(n : Int) else n
theorem sv_abs (neg : Bool) (n : Nat) : (sv neg n).natAbs = n := by unfold sv; split <;> simp
theorem sv_neg (neg : Bool) (n : Nat) : decide (sv neg n < 0) = (neg && n != 0) := by
 unfold sv
 cases neg
 ·simp
 ·rw [Bool.eq_iff_iff]
  simp
  omega
theorem sv_of (z : Int) : sv (decide (z < 0)) z.natAbs = z := by
 unfold sv
 split <;> rename_i h <;> simp at h <;> omega
theorem sv_mul (s t : Bool) (m n : Nat) : sv s m * sv t n = sv (s != t) (m * n) := by
 unfold sv
 cases s <;> cases t <;> simp [Int.neg_mul, Int.mul_neg]
theorem sv_div (s : Bool) (n g : Nat) (h : g ∣ n) : sv s n / (g : Int) = sv s (n / g) := by
 unfold sv
 cases s
 ·simp
 ·simp only [if_true]
  rw [Int.neg_ediv_of_dvd (Int.ofNat_dvd.2 h)]
  simp
def mq (s : Bool) (n d : Nat) : Rat := mkRat (sv s n) d
theorem mq_parts (s : Bool) (n d : Nat) (h : d ≠ 0) : (mq s n d).num = sv s (n / Nat.gcd n d) ∧ (mq s n d).den = d / Nat.gcd n d := by
 unfold mq
 rw [Rat.num_mkRat, Rat.den_mkRat, if_neg h, if_neg h, sv_abs, Nat.gcd_comm]
 exact ⟨sv_div _ _ _ (Nat.gcd_dvd_left _ _), rfl⟩
theorem mq_add (a b : Rat) (s : Bool) (n d : Nat) (h : sv s n = a.num * b.den + b.num * a.den) (hd : d = a.den * b.den) : a + b = mq s n d := by
 unfold mq
 rw [Rat.add_def', h, hd]
theorem mq_mul (a b : Rat) (s : Bool) (n d : Nat) (h : sv s n = a.num * b.num) (hd : d = a.den * b.den) : a * b = mq s n d := by
 unfold mq
 rw [Rat.mul_def', h, hd]
theorem mq_div (a b : Rat) (hb : b ≠ 0) : a / b = mq (decide (a.num < 0) != decide (b.num < 0)) (a.num.natAbs * b.den) (a.den * b.num.natAbs) := by
 rw [Rat.div_def]
 obtain ⟨h1, h2⟩ := rinv_parts b hb
 refine mq_mul a b⁻¹ _ _ _ ?_ (by rw [h2])
 rw [← sv_mul, sv_of, h1]
 unfold sv
 congr 1
 simp
theorem rpos_den (q : Rat) : 0 < q.den := Nat.pos_of_ne_zero q.den_nz
theorem rgcd_one (q : Rat) : Nat.gcd q.num.natAbs q.den = 1 := q.reduced
theorem plus_way (a b : Rat) (g n : Nat) (s : Bool) (hg : Nat.gcd a.den b.den = g) (hs : sv s n = a.num * (b.den / g : Nat) + b.num * (a.den / g : Nat)) :
  (a + b).num = sv s (n / Nat.gcd n g) ∧ (a + b).den = a.den / g * (b.den / Nat.gcd n g) := by
 obtain ⟨h1, h2⟩ := radd_parts a b
 rw [hg, ← hs, sv_abs] at h1 h2
 refine ⟨by rw [h1]; exact sv_div _ _ _ (Nat.gcd_dvd_left _ _), ?_⟩
 rw [h2, Nat.mul_div_assoc]
 exact Nat.dvd_trans (Nat.gcd_dvd_right _ _) (hg ▸ Nat.gcd_dvd_right _ _)
theorem times_way (a b : Rat) (g h : Nat) (hg : Nat.gcd a.num.natAbs b.den = g) (hh : Nat.gcd b.num.natAbs a.den = h) :
  (a * b).num = sv (decide (a.num < 0) != decide (b.num < 0)) (a.num.natAbs / g * (b.num.natAbs / h)) ∧ (a * b).den = a.den / h * (b.den / g) := by
 obtain ⟨h1, h2⟩ := rmul_parts a b
 rw [hg, hh] at h1 h2
 refine ⟨?_, h2⟩
 rw [h1, ← sv_mul]
 congr 1
 ·have := sv_div (decide (a.num < 0)) a.num.natAbs g (hg ▸ Nat.gcd_dvd_left _ _)
  rw [sv_of] at this
  exact this
 ·have := sv_div (decide (b.num < 0)) b.num.natAbs h (hh ▸ Nat.gcd_dvd_left _ _)
  rw [sv_of] at this
  exact this
def sgr (q : Rat) : Int := Int.sign q.num
theorem sgr_mk (n : Int) (d : Nat) (h : d ≠ 0) : sgr (mkRat n d) = Int.sign n := by
 unfold sgr
 rw [Rat.num_mkRat, if_neg h]
 have hg : 0 < Nat.gcd d n.natAbs := Nat.gcd_pos_of_pos_left _ (Nat.pos_of_ne_zero h)
 have hd : ((Nat.gcd d n.natAbs : Nat) : Int) ∣ n := Int.ofNat_dvd_left.2 (Nat.gcd_dvd_right _ _)
 obtain ⟨k, hk⟩ := hd
 generalize Nat.gcd d n.natAbs = g at *
 have hgp : (0 : Int) < (g : Int) := by omega
 have hg1 : (g : Int).sign = 1 := Int.sign_eq_one_of_pos hgp
 rw [hk, Int.mul_ediv_cancel_left _ (Int.ne_of_gt hgp), Int.sign_mul, hg1, Int.one_mul]
theorem sgr_mul (a b : Rat) : sgr (a * b) = sgr a * sgr b := by
 rw [Rat.mul_def', sgr_mk _ _ (Nat.mul_ne_zero a.den_nz b.den_nz), Int.sign_mul]
 rfl
def Szq (q : Rat) (k : Nat) : Prop := q.num.natAbs < 256 ^ k ∧ q.den < 256 ^ k
theorem Szq.mono {q : Rat} {k m : Nat} (h : Szq q k) (hm : k ≤ m) : Szq q m :=
 ⟨Nat.lt_of_lt_of_le h.1 (Nat.pow_le_pow_right (by omega) hm), Nat.lt_of_lt_of_le h.2 (Nat.pow_le_pow_right (by omega) hm)⟩
theorem Szq.mq {s : Bool} {n d k : Nat} (h0 : d ≠ 0) (hn : n < 256 ^ k) (hd : d < 256 ^ k) : Szq (mq s n d) k := by
 obtain ⟨h1, h2⟩ := mq_parts s n d h0
 refine ⟨?_, ?_⟩
 ·rw [h1, sv_abs]; exact Nat.lt_of_le_of_lt (Nat.div_le_self _ _) hn
 ·rw [h2]; exact Nat.lt_of_le_of_lt (Nat.div_le_self _ _) hd
theorem mul_lt_pow {a b k m : Nat} (ha : a < 256 ^ k) (hb : b < 256 ^ m) : a * b < 256 ^ (k + m) := by
 rw [Nat.pow_add]
 exact Nat.mul_lt_mul'' ha hb
theorem Szq.mul {a b : Rat} {k m : Nat} (ha : Szq a k) (hb : Szq b m) : Szq (a * b) (k + m) := by
 rw [mq_mul a b (decide (a.num * b.num < 0)) (a.num * b.num).natAbs _ (sv_of _) rfl]
 refine Szq.mq (Nat.mul_ne_zero a.den_nz b.den_nz) ?_ (mul_lt_pow ha.2 hb.2)
 rw [Int.natAbs_mul]
 exact mul_lt_pow ha.1 hb.1
theorem Szq.add {a b : Rat} {k m : Nat} (ha : Szq a k) (hb : Szq b m) : Szq (a + b) (k + m + 1) := by
 rw [mq_add a b (decide (a.num * b.den + b.num * a.den < 0)) (a.num * b.den + b.num * a.den).natAbs _ (sv_of _) rfl]
 have h1 := mul_lt_pow ha.2 hb.2
 have h2 := mul_lt_pow ha.1 hb.2
 have h3 := mul_lt_pow hb.1 ha.2
 rw [Nat.add_comm m k] at h3
 refine Szq.mq (Nat.mul_ne_zero a.den_nz b.den_nz) ?_ ?_
 ·have h4 := Int.natAbs_add_le (a.num * b.den) (b.num * a.den)
  rw [Int.natAbs_mul, Int.natAbs_mul, Int.natAbs_natCast, Int.natAbs_natCast] at h4
  rw [Nat.pow_succ]
  omega
 ·rw [Nat.pow_succ]
  omega
theorem Szq.neg {a : Rat} {k : Nat} (h : Szq a k) : Szq (-a) k := by
 unfold Szq
 rw [Rat.neg_num, Rat.neg_den, Int.natAbs_neg]
 exact h
theorem Szq.sub {a b : Rat} {k m : Nat} (ha : Szq a k) (hb : Szq b m) : Szq (a - b) (k + m + 1) := by
 rw [Rat.sub_eq_add_neg]
 exact ha.add hb.neg
theorem Szq.inv {a : Rat} {k : Nat} (ha : Szq a k) (h : a ≠ 0) : Szq a⁻¹ k := by
 obtain ⟨h1, h2⟩ := rinv_parts a h
 refine ⟨?_, by rw [h2]; exact ha.1⟩
 rw [h1]
 have := ha.2
 split <;> simpa using this
theorem Szq.div {a b : Rat} {k m : Nat} (ha : Szq a k) (hb : Szq b m) (h : b ≠ 0) : Szq (a / b) (k + m) := by
 rw [Rat.div_def]
 exact ha.mul (hb.inv h)
abbrev Rv (s : Bool) (n d : List UInt8) : Value := .agg #[.bool s, S n, S d]
def Rq (q : Rat) : Value := Rv (decide (q.num < 0)) (nb q.num.natAbs) (nb q.den)
structure Is (q : Rat) (s : Bool) (n d : List UInt8) : Prop where
 sgn : decide (q.num < 0) = s
 num : nb q.num.natAbs = n
 den : nb q.den = d
theorem Is.eq {q : Rat} {s : Bool} {n d : List UInt8} (h : Is q s n d) : Rq q = Rv s n d := by
 unfold Rq
 rw [h.sgn, h.num, h.den]
theorem Is.ex (q : Rat) : ∃ s n d, Is q s n d := ⟨_, _, _, rfl, rfl, rfl⟩
theorem Is.vn {q : Rat} {s : Bool} {n d : List UInt8} (h : Is q s n d) : bv n = q.num.natAbs := by rw [← h.num, bv_nb]
theorem Is.vd {q : Rat} {s : Bool} {n d : List UInt8} (h : Is q s n d) : bv d = q.den := by rw [← h.den, bv_nb]
theorem Is.val {q : Rat} {s : Bool} {n d : List UInt8} (h : Is q s n d) : sv s (bv n) = q.num := by rw [h.vn, ← h.sgn, sv_of]
theorem Is.pos {q : Rat} {s : Bool} {n d : List UInt8} (h : Is q s n d) : 0 < bv d := by rw [h.vd]; exact rpos_den q
theorem Is.dne {q : Rat} {s : Bool} {n d : List UInt8} (h : Is q s n d) : d ≠ [] := fun e => by
 have := h.pos
 rw [e, bv_nil] at this
 omega
theorem Is.nil {q : Rat} {s : Bool} {n d : List UInt8} (h : Is q s n d) : n = [] ↔ q = 0 := by
 rw [← Rat.num_eq_zero]
 constructor
 ·intro e
  have := h.vn
  rw [e, bv_nil] at this
  omega
 ·intro e
  rw [← h.num, e]
  exact nb_zero
theorem nb_one : nb 1 = [1] := by
 rw [nb_pos 1 (by decide), show 1 / 256 = 0 from rfl, nb_zero]
 rfl
theorem Is.zero : Is 0 false [] [1] := ⟨rfl, nb_zero, nb_one⟩
theorem Is.rtn {q : Rat} {s : Bool} {n d : List UInt8} (h : Is q s n d) : Rt n := h.num ▸ rt_nb _
theorem Is.rtd {q : Rat} {s : Bool} {n d : List UInt8} (h : Is q s n d) : Rt d := h.den ▸ rt_nb _
theorem Is.of {q : Rat} {s : Bool} {k m : Nat} {n d : List UInt8} (h1 : q.num = sv s k) (h2 : q.den = m) (hn : nb k = n) (hd : nb m = d) : Is q (s && k != 0) n d := by
 refine ⟨?_, ?_, ?_⟩
 ·rw [h1, sv_neg]
 ·rw [h1, sv_abs, hn]
 ·rw [h2, hd]
theorem nb_nil_iff (k : Nat) : nb k = [] ↔ k = 0 := by
 constructor
 ·intro h
  have := bv_nb k
  rw [h, bv_nil] at this
  exact this.symm
 ·intro h
  rw [h, nb_zero]
def rightR (s : Bool) (n d : List UInt8) : Bool := rightB n && rightB d && !d.isEmpty && (if n = [] then !s && (d == [1]) else Nat.gcd (bv n) (bv d) == 1)
theorem rightB_iff (l : List UInt8) : rightB l = true ↔ Rt l := by
 unfold rightB Rt
 cases l with
 | nil => simp
 | cons b m => simp
theorem rightR_iff (s : Bool) (n d : List UInt8) : rightR s n d = true ↔ (Rt n ∧ Rt d ∧ d ≠ [] ∧ (if n = [] then s = false ∧ d = [1] else Nat.gcd (bv n) (bv d) = 1)) := by
 unfold rightR
 rw [Bool.and_eq_true, Bool.and_eq_true, Bool.and_eq_true, rightB_iff, rightB_iff]
 split <;> simp [and_assoc]
def ratOf (s : Bool) (n d : List UInt8) : Rat := if rightR s n d then mq s (bv n) (bv d) else 0
theorem rt_pos {l : List UInt8} (h : Rt l) (h0 : l ≠ []) : 0 < bv l := by
 rcases h with e | ⟨b, m, rfl, hb⟩
 ·exact absurd e h0
 ·exact Nat.lt_of_lt_of_le (Nat.pow_pos (by decide)) (bv_pos b m hb)
theorem nb_of_rt {l : List UInt8} (h : Rt l) : nb (bv l) = l := rt_inj _ _ (rt_nb _) h (bv_nb _)
theorem rightR_is {s : Bool} {n d : List UInt8} (h : rightR s n d = true) : Is (ratOf s n d) s n d := by
 unfold ratOf
 rw [if_pos h]
 obtain ⟨h1, h2, h3, h4⟩ := (rightR_iff _ _ _).1 h
 have hd := rt_pos h2 h3
 obtain ⟨e1, e2⟩ := mq_parts s (bv n) (bv d) (by omega)
 by_cases h0 : n = []
 ·rw [if_pos h0] at h4
  obtain ⟨rfl, rfl⟩ := h4
  subst h0
  exact Is.zero
 ·rw [if_neg h0] at h4
  rw [h4, Nat.div_one] at e1 e2
  have hn := rt_pos h1 h0
  refine ⟨?_, ?_, ?_⟩
  ·rw [e1, sv_neg]
   have : (bv n != 0) = true := by rw [bne_iff_ne]; omega
   rw [this, Bool.and_true]
  ·rw [e1, sv_abs, nb_of_rt h1]
  ·rw [e2, nb_of_rt h2]
theorem rightR_of {q : Rat} {s : Bool} {n d : List UInt8} (h : Is q s n d) : rightR s n d = true := by
 refine (rightR_iff _ _ _).2 ⟨h.rtn, h.rtd, h.dne, ?_⟩
 split
 ·rename_i e
  have h0 := h.nil.1 e
  subst h0
  exact ⟨by rw [← h.sgn]; rfl, by rw [← h.den]; exact nb_one⟩
 ·rw [h.vn, h.vd]
  exact rgcd_one q
theorem Is.inj {p q : Rat} {s : Bool} {n d : List UInt8} (h1 : Is p s n d) (h2 : Is q s n d) : p = q := by
 apply Rat.ext
 ·rw [← h1.val, ← h2.val]
 ·rw [← h1.vd, ← h2.vd]
theorem ratOf_is {q : Rat} {s : Bool} {n d : List UInt8} (h : Is q s n d) : ratOf s n d = q := (rightR_is (rightR_of h)).inj h
theorem Szq.len {q : Rat} {s : Bool} {n d : List UInt8} {k : Nat} (h : Szq q k) (hi : Is q s n d) : n.length ≤ k ∧ d.length ≤ k := by
 rw [← hi.num, ← hi.den]
 exact ⟨(nb_len _ _).2 h.1, (nb_len _ _).2 h.2⟩
theorem Szq.of_len {s : Bool} {n d : List UInt8} {k : Nat} (hn : n.length ≤ k) (hd : d.length ≤ k) (hk : 1 ≤ k) : Szq (ratOf s n d) k := by
 unfold ratOf
 split
 ·rename_i h
  obtain ⟨h1, h2, h3, h4⟩ := (rightR_iff _ _ _).1 h
  have := rt_pos h2 h3
  exact Szq.mq (by omega) (bv_b hn) (bv_b hd)
 ·have h2 : (256 : Nat) ^ 1 ≤ 256 ^ k := Nat.pow_le_pow_right (by decide) hk
  exact ⟨by simp; exact Nat.pow_pos (by decide), by simp; omega⟩
end Go.Proofs.YtkeomlpecjjhiaaGreatDoor
