/- Package money: quotas, as rational numbers: all have the sum of the weights as their denominator. -/
import Derived.Test.YtkeomlpecjjhiaaGreatDoorAi
namespace Go.Proofs.YtkeomlpecjjhiaaGreatDoor
def qus (c s : Nat) (X : List Nat) : List Nat := X.map fun x => c * x / s
def rss (c s : Nat) (X : List Nat) : List Nat := X.map fun x => c * x % s
theorem qus_rss (c s : Nat) : ∀ X : List Nat, (qus c s X).sum * s + (rss c s X).sum = c * X.sum
 | [] => by simp [qus, rss]
 | x :: X => by
  have ih := qus_rss c s X
  have hd := Nat.div_add_mod (c * x) s
  simp only [qus, rss, List.map_cons, List.sum_cons] at ih ⊢
  rw [Nat.add_mul, Nat.mul_add, ← ih, Nat.mul_comm (c * x / s) s]
  generalize s * (c * x / s) = A at hd ⊢
  generalize c * x % s = R at hd ⊢
  generalize c * x = T at hd ⊢
  omega
theorem rss_lt (c s : Nat) (hs : 0 < s) : ∀ X : List Nat, X ≠ [] → (rss c s X).sum < X.length * s
 | [], h => (h rfl).elim
 | [x], _ => by
  have := Nat.mod_lt (c * x) hs
  simp only [rss, List.map_cons, List.map_nil, List.sum_cons, List.sum_nil, List.length_cons, List.length_nil]
  omega
 | x :: y :: X, _ => by
  have ih := rss_lt c s hs (y :: X) (by simp)
  have := Nat.mod_lt (c * x) hs
  simp only [rss, List.map_cons, List.sum_cons, List.length_cons] at ih ⊢
  rw [Nat.add_mul (X.length + 1) 1 s, Nat.one_mul]
  omega
theorem left_le (c : Nat) (X : List Nat) (hs : 0 < X.sum) : (qus c X.sum X).sum ≤ c := by
 have h := qus_rss c X.sum X
 exact Nat.le_of_mul_le_mul_right (Nat.le_trans (Nat.le_add_right _ _) (Nat.le_of_eq h)) hs
theorem left_lt (c : Nat) (X : List Nat) (hs : 0 < X.sum) : c - (qus c X.sum X).sum < X.length := by
 have h := qus_rss c X.sum X
 have h1 := left_le c X hs
 have h2 := rss_lt c X.sum hs X (by rintro rfl; simp at hs)
 have h3 : (c - (qus c X.sum X).sum) * X.sum = (rss c X.sum X).sum := by rw [Nat.sub_mul]; omega
 exact Nat.lt_of_mul_lt_mul_right (h3 ▸ h2 : (c - (qus c X.sum X).sum) * X.sum < X.length * X.sum)
def up1 (P : List Nat) (i : Nat) : List Nat := P.set i (P.getD i 0 + 1)
def served (P : List Nat) (l : List Nat) : List Nat := l.foldl up1 P
theorem up1_len (P : List Nat) (i : Nat) : (up1 P i).length = P.length := by unfold up1; rw [List.length_set]
theorem served_len (l : List Nat) : ∀ P : List Nat, (served P l).length = P.length := by
 induction l with
 | nil => intro P; rfl
 | cons i l ih => intro P; show (served (up1 P i) l).length = _; rw [ih, up1_len]
theorem up1_sum : ∀ (P : List Nat) (i : Nat), i < P.length → (up1 P i).sum = P.sum + 1
 | [], i, h => by simp at h
 | x :: P, 0, _ => by simp [up1]; omega
 | x :: P, i + 1, h => by
  have ih := up1_sum P i (by simpa using h)
  simp only [up1, List.set_cons_succ, List.getD_cons_succ, List.sum_cons] at ih ⊢
  omega
theorem served_sum (l : List Nat) : ∀ P : List Nat, (∀ i ∈ l, i < P.length) → (served P l).sum = P.sum + l.length := by
 induction l with
 | nil => intro P _; rfl
 | cons i l ih =>
  intro P h
  show (served (up1 P i) l).sum = _
  rw [ih _ (fun j hj => by rw [up1_len]; exact h j (by simp [hj])), up1_sum P i (h i (by simp)), List.length_cons]
  omega
def partsOf (c : Nat) (X : List Nat) : List Nat := served (qus c X.sum X) ((srv (fun i => (rss c X.sum X).getD i 0) X.length).take (c - (qus c X.sum X).sum))
theorem partsOf_len (c : Nat) (X : List Nat) : (partsOf c X).length = X.length := by unfold partsOf qus; rw [served_len, List.length_map]
open Go.RowKit
theorem nat_ne {n : Nat} (h : 0 < n) : (n : Rat) ≠ 0 := by
 intro e
 rw [Rat.natCast_eq_zero_iff] at e
 omega
theorem mq_nat (n d : Nat) : mq false n d = (n : Rat) / (d : Rat) := by
 unfold mq
 rw [Rat.mkRat_eq_div]
 rfl
theorem frac_up (n d k : Nat) (hk : 0 < k) : (n : Rat) / (d : Rat) = ((n * k : Nat) : Rat) / ((d * k : Nat) : Rat) := by
 rw [← mq_nat, ← mq_nat]
 unfold mq
 have h := Rat.mkRat_mul_right (n := sv false n) (d := d) (a := k) (by omega)
 rw [← h]
 simp [sv]
theorem floor_frac (n d : Nat) (hd : 0 < d) : ((n : Rat) / (d : Rat)).floor = ((n / d : Nat) : Int) := by
 obtain ⟨h1, h2⟩ := mq_parts false n d (by omega)
 rw [mq_nat] at h1 h2
 rw [Rat.floor_def, h1, h2]
 have hg : 0 < Nat.gcd n d := Nat.gcd_pos_of_pos_right _ hd
 obtain ⟨a, ha⟩ := Nat.gcd_dvd_left n d
 obtain ⟨b, hb⟩ := Nat.gcd_dvd_right n d
 obtain ⟨g, hgg⟩ : ∃ g, Nat.gcd n d = g := ⟨_, rfl⟩
 rw [hgg] at ha hb hg ⊢
 rw [ha, hb, Nat.mul_div_cancel_left _ hg, Nat.mul_div_cancel_left _ hg, Nat.mul_div_mul_left _ _ hg]
 simp [sv]
theorem over_frac (n d : Nat) (hd : 0 < d) : (n : Rat) / (d : Rat) - (((n / d : Nat) : Int) : Rat) = ((n % d : Nat) : Rat) / (d : Rat) := by
 have hz := nat_ne hd
 have e : (n : Rat) = (d : Rat) * ((n / d : Nat) : Rat) + ((n % d : Nat) : Rat) := by rw [← Rat.natCast_mul, ← Rat.natCast_add, Nat.div_add_mod]
 rw [Rat.intCast_natCast]
 generalize ((n / d : Nat) : Rat) = q at e ⊢
 generalize ((n % d : Nat) : Rat) = r at e ⊢
 generalize (n : Rat) = m at e ⊢
 generalize (d : Rat) = f at e hz ⊢
 subst e
 have h1 : f * f⁻¹ = 1 := Rat.mul_inv_cancel f hz
 rw [Rat.div_def, Rat.div_def, Rat.add_mul, Rat.mul_comm f q, Rat.mul_assoc, h1, Rat.mul_one]
 grind
theorem cmp_frac (a b d : Nat) (hd : 0 < d) : sgr ((a : Rat) / (d : Rat) - (b : Rat) / (d : Rat)) = Int.sign ((a : Int) - (b : Int)) := by
 have h : (a : Rat) / (d : Rat) - (b : Rat) / (d : Rat) = mkRat ((a : Int) - (b : Int)) d := by
  rw [Rat.mkRat_eq_div, Rat.intCast_sub, Rat.intCast_natCast, Rat.intCast_natCast, Rat.div_def, Rat.div_def, Rat.div_def, Rat.sub_eq_add_neg, Rat.sub_eq_add_neg, Rat.add_mul, Rat.neg_mul]
 rw [h, sgr_mk _ _ (by omega)]
theorem rsum_frac (d : Nat) (ys : List Nat) : rsum (ys.map fun y : Nat => (y : Rat) / (d : Rat)) = ((ys.sum : Nat) : Rat) / (d : Rat) := by
 induction ys with
 | nil =>
  show (0 : Rat) = ((0 : Nat) : Rat) / (d : Rat)
  rw [Rat.div_def]
  show (0 : Rat) = 0 * _
  rw [Rat.zero_mul]
 | cons y ys ih =>
  show (y : Rat) / (d : Rat) + rsum (ys.map fun y : Nat => (y : Rat) / (d : Rat)) = _
  rw [ih, List.sum_cons, Rat.natCast_add, Rat.div_def, Rat.div_def, Rat.div_def, Rat.add_mul]
theorem quota_frac (c x X D : Nat) (hX : 0 < X) (hD : 0 < D) : (c : Rat) * ((x : Rat) / (D : Rat)) / ((X : Rat) / (D : Rat)) = ((c * x : Nat) : Rat) / (X : Rat) := by
 have h1 := nat_ne hX
 have h2 := nat_ne hD
 rw [Rat.natCast_mul]
 generalize (c : Rat) = c
 generalize (x : Rat) = x
 generalize (X : Rat) = X at h1 ⊢
 generalize (D : Rat) = D at h2 ⊢
 have e1 : X * X⁻¹ = 1 := Rat.mul_inv_cancel X h1
 have e2 : D * D⁻¹ = 1 := Rat.mul_inv_cancel D h2
 have e3 : (X * D⁻¹)⁻¹ = X⁻¹ * D := by
  apply Rat.inv_eq_of_mul_eq_one
  grind
 rw [Rat.div_def, Rat.div_def, Rat.div_def, Rat.div_def, e3]
 grind
def whl (l : List T3) : List Nat := l.map fun t => bv t.2.1 * (dens l / bv t.2.2)
theorem whl_len (l : List T3) : (whl l).length = l.length := by unfold whl; rw [List.length_map]
theorem negs_at {l : List T3} (h : negs l = false) {t : T3} (ht : t ∈ l) : t.1 = false := by
 unfold negs at h
 rw [List.any_eq_false] at h
 simpa using h t ht
theorem lcms_dvd {x : Nat} : ∀ {l : List Nat}, x ∈ l → x ∣ lcms l
 | a :: l, h => by
  show x ∣ Nat.lcm a (lcms l)
  rcases List.mem_cons.1 h with rfl | h
  ·exact Nat.dvd_lcm_left _ _
  ·exact Nat.dvd_trans (lcms_dvd h) (Nat.dvd_lcm_right _ _)
theorem lcms_at (K : Nat) {x : Nat} : ∀ {l : List Nat}, (∀ y ∈ l, 0 < y ∧ y < 256 ^ K) → x ∈ l → lcms l ≤ x * 256 ^ ((l.length - 1) * K)
 | a :: l, h, hx => by
  show Nat.lcm a (lcms l) ≤ _
  have h3 : Nat.lcm a (lcms l) ≤ a * lcms l := Nat.div_le_self _ _
  rw [List.length_cons, Nat.add_sub_cancel]
  by_cases hl : x ∈ l
  ·have ih := lcms_at K (fun y hy => h y (List.mem_cons_of_mem _ hy)) hl
   have h4 := (h a (List.mem_cons_self ..)).2
   have hp : 0 < l.length := List.length_pos_of_mem hl
   obtain ⟨m, hm⟩ : ∃ m, l.length = m + 1 := ⟨l.length - 1, by omega⟩
   rw [hm, Nat.add_sub_cancel] at ih
   rw [hm, Nat.add_mul, Nat.one_mul, Nat.pow_add]
   refine Nat.le_trans h3 (Nat.le_trans (Nat.mul_le_mul (Nat.le_of_lt h4) ih) (Nat.le_of_eq ?_))
   rw [Nat.mul_comm, Nat.mul_assoc]
  ·have hxa : x = a := (List.mem_cons.1 hx).resolve_right hl
   subst hxa
   exact Nat.le_trans h3 (Nat.mul_le_mul_left _ (lcms_lt K l fun y hy => h y (List.mem_cons_of_mem _ hy)))
theorem dens_dvd {l : List T3} {t : T3} (ht : t ∈ l) : bv t.2.2 ∣ dens l := lcms_dvd (List.mem_map_of_mem ht)
theorem good_pos {l : List T3} (hb : bad l = false) {t : T3} (ht : t ∈ l) : 0 < bv t.2.2 := by
 obtain ⟨h1, h2, h3⟩ := good_at l hb t ht
 exact rt_pos h2 h3
theorem dens_pos {l : List T3} (hb : bad l = false) : 0 < dens l := lcms_pos _ fun x hx => by
 obtain ⟨t, ht, rfl⟩ := List.mem_map.1 hx
 exact good_pos hb ht
theorem rof_whl {l : List T3} (hb : bad l = false) (hn : negs l = false) {t : T3} (ht : t ∈ l) : rof t = ((bv t.2.1 * (dens l / bv t.2.2) : Nat) : Rat) / (dens l : Rat) := by
 have hr : rightR t.1 t.2.1 t.2.2 = true := by
  have h1 := hb
  unfold bad at h1
  rw [List.any_eq_false] at h1
  simpa using h1 t ht
 have hD := dens_pos hb
 have hd := good_pos hb ht
 obtain ⟨k, hk⟩ := dens_dvd ht
 have hkp : 0 < k := by
  rcases Nat.eq_zero_or_pos k with q | q
  ·rw [q, Nat.mul_zero] at hk; omega
  ·exact q
 unfold rof ratOf
 rw [if_pos hr, negs_at hn ht, mq_nat, hk, Nat.mul_div_cancel_left _ hd]
 exact frac_up _ _ _ hkp
theorem rsum_whl {l : List T3} (hb : bad l = false) (hn : negs l = false) : rsum (l.map rof) = (((whl l).sum : Nat) : Rat) / (dens l : Rat) := by
 rw [← rsum_frac]
 congr 1
 unfold whl
 rw [List.map_map]
 exact List.map_congr_left fun t ht => rof_whl hb hn ht
theorem whl_lt (K : Nat) {l : List T3} (hb : bad l = false) (hsz : ∀ t ∈ l, t.2.1.length ≤ K ∧ t.2.2.length ≤ K) : ∀ x ∈ whl l, x < 256 ^ (l.length * K) := by
 intro x hx
 obtain ⟨t, ht, rfl⟩ := List.mem_map.1 hx
 have hp : 0 < l.length := List.length_pos_of_mem ht
 have h1 := lcms_at K (l := l.map fun t => bv t.2.2) (x := bv t.2.2) (fun y hy => by
  obtain ⟨u, hu, rfl⟩ := List.mem_map.1 hy
  exact ⟨good_pos hb hu, bv_b (hsz u hu).2⟩) (List.mem_map_of_mem ht)
 rw [List.length_map] at h1
 have h2 : dens l / bv t.2.2 ≤ 256 ^ ((l.length - 1) * K) := Nat.div_le_of_le_mul h1
 have h3 := bv_b (hsz t ht).1
 obtain ⟨m, hm⟩ : ∃ m, l.length = m + 1 := ⟨l.length - 1, by omega⟩
 rw [hm, Nat.add_sub_cancel] at h2
 rw [hm, Nat.add_mul, Nat.one_mul, Nat.add_comm, Nat.pow_add]
 exact Nat.lt_of_le_of_lt (Nat.mul_le_mul_left _ h2) (Nat.mul_lt_mul_of_pos_right h3 (Nat.pow_pos (by decide)))
theorem sum_lt (M : Nat) : ∀ l : List Nat, (∀ x ∈ l, x < M) → 0 < M → l.sum < l.length * M + 1
 | [], _, h => by simp
 | a :: l, h, h0 => by
  have ih := sum_lt M l (fun x hx => h x (List.mem_cons_of_mem _ hx)) h0
  have := h a (List.mem_cons_self ..)
  rw [List.sum_cons, List.length_cons, Nat.succ_mul]
  omega
theorem whl_sum_lt (K : Nat) {l : List T3} (hb : bad l = false) (hsz : ∀ t ∈ l, t.2.1.length ≤ K ∧ t.2.2.length ≤ K) (hn : l.length ≤ 200) : (whl l).sum < 256 ^ (l.length * K + 1) := by
 have h0 : 0 < 256 ^ (l.length * K) := Nat.pow_pos (by decide)
 have h := sum_lt _ _ (whl_lt K hb hsz) h0
 rw [whl_len] at h
 rw [Nat.pow_succ]
 obtain ⟨M, hM⟩ : ∃ M, 256 ^ (l.length * K) = M := ⟨_, rfl⟩
 rw [hM] at h h0 ⊢
 have h2 : l.length * M ≤ 200 * M := Nat.mul_le_mul_right _ hn
 omega
theorem Szq.frac {n d k : Nat} (h0 : 0 < d) (hn : n < 256 ^ k) (hd : d < 256 ^ k) : Szq ((n : Rat) / (d : Rat)) k := by
 rw [← mq_nat]
 exact Szq.mq (by omega) hn hd
end Go.Proofs.YtkeomlpecjjhiaaGreatDoor
