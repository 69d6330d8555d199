/- The reference of layer 4: Split, for any weights. -/
import Derived.Test.YtkeomlpecjjhiaaGreatDoorWy
import Derived.Test.YtkeomlpecjjhiaaGreatDoorIa
import Derived.Test.YtkeomlpecjjhiaaGreatDoorVu
namespace Go.Proofs.YtkeomlpecjjhiaaGreatDoor
open Go.RowKit
theorem sgr_frac0 (a d : Nat) (hd : 0 < d) : sgr ((a : Rat) / (d : Rat)) = Int.sign (a : Int) := by
 have h := cmp_frac a 0 d hd
 have e : (a : Rat) / (d : Rat) - ((0 : Nat) : Rat) / (d : Rat) = (a : Rat) / (d : Rat) := by
  have : ((0 : Nat) : Rat) / (d : Rat) = 0 := by rw [Rat.div_def]; exact Rat.zero_mul _
  rw [this]
  grind
 rw [e] at h
 rw [h]
 simp
theorem shB_frac {l : List T3} (hb : bad l = false) (hg : negs l = false) : decide (0 < sgr (sumQ l)) = decide (0 < (whl l).sum) := by
 have h : sumQ l = (((whl l).sum : Nat) : Rat) / (dens l : Rat) := by rw [sumQ_rsum, rsum_whl hb hg]
 rw [h, sgr_frac0 _ _ (dens_pos hb)]
 apply decide_eq_decide.2
 rw [Int.sign_pos_iff]
 omega
theorem okW_both {l : List T3} (h : okW l = true) : bad l = false ∧ negs l = false := by
 unfold okW at h
 cases h1 : bad l <;> cases h2 : negs l <;> rw [h1, h2] at h <;> first | exact ⟨rfl, rfl⟩ | cases h
theorem shB_split (l : List T3) (z : Int) : shB l = splitB (some z) l := by
 unfold shB
 show _ = (okW l && decide (0 < (whl l).sum))
 cases h : okW l with
 | false => simp
 | true =>
  obtain ⟨hb, hg⟩ := okW_both h
  rw [shB_frac hb hg]
  cases l with
  | nil => rfl
  | cons a t => rfl
theorem centsR_i64 {s : Bool} {n d : List UInt8} {z : Int} (h : centsR s n d = some z) : i64m z := centsR_rng h
theorem nat_is (c : Nat) : Is (c : Rat) false (nb c) [1] := by
 have h := Is.int (c : Int) (show nb (c : Int).natAbs = nb c from rfl)
 rw [show decide ((c : Int) < 0) = false from decide_eq_false (by omega)] at h
 exact h
theorem nat_size {c M : Nat} (h : c < 256 ^ M) (hM : 1 ≤ M) : Szq (c : Rat) M := by
 have := Szq.frac (n := c) (d := 1) (k := M) (by decide) h (Nat.one_lt_pow (by omega) (by decide))
 rwa [show (c : Rat) / ((1 : Nat) : Rat) = (c : Rat) by rw [show ((1 : Nat) : Rat) = 1 from rfl]; grind] at this
theorem sum_take {l : List Nat} {k y : Nat} (h : l[k]? = some y) : (l.take (k + 1)).sum = (l.take k).sum + y := by
 rw [List.take_add_one, h]
 simp
theorem sum_take_le (l : List Nat) (k : Nat) : (l.take k).sum ≤ l.sum := by
 have h : (l.take k ++ l.drop k).sum = l.sum := by rw [List.take_append_drop]
 rw [List.sum_append] at h
 omega
theorem sub_nat (a b : Nat) (h : b ≤ a) : (a : Rat) - (b : Rat) = ((a - b : Nat) : Rat) := by
 have e : (a : Rat) = ((a - b : Nat) : Rat) + (b : Rat) := by rw [← Rat.natCast_add, Nat.sub_add_cancel h]
 rw [e]
 grind
theorem add_nat (a : Nat) : (a : Rat) + ((1 : Nat) : Rat) = ((a + 1 : Nat) : Rat) := by rw [Rat.natCast_add]
theorem mul_cent_mq (s : Bool) (y : Nat) : ((sv s y : Int) : Rat) * (1 / 100) = mq s y 100 := (cent_mq s y).symm
theorem Sub_pt {a b : Rat} {i j : Nat} (ha : Szq a i) (hb : Szq b j) (hi : i ≤ 400) (hj : j ≤ 400) : Ans 27 #[Tv (pt a), Tv (pt b)] (Tv (pt (a - b))) := by
 obtain ⟨l1, l2⟩ := ha.len (pt_is a)
 obtain ⟨l3, l4⟩ := hb.len (pt_is b)
 exact C_rSub (by omega) (by omega) (by omega) (by omega) (ratOf_is (pt_is a)) (ratOf_is (pt_is b)) (pt_is _)
theorem Add_pt {a b : Rat} {i j : Nat} (ha : Szq a i) (hb : Szq b j) (hi : i ≤ 400) (hj : j ≤ 400) : Ans 32 #[Tv (pt a), Tv (pt b)] (Tv (pt (a + b))) := by
 obtain ⟨l1, l2⟩ := ha.len (pt_is a)
 obtain ⟨l3, l4⟩ := hb.len (pt_is b)
 exact C_rAdd (by omega) (by omega) (by omega) (by omega) (ratOf_is (pt_is a)) (ratOf_is (pt_is b)) (pt_is _)
theorem Mul_pt {a b : Rat} {i j : Nat} (ha : Szq a i) (hb : Szq b j) (hi : i ≤ 400) (hj : j ≤ 400) : Ans 16 #[Tv (pt a), Tv (pt b)] (Tv (pt (a * b))) := by
 obtain ⟨l1, l2⟩ := ha.len (pt_is a)
 obtain ⟨l3, l4⟩ := hb.len (pt_is b)
 exact C_rMul (by omega) (by omega) (by omega) (by omega) (ratOf_is (pt_is a)) (ratOf_is (pt_is b)) (pt_is _)
theorem Neg_pt {a : Rat} {i : Nat} (ha : Szq a i) (hi : i ≤ 400) : Ans 44 #[Tv (pt a)] (Tv (pt (-a))) := by
 obtain ⟨l1, l2⟩ := ha.len (pt_is a)
 exact C_rNeg (by omega) (by omega) (ratOf_is (pt_is a)) (pt_is _)
theorem Sign_pt {a : Rat} {i : Nat} (ha : Szq a i) (hi : i ≤ 400) : Ans 35 #[Tv (pt a)] (.int .i64 (sgr a)) := by
 obtain ⟨l1, l2⟩ := ha.len (pt_is a)
 exact C_rSign (by omega) (by omega) (ratOf_is (pt_is a)) rfl
theorem Cmp_pt {a b : Rat} {i j : Nat} (ha : Szq a i) (hb : Szq b j) (hi : i ≤ 400) (hj : j ≤ 400) (hz : Szq (a - b) 400) : Ans 28 #[Tv (pt a), Tv (pt b)] (.int .i64 (sgr (a - b))) := by
 obtain ⟨l1, l2⟩ := ha.len (pt_is a)
 obtain ⟨l3, l4⟩ := hb.len (pt_is b)
 exact C_rCmp4 (by omega) (by omega) (by omega) (by omega) (ratOf_is (pt_is a)) (ratOf_is (pt_is b)) hz rfl
theorem Floor_pt {q : Rat} {i : Nat} (hq : Szq q i) (hi : i ≤ 399) : AnsM 62 #[Tv (pt q)] (Tv (pt ((q.floor : Int) : Rat))) := by
 obtain ⟨l1, l2⟩ := hq.len (pt_is q)
 exact C_rFloor (pt_is q) (by omega) (by omega) (pt_is _)
theorem pt_nat (c : Nat) : pt (c : Rat) = (false, nb c, [1]) := by
 obtain ⟨e1, e2, e3⟩ := (pt_is (c : Rat)).eqs (nat_is c)
 exact Prod.ext e1 (Prod.ext e2 e3)
theorem pt_one : pt ((1 : Nat) : Rat) = (false, [1], [1]) := by rw [pt_nat, nb_one]
theorem pt_cent : pt (1 / 100 : Rat) = (false, [1], [100]) := by
 obtain ⟨e1, e2, e3⟩ := (pt_is (1 / 100 : Rat)).eqs cent_is
 exact Prod.ext e1 (Prod.ext e2 e3)
theorem diff_frac (a b d : Nat) (hd : 0 < d) {M : Nat} (ha : a < 256 ^ M) (hb : b < 256 ^ M) (hdm : d < 256 ^ M) : Szq ((a : Rat) / (d : Rat) - (b : Rat) / (d : Rat)) M := by
 rcases Nat.le_total b a with h | h
 ·have e : (a : Rat) / (d : Rat) - (b : Rat) / (d : Rat) = ((a - b : Nat) : Rat) / (d : Rat) := by
   rw [← sub_nat a b h, Rat.div_def, Rat.div_def, Rat.div_def]
   grind
  rw [e]
  exact Szq.frac hd (by omega) hdm
 ·have e : (a : Rat) / (d : Rat) - (b : Rat) / (d : Rat) = -(((b - a : Nat) : Rat) / (d : Rat)) := by
   rw [← sub_nat b a h, Rat.div_def, Rat.div_def, Rat.div_def]
   grind
  rw [e]
  exact (Szq.frac hd (by omega) hdm).neg
theorem quo_one {C x S : Nat} : (C : Rat) * ((x : Rat) / (S : Rat)) = ((C * x : Nat) : Rat) / (S : Rat) := by
 rw [Rat.natCast_mul, Rat.div_def, Rat.div_def, Rat.mul_assoc]
theorem sg_iff (a b : Nat) : 0 < Int.sign ((a : Int) - (b : Int)) ↔ b < a := by
 rw [Int.sign_pos_iff]
 omega
set_option maxHeartbeats 3200000 in
theorem rSplit_yes {K n c : Nat} {p : Option Addr} {l : List T3} {z : Int} {s : Bool} {m d : List UInt8} (w : World) (ht : Tm w) (hr : Rs w p n l) (hK : 1 ≤ K) (hK2 : K ≤ 60) (hn : n ≤ 8) (hnK : n * K ≤ 360) (hz : ∀ t ∈ l, t.2.1.length ≤ K ∧ t.2.2.length ≤ K) (hm : m.length ≤ 390) (hd : d.length ≤ 390) (ho : centsR s m d = some z) (h : shB l = true) :
  Calls Tryz.prog 21 #[Rv s m d, .slice p n c] w (Ysr w n (prt z (whl l))) := by
 have hzr := centsR_i64 ho
 have hsh : ∀ V, Ch w.heap.size none1 w V → Calls Tryz.prog 61 #[.slice p n c] V (Yld V (.bool true)) := fun V hC => by
  have hb1 : 1 + n * (K + 1) ≤ 400 := by rw [Nat.mul_add]; omega
  have := shares_any (c := c) (hr.ch hC) hK (by omega) hz hb1 (by omega)
  rwa [h] at this
 have hok : okW l = true ∧ 0 < (whl l).sum := by
  rw [shB_split l z] at h
  have h' : (okW l && decide (0 < (whl l).sum)) = true := h
  simpa using h'
 obtain ⟨hok, hs⟩ := hok
 obtain ⟨hb, hg⟩ := okW_both hok
 have hlen := hr.len
 have hb1 : 1 + n * (K + 1) ≤ 400 := by rw [Nat.mul_add]; omega
 have hsq : sumQ l ≠ 0 := by
  rw [sumQ_rsum, rsum_whl hb hg, Rat.div_def]
  intro h
  rcases Rat.mul_eq_zero.1 h with h | h
  ·exact nat_ne hs h
  ·exact nat_ne (dens_pos hb) (by rw [← Rat.inv_inv ((dens l : Nat) : Rat), h]; exact Rat.inv_zero)
 have hxl := whl_lt K hb hz
 have hsl := whl_sum_lt K hb hz (by omega)
 rw [hlen] at hxl hsl
 obtain ⟨M, hM⟩ : ∃ M, n * K = M := ⟨_, rfl⟩
 rw [hM] at hxl hsl hnK
 obtain ⟨C, hC⟩ : ∃ C, z.natAbs = C := ⟨_, rfl⟩
 have hC8 : C < 256 ^ 8 := by
  have e : (256 : Nat) ^ 8 = 18446744073709551616 := rfl
  obtain ⟨h1, h2⟩ := hzr
  omega
 have hprt := prt_map z (whl l)
 have hqf := fun k x t => quo_frac hb hg hs (k := k) (x := x) (t := t)
 rw [hC] at hprt
 obtain ⟨X, hX⟩ : ∃ X, whl l = X := ⟨_, rfl⟩
 have hXn : X.length = n := by rw [← hX, whl_len, hlen]
 have hxt : ∀ k, k < n → ∃ t x, l[k]? = some t ∧ X[k]? = some x := fun k hk => by
  obtain ⟨x, hx⟩ : ∃ x, X[k]? = some x := ⟨_, List.getElem?_eq_getElem (by rw [hXn]; exact hk)⟩
  exact ⟨_, x, List.getElem?_eq_getElem (by rw [hlen]; exact hk), hx⟩
 rw [hX] at hs hxl hsl hprt hqf ⊢
 obtain ⟨E, hE⟩ : ∃ E, E = 8 := ⟨_, rfl⟩
 rw [← hE] at hC8
 have hx0 : ∀ {k x : Nat}, X[k]? = some x → X.getD k 0 = x := fun h => by rw [List.getD_eq_getElem?_getD, h]; rfl
 have hp1 : ∀ A B : Nat, A ≤ B → 256 ^ A ≤ 256 ^ B := fun A B h => Nat.pow_le_pow_right (by decide) h
 -- sizes
 have sq : ∀ k x, X[k]? = some x → Szq (((C * x : Nat) : Rat) / ((X.sum : Nat) : Rat)) (E + M) := fun k x hx => by
  refine Szq.frac hs ?_ (Nat.lt_of_lt_of_le hsl (hp1 _ _ (by omega)))
  rw [Nat.pow_add]
  exact Nat.mul_lt_mul'' hC8 (hxl x (List.mem_of_getElem? hx))
 have sn : ∀ y : Nat, y ≤ C → Szq ((y : Nat) : Rat) E := fun y hy => nat_size (by omega) (by omega)
 have hfle : ∀ k x, X[k]? = some x → C * x / X.sum ≤ C := fun k x hx => by
  have h1 : x ≤ X.sum := le_sum_mem (List.mem_of_getElem? hx)
  refine Nat.div_le_of_le_mul ?_
  rw [Nat.mul_comm]
  exact Nat.mul_le_mul_right _ h1
 have so : ∀ a : Nat, Szq (((a % X.sum : Nat) : Rat) / ((X.sum : Nat) : Rat)) (M + 1) := fun a => Szq.frac hs (Nat.lt_trans (Nat.mod_lt _ hs) hsl) hsl
 have hqg : ∀ k x, X[k]? = some x → (qus C X.sum X)[k]? = some (C * x / X.sum) := fun k x hx => by unfold qus; rw [List.getElem?_map, hx]; rfl
 have hqle := left_le C X hs
 have hqlt := left_lt C X hs
 have hfr : ∀ i, i < n → (rss C X.sum X).getD i 0 = C * X.getD i 0 % X.sum := fun i hi => by
  obtain ⟨t, x, -, hx⟩ := hxt i hi
  rw [rss_get hx, hx0 hx]
 obtain ⟨J, hJ⟩ : ∃ J, C - (qus C X.sum X).sum = J := ⟨_, rfl⟩
 have hple : ∀ j, j ≤ J → ∀ y ∈ partsAt C X j, y ≤ C := fun j hj => partsAt_le C X hs j (by omega)
 have hPe : partsAt C X J = partsOf C X := by rw [← hJ]; exact partsAt_end C X
 refine split_walk (n := n) (J := J) (neg := decide (z < 0)) (x := nb C) (z := z) (RR := prt z X)
  (qq := fun k => pt (((C * X.getD k 0 : Nat) : Rat) / ((X.sum : Nat) : Rat))) (ff := fun k => pt ((C * X.getD k 0 / X.sum : Nat) : Rat)) (oo := fun k => pt (((C * X.getD k 0 % X.sum : Nat) : Rat) / ((X.sum : Nat) : Rat)))
  (lf := fun k => pt ((C - ((qus C X.sum X).take k).sum : Nat) : Rat)) (lg := fun j => pt ((C - (qus C X.sum X).sum - j : Nat) : Rat)) (PP := fun j => (partsAt C X j).map fun y => pt ((y : Nat) : Rat)) (f := fun i => (rss C X.sum X).getD i 0)
  w ht ?_ (by omega) rfl (C_rCents (o := some z) hm hd ho) hsh ?_ ?_ ?_ ?_ ?_ ?_ ?_ ?_ (by omega) ?_ ?_ ?_ ?_ ?_ ?_ ?_ ?_ (by rw [prt_len, hXn])
 ·omega
 ·exact C_rOf z hzr.1 hzr.2 (by rw [hC])
 ·intro hneg
  have e := Is.int z (show nb z.natAbs = nb C by rw [hC])
  rw [hneg] at e ⊢
  have zz : (nb C).length ≤ 400 := by
   have := (nat_size hC8 (by omega)).len (nat_is C)
   omega
  refine C_rNeg zz (by decide) (ratOf_is e) ?_
  have h1 : z < 0 := by simpa using hneg
  have e2 : -(z : Rat) = (C : Rat) := by
   rw [← Rat.intCast_neg, show -z = ((C : Nat) : Int) by omega]
   exact Rat.intCast_natCast _
  rw [e2]
  exact nat_is C
 ·intro k hk V hV
  obtain ⟨t, x, htk, hx⟩ := hxt k hk
  have := Quota_any (K := K) (c := c) (hr.ch hV) (ht.ch hV) hK hz hb1 htk (nat_is C) ((nat_size hC8 (by omega)).mono (by omega)) (by omega) hsq
  rw [hqf k x t htk hx, quo_one] at this
  show Calls _ _ _ V (Yld V (Tv (pt (((C * X.getD k 0 : Nat) : Rat) / ((X.sum : Nat) : Rat)))))
  rw [hx0 hx]
  exact this
 ·intro k hk
  obtain ⟨t, x, htk, hx⟩ := hxt k hk
  show AnsM _ #[Tv (pt (((C * X.getD k 0 : Nat) : Rat) / ((X.sum : Nat) : Rat)))] (Tv (pt ((C * X.getD k 0 / X.sum : Nat) : Rat)))
  rw [hx0 hx]
  have := Floor_pt (sq k x hx) (by omega)
  rw [floor_frac _ _ hs, Rat.intCast_natCast] at this
  exact this
 ·intro k hk
  obtain ⟨t, x, htk, hx⟩ := hxt k hk
  show Ans _ #[Tv (pt (((C * X.getD k 0 : Nat) : Rat) / ((X.sum : Nat) : Rat))), Tv (pt ((C * X.getD k 0 / X.sum : Nat) : Rat))] (Tv (pt (((C * X.getD k 0 % X.sum : Nat) : Rat) / ((X.sum : Nat) : Rat))))
  rw [hx0 hx]
  have := Sub_pt (sq k x hx) (sn _ (hfle k x hx)) (by omega) (by omega)
  have e := over_frac (C * x) X.sum hs
  rw [Rat.intCast_natCast] at e
  rw [e] at this
  exact this
 ·show pt ((C - ((qus C X.sum X).take 0).sum : Nat) : Rat) = _
  rw [List.take_zero, List.sum_nil, Nat.sub_zero, pt_nat]
 ·intro k hk
  obtain ⟨t, x, htk, hx⟩ := hxt k hk
  show Ans _ #[Tv (pt ((C - ((qus C X.sum X).take k).sum : Nat) : Rat)), Tv (pt ((C * X.getD k 0 / X.sum : Nat) : Rat))] (Tv (pt ((C - ((qus C X.sum X).take (k + 1)).sum : Nat) : Rat)))
  rw [hx0 hx]
  have h1 := sum_take (hqg k x hx)
  have h2 := sum_take_le (qus C X.sum X) (k + 1)
  have := Sub_pt (sn _ (Nat.sub_le C ((qus C X.sum X).take k).sum)) (sn _ (hfle k x hx)) (by omega) (by omega)
  rw [sub_nat _ _ (by omega), show C - ((qus C X.sum X).take k).sum - C * x / X.sum = C - ((qus C X.sum X).take (k + 1)).sum by omega] at this
  exact this
 ·show pt ((C - (qus C X.sum X).sum - 0 : Nat) : Rat) = pt ((C - ((qus C X.sum X).take n).sum : Nat) : Rat)
  rw [List.take_of_length_le (by unfold qus; rw [List.length_map, hXn]; exact Nat.le_refl _), Nat.sub_zero]
 ·intro j hj
  refine ⟨_, Sign_pt (sn _ (by omega : C - (qus C X.sum X).sum - j ≤ C)) (by omega), ?_⟩
  have e : ((C - (qus C X.sum X).sum - j : Nat) : Rat) = (((C - (qus C X.sum X).sum - j : Nat) : Int) : Rat) := (Rat.intCast_natCast _).symm
  rw [e, sgr_int, Int.sign_pos_iff]
  omega
 ·have h1 := C_rOf 1 (by decide) (by decide) (show nb (1 : Int).natAbs = [1] from nb_one)
  exact h1
 ·intro j hj
  have := Sub_pt (sn _ (by omega : C - (qus C X.sum X).sum - j ≤ C)) (sn 1 (by omega)) (by omega) (by omega)
  rw [sub_nat _ _ (by omega), pt_one] at this
  exact this
 ·intro i k hi hk
  obtain ⟨ti, xi, hti, hxi⟩ := hxt i hi
  obtain ⟨tk, xk, htk, hxk⟩ := hxt k hk
  show ∃ y, Ans _ #[Tv (pt (((C * X.getD i 0 % X.sum : Nat) : Rat) / ((X.sum : Nat) : Rat))), Tv (pt (((C * X.getD k 0 % X.sum : Nat) : Rat) / ((X.sum : Nat) : Rat)))] _ ∧ _
  rw [hfr i hi, hfr k hk]
  refine ⟨_, Cmp_pt (so _) (so _) (by omega) (by omega) ((diff_frac _ _ _ hs (Nat.lt_trans (Nat.mod_lt _ hs) hsl) (Nat.lt_trans (Nat.mod_lt _ hs) hsl) hsl).mono (by omega)), ?_⟩
  rw [cmp_frac _ _ _ hs]
  exact sg_iff _ _
 ·show (partsAt C X 0).map _ = _
  rw [partsAt_zero]
  apply List.ext_getElem?
  intro i
  by_cases hi : i < n
  ·obtain ⟨t, x, -, hx⟩ := hxt i hi
   rw [List.getElem?_map, hqg i x hx, List.getElem?_map, List.getElem?_range hi]
   show some (pt ((C * x / X.sum : Nat) : Rat)) = some (pt ((C * X.getD i 0 / X.sum : Nat) : Rat))
   rw [hx0 hx]
  ·rw [List.getElem?_eq_none (by rw [List.length_map]; unfold qus; rw [List.length_map, hXn]; omega), List.getElem?_eq_none (by rw [List.length_map, List.length_range]; omega)]
 ·intro j
  show ((partsAt C X j).map _).length = n
  rw [List.length_map, partsAt_len, hXn]
 ·intro j i hj hi
  rw [← hXn] at hi
  have h1 := partsAt_succ C X hi
  have hin : i < n := by
   rw [← hXn]
   exact (srv_mem _ _ i).1 (List.mem_of_getElem? hi)
  obtain ⟨y, hy⟩ : ∃ y, (partsAt C X j)[i]? = some y := ⟨_, List.getElem?_eq_getElem (by rw [partsAt_len, hXn]; exact hin)⟩
  refine ⟨pt ((y : Nat) : Rat), pt ((y + 1 : Nat) : Rat), by show ((partsAt C X j).map _)[i]? = _; rw [List.getElem?_map, hy]; rfl, ?_, ?_⟩
  ·have := Add_pt (sn _ (hple j (by omega) y (List.mem_of_getElem? hy))) (sn 1 (by omega)) (by omega) (by omega)
   rw [add_nat, pt_one] at this
   exact this
  ·show (partsAt C X (j + 1)).map _ = _
   rw [h1]
   unfold up1
   rw [List.getD_eq_getElem?_getD, hy, List.map_set]
   rfl
 ·intro k hk
  obtain ⟨y, hy⟩ : ∃ y, (partsAt C X J)[k]? = some y := ⟨_, List.getElem?_eq_getElem (by rw [partsAt_len, hXn]; exact hk)⟩
  have hyC := hple J (Nat.le_refl _) y (List.mem_of_getElem? hy)
  have hsv : Szq ((sv (decide (z < 0)) y : Int) : Rat) E := by
   cases decide (z < 0) with
   | true =>
    have := (sn y hyC).neg
    rwa [← Rat.intCast_natCast, ← Rat.intCast_neg] at this
   | false =>
    have := sn y hyC
    rwa [← Rat.intCast_natCast] at this
  refine ⟨pt ((y : Nat) : Rat), pt ((sv (decide (z < 0)) y : Int) : Rat), pt (mq (decide (z < 0)) y 100), by show ((partsAt C X J).map _)[k]? = _; rw [List.getElem?_map, hy]; rfl, ?_, ?_, ?_⟩
  ·cases decide (z < 0) with
   | true =>
    refine .inr ⟨rfl, ?_⟩
    have := Neg_pt (sn y hyC) (by omega)
    rwa [← Rat.intCast_natCast, ← Rat.intCast_neg] at this
   | false =>
    refine .inl ⟨rfl, ?_⟩
    show pt (((y : Nat) : Int) : Rat) = _
    rw [Rat.intCast_natCast]
  ·have := Mul_pt hsv (show Szq (1 / 100 : Rat) E from Szq.mono (k := 1) ⟨by decide +kernel, by decide +kernel⟩ (by omega)) (by omega) (by omega)
   rw [mul_cent_mq, pt_cent] at this
   exact this
  ·rw [hprt, List.getElem?_map, ← hPe, hy]
   rfl
end Go.Proofs.YtkeomlpecjjhiaaGreatDoor
