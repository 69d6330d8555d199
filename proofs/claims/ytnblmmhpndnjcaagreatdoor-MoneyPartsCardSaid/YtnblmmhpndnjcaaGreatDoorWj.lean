/- MoneyCents: the core. -/
import Derived.Test.YtnblmmhpndnjcaaGreatDoorAz
import Derived.Test.YtnblmmhpndnjcaaGreatDoorAw
import Derived.Lib.ReplaceLaws
import Derived.Lib.CountLaws
import Derived.Test.YtnblmmhpndnjcaaGreatDoorWg
namespace Go.Proofs.YtnblmmhpndnjcaaGreatDoor
open Go.RowKit
set_option maxRecDepth 100000 in
set_option maxHeartbeats 6400000 in
theorem cents_walk {x h : Int} {sa sb sc : Bool} {na da t kb db kc dc : List UInt8} (w : World) (ht : Tm w) (hh : x.tdiv 2 = h) (hw : IntKind.i64.wrap h = h) (hj : IntKind.i64.wrap (x - h) = x - h)
    (hH0 : AnsM 11 #[] (.bool true)) (hH1 : AnsM 20 #[.int .i64 x] (Rv sa na da)) (hH2 : AnsM 29 #[Rv sa na da] (.tuple #[.int .i64 x, .bool true])) (hH3 : AnsM 30 #[Rv sa na da] (.tuple #[S t, .bool true])) (hH4 : AnsM 31 #[S t] (.tuple #[Rv sa na da, .bool true])) (hH5 : AnsM 20 #[.int .i64 h] (Rv sb kb db)) (hH6 : AnsM 20 #[.int .i64 (x - h)] (Rv sc kc dc)) (hH7 : Ans 32 #[Rv sb kb db, Rv sc kc dc] (Rv sa na da)) :
    Calls Tryz.prog 7 #[.int .i64 x] w (Yld w (.bool true)) := by
  have H0 := Lib.hid hH0
  have H1 := Lib.hid hH1
  have H2 := Lib.hid hH2
  have H3 := Lib.hid hH3
  have H4 := Lib.hid hH4
  have H5 := Lib.hid hH5
  have H6 := Lib.hid hH6
  have H7 := Lib.hid hH7
  have HT := Lib.hid ht
  clear ht hH0 hH1 hH2 hH3 hH4 hH5 hH6 hH7
  have HK := Lib.hid (Kq.nil w)
  go_enter Tryz.func7, Tryz.ntmps7
  go_wp2_with fail
  refine (H0.out _ (HT.out.ch HK.out.ch)).mono ?_
  rintro e w1 ⟨rfl, hC⟩
  have HK2 := Lib.hid (HK.out.on hC)
  clear hC HK
  have HK := HK2
  clear HK2
  go_wp2_with fail
  refine (H1.out _ (HT.out.ch HK.out.ch)).mono ?_
  rintro e w2 ⟨rfl, hC⟩
  have HK2 := Lib.hid (HK.out.on hC)
  clear hC HK
  have HK := HK2
  clear HK2
  go_wp2_with fail
  have HK2 := Lib.hid (HK.out.new #[.bool sa, S na, S da] 26)
  obtain ⟨w3, hW⟩ : ∃ W, w2.alloc (.cells #[.bool sa, S na, S da] 26 (0, 0)) = W := ⟨_, rfl⟩
  rw [hW] at HK2 ⊢
  obtain ⟨Ra, hA⟩ : ∃ A, w2.heap.size = A := ⟨_, rfl⟩
  rw [hA] at HK2 ⊢
  clear hA hW HK
  have HK := HK2
  clear HK2
  have HF1 := Lib.hid (show ∀ W, Kq w W [(Ra, 26, [.bool sa, S na, S da])] → W.cell? ⟨Ra, 0, none⟩ = some (.bool sa) ∧ W.cell? ⟨Ra, 1, none⟩ = some (S na) ∧ W.cell? ⟨Ra, 2, none⟩ = some (S da) from fun W h => ⟨(h.row _ (.head _)).cell 0, (h.row _ (.head _)).cell 1, (h.row _ (.head _)).cell 2⟩)
  obtain ⟨cc0, cc1, cc2⟩ := HF1.out _ HK.out
  refine (H2.out _ (HT.out.ch HK.out.ch)).mono ?_
  rintro e w4 ⟨rfl, hC⟩
  have HK2 := Lib.hid (HK.out.on hC)
  clear cc0 cc1 cc2
  clear hC HK
  have HK := HK2
  clear HK2
  obtain ⟨cc0, cc1, cc2⟩ := HF1.out _ HK.out
  go_wp2_with fail
  refine (H3.out _ (HT.out.ch HK.out.ch)).mono ?_
  rintro e w5 ⟨rfl, hC⟩
  have HK2 := Lib.hid (HK.out.on hC)
  clear cc0 cc1 cc2
  clear hC HK
  have HK := HK2
  clear HK2
  obtain ⟨cc0, cc1, cc2⟩ := HF1.out _ HK.out
  go_wp2_with fail
  refine (H4.out _ (HT.out.ch HK.out.ch)).mono ?_
  rintro e w6 ⟨rfl, hC⟩
  have HK2 := Lib.hid (HK.out.on hC)
  clear cc0 cc1 cc2
  clear hC HK
  have HK := HK2
  clear HK2
  obtain ⟨cc0, cc1, cc2⟩ := HF1.out _ HK.out
  obtain ⟨dd0, dd1, dd2⟩ : (∀ o : Obj, (w6.alloc o).cell? ⟨Ra, 0, none⟩ = some (.bool sa)) ∧ (∀ o : Obj, (w6.alloc o).cell? ⟨Ra, 1, none⟩ = some (S na)) ∧ (∀ o : Obj, (w6.alloc o).cell? ⟨Ra, 2, none⟩ = some (S da)) := by
    have hall := fun o : Obj => HF1.out _ (HK.out.other o)
    exact ⟨fun o => (hall o).1, fun o => (hall o).2.1, fun o => (hall o).2.2⟩
  go_wp2_with fail
  clear cc0 cc1 cc2 dd0 dd1 dd2
  have HK2 := Lib.hid (HK.out.new #[.bool sa, S na, S da] 26)
  obtain ⟨w7, hW⟩ : ∃ W, w6.alloc (.cells #[.bool sa, S na, S da] 26 (0, 0)) = W := ⟨_, rfl⟩
  rw [hW] at HK2 ⊢
  obtain ⟨Rb, hA⟩ : ∃ A, w6.heap.size = A := ⟨_, rfl⟩
  rw [hA] at HK2 ⊢
  clear hA hW HK
  have HK := HK2
  clear HK2
  have HF2 := Lib.hid (show ∀ W, Kq w W [(Rb, 26, [.bool sa, S na, S da]), (Ra, 26, [.bool sa, S na, S da])] → W.cell? ⟨Rb, 0, none⟩ = some (.bool sa) ∧ W.cell? ⟨Rb, 1, none⟩ = some (S na) ∧ W.cell? ⟨Rb, 2, none⟩ = some (S da) ∧ W.cell? ⟨Ra, 0, none⟩ = some (.bool sa) ∧ W.cell? ⟨Ra, 1, none⟩ = some (S na) ∧ W.cell? ⟨Ra, 2, none⟩ = some (S da) from fun W h => ⟨(h.row _ (.head _)).cell 0, (h.row _ (.head _)).cell 1, (h.row _ (.head _)).cell 2, (h.row _ (.tail _ (.head _))).cell 0, (h.row _ (.tail _ (.head _))).cell 1, (h.row _ (.tail _ (.head _))).cell 2⟩)
  obtain ⟨cc0, cc1, cc2, cc3, cc4, cc5⟩ := HF2.out _ HK.out
  clear cc0 cc1 cc2 cc3 cc4 cc5
  have HKD := Lib.hid HK.out.drew
  clear HK
  have HK := HKD
  clear HKD
  go_region_held3 (fun w' => w'.cell? ⟨Rb, 0, none⟩ = some (.bool sa) ∧ w'.cell? ⟨Rb, 1, none⟩ = some (S na) ∧ w'.cell? ⟨Rb, 2, none⟩ = some (S da) ∧ w'.cell? ⟨Ra, 0, none⟩ = some (.bool sa) ∧ w'.cell? ⟨Ra, 1, none⟩ = some (S na) ∧ w'.cell? ⟨Ra, 2, none⟩ = some (S da))
    (first
      | (with_reducible exact HF2.out _ HK.out)
      | go_keep)
    (first
      | (go_at_call 20; with_reducible refine (H5.out _ (HT.out.ch HK.out.ch)).mono ?_; rintro e wq ⟨rfl, hCq⟩; have HK2 := Lib.hid (HK.out.on hCq); clear hCq HK; have HK := HK2; clear HK2)
      | (go_at_call 20; with_reducible refine (H6.out _ (HT.out.ch HK.out.ch)).mono ?_; rintro e wq ⟨rfl, hCq⟩; have HK2 := Lib.hid (HK.out.on hCq); clear hCq HK; have HK := HK2; clear HK2)
      | (go_at_call 32; with_reducible refine (H7.out _).mono ?_; rintro e wq ⟨rfl, hCq⟩; have HK2 := Lib.hid (HK.out.on hCq); clear hCq HK; have HK := HK2; clear HK2))
  obtain ⟨cc0, cc1, cc2, cc3, cc4, cc5⟩ := HF2.out _ HK.out
  go_wp2_with fail
  go_ret
  exact ⟨rfl, HK.out.ch⟩
end Go.Proofs.YtnblmmhpndnjcaaGreatDoor
namespace Go.Proofs.YtnblmmhpndnjcaaGreatDoor
open Go.RowKit
theorem index_at : ∀ (A B : List UInt8) (b : UInt8), (∀ x ∈ A, x ≠ b) → Lib.index (A ++ b :: B) [b] = (A.length : Int)
  | [], B, b, _ => by
    show (if ([b] : List UInt8).isPrefixOf (b :: B) then (0 : Int) else _) = _
    rw [if_pos (by simp [List.isPrefixOf])]
    rfl
  | a :: A, B, b, h => by
    have ih := index_at A B b (fun x hx => h x (List.mem_cons_of_mem _ hx))
    have hne : ¬ b = a := fun e => h a (List.mem_cons_self ..) e.symm
    show (if ([b] : List UInt8).isPrefixOf (a :: (A ++ b :: B)) then (0 : Int) else if Lib.index (A ++ b :: B) [b] == -1 then -1 else Lib.index (A ++ b :: B) [b] + 1) = _
    rw [if_neg (by simp [List.isPrefixOf, hne]), ih, if_neg (by simp), List.length_cons]
    rfl
theorem cut_point (A B : List UInt8) (h : ∀ x ∈ A, x ≠ 46) : Lib.replace (A ++ 46 :: B) [46] [] 1 = A ++ B := by
  have hi := index_at A B 46 h
  have hc := Lib.count_hit (s := A ++ 46 :: B) (sub := [46]) (i := A.length) (by simp) hi
  unfold Lib.replace
  rw [if_neg (by simp)]
  have hn : Lib.replaceNum (A ++ 46 :: B) [46] 1 = 1 := by
    unfold Lib.replaceNum
    rw [if_neg (by rw [hc]; omega)]
    rfl
  rw [hn, Lib.replaceK_hit [46] [] 0 _ A.length hi]
  show _ ++ [] ++ (A ++ 46 :: B).drop (A.length + 1) = _
  rw [List.take_left, List.append_nil, List.drop_append, List.drop_of_length_le (by omega)]
  simp
theorem mag_digits : ∀ (l : List UInt8) (acc : Nat), l.all isDig = true → acc * 10 ^ l.length + dcv l < 18446744073709551616 → Lib.parseUint10 acc l = .ok (acc * 10 ^ l.length + dcv l)
  | [], acc, _, _ => by simp [Lib.parseUint10, dcv]
  | c :: r, acc, h, hb => by
    rw [List.all_cons, Bool.and_eq_true] at h
    have h1 := h.1
    simp only [isDig, Bool.and_eq_true, decide_eq_true_eq] at h1
    rw [dcv_cons, List.length_cons, Nat.pow_succ] at hb ⊢
    obtain ⟨p, hp⟩ : ∃ p, 10 ^ r.length = p := ⟨_, rfl⟩
    have hp1 : 1 ≤ p := by rw [← hp]; exact Nat.one_le_pow _ _ (by decide)
    have e : (acc * 10 + (c.toNat - 48)) * p = acc * (p * 10) + (c.toNat - 48) * p := by rw [Nat.add_mul, Nat.mul_assoc, Nat.mul_comm 10 p]
    have hle : acc * 10 + (c.toNat - 48) ≤ (acc * 10 + (c.toNat - 48)) * p := Nat.le_mul_of_pos_right _ hp1
    rw [hp] at hb ⊢
    have ih := mag_digits r (acc * 10 + (c.toNat - 48)) h.2 (by rw [hp, e]; omega)
    rw [hp, e] at ih
    unfold Lib.parseUint10
    rw [if_pos h1, if_neg (by omega), if_neg (by omega), ih, Nat.add_assoc]
theorem dcv_zeros : ∀ (k : Nat) (l : List UInt8), dcv (List.replicate k 48 ++ l) = dcv l
  | 0, l => rfl
  | k + 1, l => by
    rw [List.replicate_succ, List.cons_append, dcv_cons, dcv_zeros k l]
    have h48 : (48 : UInt8).toNat = 48 := rfl
    rw [h48]
    simp
theorem digs_all (n : Nat) : (Lib.decDigits n).all isDig = true ∧ dcv (Lib.decDigits n) = n := by
  have hk : ∀ k, k < 10 → isDig (UInt8.ofNat (48 + k)) = true := fun k h => by simp only [isDig, dig_toNat h, Bool.and_eq_true, decide_eq_true_eq]; omega
  induction n using Nat.strongRecOn with
  | _ n ih =>
    by_cases h : n < 10
    · rw [dec_lt h, List.all_cons, hk n h, dcv_cons, dig_toNat h]
      exact ⟨rfl, by simp [dcv]⟩
    · have h1 := ih (n / 10) (by omega)
      rw [dec_ge h, List.all_append, h1.1, List.all_cons, hk _ (Nat.mod_lt _ (by omega)), dcv_snoc, h1.2, dig_toNat (Nat.mod_lt _ (by omega))]
      exact ⟨rfl, by omega⟩
theorem pd_all (c : Int) : (pd c).all isDig = true := by
  unfold pd
  rw [List.all_append, (digs_all _).1, Bool.and_true, List.all_eq_true]
  intro x hx
  rw [List.eq_of_mem_replicate hx]
  decide
theorem pd_val (c : Int) : dcv (pd c) = c.natAbs := by
  unfold pd
  rw [dcv_zeros, (digs_all _).2]
theorem pd_ne (c : Int) : ∃ b m, pd c = b :: m ∧ isDig b = true := by
  have ha := pd_all c
  cases h : pd c with
  | nil =>
    exfalso
    have h2 : (pd c).length = 0 := by rw [h]; rfl
    unfold pd at h2
    have := decDigits_pos c.natAbs
    rw [List.length_append] at h2
    omega
  | cons b m =>
    rw [h, List.all_cons, Bool.and_eq_true] at ha
    exact ⟨b, m, rfl, ha.1⟩
theorem dig_ne {b : UInt8} (h : isDig b = true) : b.toNat ≠ 43 ∧ b.toNat ≠ 45 ∧ b ≠ 46 := by
  simp only [isDig, Bool.and_eq_true, decide_eq_true_eq] at h
  refine ⟨by omega, by omega, fun e => ?_⟩
  have := congrArg UInt8.toNat e
  have h46 : (46 : UInt8).toNat = 46 := rfl
  omega
theorem unDot_wtx (c : Int) : unDot (wtx c) = (if c < 0 then [45] else []) ++ pd c := by
  unfold unDot wtx
  have ht : ∀ t : List UInt8, Lib.trimPrefix (36 :: t) [36] = t := fun t => by
    unfold Lib.trimPrefix Lib.hasPrefix
    rw [if_pos (by simp [List.isPrefixOf])]
    rfl
  rw [ht, ← List.append_assoc, cut_point, List.append_assoc, List.take_append_drop]
  intro x hx
  rcases List.mem_append.1 hx with h | h
  · split at h
    · simp only [List.mem_cons, List.not_mem_nil, or_false] at h
      subst h
      decide
    · simp at h
  · exact (dig_ne (List.all_eq_true.1 (pd_all c) x (List.mem_of_mem_take h))).2.2
theorem atoi_wtx {c : Int} (h1 : -9223372036854775808 ≤ c) (h2 : c ≤ 9223372036854775807) : Lib.atoiAll (unDot (wtx c)) = .ok c := by
  rw [unDot_wtx]
  obtain ⟨b, m, hb, hd⟩ := pd_ne c
  have hv := pd_val c
  have ha := pd_all c
  have hm : Lib.parseMag (pd c) = .ok c.natAbs := by
    unfold Lib.parseMag
    rw [if_neg (by rw [hb]; simp), mag_digits _ 0 ha (by rw [hv]; omega), hv]
    simp
  by_cases hc : c < 0
  · rw [if_pos hc]
    show Lib.atoiAll (45 :: pd c) = _
    rw [Lib.atoiAll_minus, hm]
    show (if 9223372036854775808 < c.natAbs then _ else _) = _
    rw [if_neg (by omega)]
    congr 1
    omega
  · rw [if_neg hc, List.nil_append]
    rw [hb] at hm ⊢
    rw [Lib.atoiAll_plain b m (dig_ne hd).1 (dig_ne hd).2.1, hm]
    show (if 9223372036854775808 ≤ c.natAbs then _ else _) = _
    rw [if_neg (by omega)]
    congr 1
    omega
theorem wtx_len {c : Int} (h1 : -9223372036854775808 ≤ c) (h2 : c ≤ 9223372036854775807) : (wtx c).length ≤ 999 := by
  obtain ⟨x, hx⟩ : ∃ x, nb c.natAbs = x := ⟨_, rfl⟩
  have hxv : bv x = c.natAbs := by rw [← hx, bv_nb]
  have hxl : x.length ≤ 8 := by
    rw [← hx]
    refine (nb_len _ _).2 ?_
    have : (256 : Nat) ^ 8 = 18446744073709551616 := rfl
    omega
  have hd2 := dec_bytes x
  rw [hxv] at hd2
  have hp : (pd c).length ≤ 30 := by
    unfold pd
    rw [List.length_append, List.length_replicate]
    omega
  unfold wtx
  rw [List.length_cons, List.length_append, List.length_append, List.length_cons, List.length_take, List.length_drop]
  have : (if c < 0 then ([45] : List UInt8) else []).length ≤ 1 := by split <;> simp
  omega
end Go.Proofs.YtnblmmhpndnjcaaGreatDoor
namespace Go.Proofs.YtnblmmhpndnjcaaGreatDoor
open Go.RowKit
theorem wrap_in {n : Int} (h : i64m n) : IntKind.i64.wrap n = n := by
  obtain ⟨h1, h2⟩ := h
  simp [IntKind.wrap, IntKind.bits, IntKind.signed]
  omega
theorem half_in {x : Int} (h : i64m x) : -4611686018427387904 ≤ x.tdiv 2 ∧ x.tdiv 2 ≤ 4611686018427387904 ∧ i64m (x - x.tdiv 2) := by
  obtain ⟨h1, h2⟩ := h
  have h3 := Int.mul_tdiv_add_tmod x 2
  have h4 := Int.tmod_lt_of_pos x (show (0 : Int) < 2 by decide)
  have h5 : -2 < x.tmod 2 := Int.lt_tmod_of_pos x (by decide)
  unfold i64m
  omega
theorem cq_size {x : Int} (hx : i64m x) : Szq ((x : Rat) * (1 / 100)) 9 := by
  refine Szq.mul (k := 8) (m := 1) ⟨?_, ?_⟩ (by constructor <;> decide +kernel)
  · rw [Rat.num_intCast]
    have : (256 : Nat) ^ 8 = 18446744073709551616 := rfl
    have := hx.1
    have := hx.2
    omega
  · rw [Rat.den_intCast]
    decide
theorem cq_cents {x : Int} (hx : i64m x) {s : Bool} {n d : List UInt8} (h : Is ((x : Rat) * (1 / 100)) s n d) : centsR s n d = some x := by
  unfold centsR centsQ
  rw [if_pos (rightR_of h), ratOf_is h, Rat.mul_div_cancel cent_ne, if_pos ⟨Rat.den_intCast x, by rw [Rat.num_intCast]; exact hx⟩, Rat.num_intCast]
set_option maxHeartbeats 1600000 in
theorem cents_core (x : Int) (w : World) (hx : i64m x) (ht : Tm w) : Calls Tryz.prog 7 #[.int .i64 x] w (Yld w (.bool true)) := by
  have zx := cq_size hx
  have ia := pt_is ((x : Rat) * (1 / 100))
  obtain ⟨⟨sa, na, da⟩, hpa⟩ : ∃ t, pt ((x : Rat) * (1 / 100)) = t := ⟨_, rfl⟩
  rw [hpa] at ia
  simp only at ia
  obtain ⟨la1, la2⟩ := zx.len ia
  have ca := cq_cents hx ia
  obtain ⟨t, htx⟩ : ∃ t, wtx x = t := ⟨_, rfl⟩
  have hat := atoi_wtx hx.1 hx.2
  have hlt := wtx_len hx.1 hx.2
  rw [htx] at hat hlt
  obtain ⟨h, hh⟩ : ∃ h, x.tdiv 2 = h := ⟨_, rfl⟩
  obtain ⟨hb1, hb2, hj⟩ := half_in hx
  rw [hh] at hb1 hb2 hj
  have hih : i64m h := ⟨by omega, by omega⟩
  have ib := pt_is ((h : Rat) * (1 / 100))
  obtain ⟨⟨sb, kb, db⟩, hpb⟩ : ∃ t, pt ((h : Rat) * (1 / 100)) = t := ⟨_, rfl⟩
  rw [hpb] at ib
  simp only at ib
  obtain ⟨lb1, lb2⟩ := (cq_size hih).len ib
  have ic := pt_is (((x - h : Int) : Rat) * (1 / 100))
  obtain ⟨⟨sc, kc, dc⟩, hpc⟩ : ∃ t, pt (((x - h : Int) : Rat) * (1 / 100)) = t := ⟨_, rfl⟩
  rw [hpc] at ic
  simp only at ic
  obtain ⟨lc1, lc2⟩ := (cq_size hj).len ic
  have hsum : (h : Rat) * (1 / 100) + ((x - h : Int) : Rat) * (1 / 100) = (x : Rat) * (1 / 100) := by
    rw [Rat.intCast_sub]
    grind
  exact cents_walk w ht hh (wrap_in hih) (wrap_in hj) (fun W hT => sanity4 W hT) (C_mOf hx.1 hx.2 ia) (C_Cents (by omega) (by omega) ca) (C_mText_yes (by omega) (by omega) ca htx) (C_mParse_ok hlt hat htx ia)
    (C_mOf hih.1 hih.2 ib) (C_mOf hj.1 hj.2 ic) (C_rAdd (by omega) (by omega) (by omega) (by omega) (ratOf_is ib) (ratOf_is ic) (by rw [hsum]; exact ia))
end Go.Proofs.YtnblmmhpndnjcaaGreatDoor
