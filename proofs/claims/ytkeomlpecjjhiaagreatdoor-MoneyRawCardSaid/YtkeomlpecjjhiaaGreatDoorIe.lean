/- The reference of layer 4: Text. -/
import Derived.Test.YtkeomlpecjjhiaaGreatDoorId
import Derived.Test.YtkeomlpecjjhiaaGreatDoorAw
namespace Go.Proofs.YtkeomlpecjjhiaaGreatDoor
open Go.RowKit
set_option maxRecDepth 100000
def two (r : Nat) : List UInt8 := if (Lib.decDigits r).length < 2 then 48 :: Lib.decDigits r else Lib.decDigits r
theorem two_lt {r : Nat} (h : r < 10) : two r = [48, UInt8.ofNat (48 + r)] := by unfold two; rw [dec_lt h]; rfl
theorem two_ge {r : Nat} (h : ¬ r < 10) (h2 : r < 100) : two r = [UInt8.ofNat (48 + r / 10), UInt8.ofNat (48 + r % 10)] := by unfold two; rw [dec_ge h, dec_lt (show r / 10 < 10 by omega)]; rfl
theorem pd_split (c : Int) : (pd c).take ((pd c).length - 2) = Lib.decDigits (c.natAbs / 100) ∧ (pd c).drop ((pd c).length - 2) = two (c.natAbs % 100) := by
 unfold pd
 generalize c.natAbs = n
 by_cases h1 : n < 10
 ·rw [dec_lt h1, show n / 100 = 0 by omega, show n % 100 = n by omega, dec_lt (show 0 < 10 by decide), two_lt h1]
  exact ⟨rfl, rfl⟩
 ·by_cases h2 : n < 100
  ·rw [dec_ge h1, dec_lt (show n / 10 < 10 by omega), show n / 100 = 0 by omega, show n % 100 = n by omega, dec_lt (show 0 < 10 by decide), two_ge h1 h2]
   exact ⟨rfl, rfl⟩
  ·have hp := decDigits_pos (n / 100)
   rw [dec_ge h1, dec_ge (show ¬ n / 10 < 10 by omega), show n / 10 / 10 = n / 100 by omega]
   obtain ⟨l, hl⟩ : ∃ l, Lib.decDigits (n / 100) = l := ⟨_, rfl⟩
   rw [hl] at hp ⊢
   have hlen : (l ++ [UInt8.ofNat (48 + n / 10 % 10)] ++ [UInt8.ofNat (48 + n % 10)]).length = l.length + 2 := by simp
   rw [hlen, show 3 - (l.length + 2) = 0 by omega]
   rw [List.replicate_zero, List.nil_append, hlen, Nat.add_sub_cancel, List.append_assoc, List.take_left' rfl, List.drop_left' rfl]
   refine ⟨rfl, ?_⟩
   by_cases h3 : n % 100 < 10
   ·rw [two_lt h3, show n / 10 % 10 = 0 by omega, show n % 10 = n % 100 by omega]
    rfl
   ·rw [two_ge h3 (by omega), show n % 100 / 10 = n / 10 % 10 by omega, show n % 100 % 10 = n % 10 by omega]
    rfl
theorem wtx_two (c : Int) : wtx c = 36 :: ((if c < 0 then [45] else []) ++ (Lib.decDigits (c.natAbs / 100) ++ 46 :: two (c.natAbs % 100))) := by
 unfold wtx
 rw [(pd_split c).1, (pd_split c).2]
theorem sign_100 (a : Rat) : (a * 100).num < 0 ↔ a.num < 0 := by
 have h := sgr_mul a 100
 rw [show sgr (100 : Rat) = 1 by decide +kernel, Int.mul_one] at h
 unfold sgr at h
 constructor
 ·intro h1
  rw [Int.sign_eq_neg_one_of_neg h1] at h
  exact Int.sign_eq_neg_one_iff_neg.1 h.symm
 ·intro h1
  rw [Int.sign_eq_neg_one_of_neg h1] at h
  exact Int.sign_eq_neg_one_iff_neg.1 h
theorem tup_eq' {a b : ByteArray} {v : Value} (h : a.data.toList = b.data.toList) : Ending.returned (.tuple #[.string a, v]) = .returned (.tuple #[.string b, v]) := by rw [bytes_eqL h]
set_option maxHeartbeats 6400000 in
theorem C_rmText_no {s : Bool} {n d : List UInt8} (hn : n.length ≤ 390) (hd : d.length ≤ 390) (ho : centsR s n d = none) : AnsM 50 #[Rv s n d] (.tuple #[S [], .bool false]) := fun w ht => by
 have H1 := Lib.hid (C_rCents hn hd ho)
 rw [show centsV none = .tuple #[.int .i64 0, .bool false] from rfl] at H1
 clear hn hd ho
 have HT := Lib.hid ht
 have HK := Lib.hid ((Kq.nil w).new #[.bool s, S n, S d] 26)
 obtain ⟨B, hB⟩ : ∃ B, w.heap.size = B := ⟨_, rfl⟩
 rw [hB] at HK
 have HBB := Lib.hid hB
 clear ht
 have HF1 := Lib.hid (show ∀ W, Kq w W [(B, 26, [.bool s, S n, S d])] → W.cell? ⟨B, 0, none⟩ = some (.bool s) ∧ W.cell? ⟨B, 1, none⟩ = some (S n) ∧ W.cell? ⟨B, 2, none⟩ = some (S d) from fun W h => ⟨(h.row _ mm0).cell 0, (h.row _ mm0).cell 1, (h.row _ mm0).cell 2⟩)
 obtain ⟨cc0, cc1, cc2⟩ := HF1.out _ HK.out
 go_enter Tryz.func50, Tryz.ntmps50
 go_wp2_with fail
 clear hB
 refine (H1.out _ (HT.out.ch HK.out.ch)).mono ?_
 rintro e w1 ⟨rfl, hC⟩
 replace HK := Lib.hid (HK.out.on hC)
 clear hC cc0 cc1 cc2
 obtain ⟨cc0, cc1, cc2⟩ := HF1.out _ HK.out
 go_wp2_with fail
 go_ret2
 exact ⟨rfl, HK.out.ch⟩
set_option maxHeartbeats 6400000 in
theorem C_rmText_yes {s : Bool} {n d x : List UInt8} {c : Int} (hn : n.length ≤ 390) (hd : d.length ≤ 390) (ho : centsR s n d = some c) (hx : wtx c = x) : AnsM 50 #[Rv s n d] (.tuple #[S x, .bool true]) := fun w ht => by
 have H1 := Lib.hid (C_rCents hn hd ho)
 rw [show centsV (some c) = .tuple #[.int .i64 c, .bool true] from rfl] at H1
 obtain ⟨a, ha⟩ : ∃ a, ratOf s n d = a := ⟨_, rfl⟩
 unfold centsR centsQ at ho
 rw [ha, cents_mul] at ho
 have hr : rightR s n d = true := by
  cases hq : rightR s n d with
  | true => rfl
  | false => rw [hq] at ho; simp at ho
 rw [hr, if_pos rfl] at ho
 have ia := rightR_is hr
 rw [ha] at ia
 obtain ⟨hden, hnum⟩ : (a * 100).den = 1 ∧ (a * 100).num = c := by
  split at ho
  ·rename_i h
   exact ⟨h.1, Option.some.inj ho⟩
  ·simp at ho
 obtain ⟨s1, n1, d1, ic⟩ := Is.ex (a * 100)
 obtain rfl : d1 = [1] := (den_one ic).2 hden
 have hn1 : bv n1 = c.natAbs := by rw [ic.vn, hnum]
 have za : Szq a 390 := by rw [← ha]; exact Szq.of_len hn hd (by omega)
 have zc : Szq (100 : Rat) 1 := by constructor <;> decide +kernel
 obtain ⟨l1, -⟩ := (za.mul zc).len ic
 have hsc : s = decide (c < 0) := by
  rw [← ia.sgn, ← hnum]
  exact decide_eq_decide.2 (sign_100 a).symm
 have H2 := Lib.hid C_rOf100
 have H3 := Lib.hid (C_rMul (s := s) (n := n) (d := d) (t := false) (m := [100]) (e := [1]) (by omega) (by omega) (by decide) (by decide) ha (ratOf_is i_100) ic)
 have H4 := Lib.hid C_ref100
 obtain ⟨q, hq, vq⟩ := has_nb (bv n1 / 100)
 obtain ⟨r, hr2, vr⟩ := has_nb (bv n1 % 100)
 obtain ⟨M, hM⟩ : ∃ M, M = 391 := ⟨_, rfl⟩
 have lq := nbl' M hq (div_lt' (bv_b (by omega)))
 have lr := nbl' 1 hr2 (by have := Nat.mod_lt (bv n1) (show 0 < 100 by decide); have : (256 : Nat) ^ 1 = 256 := rfl; omega)
 have H5 := Lib.hid (C_rquo (a := n1) (b := [100]) hq hr2 (by omega) (by decide) (by decide) rfl rfl)
 obtain ⟨dq, edq⟩ : ∃ dq, Lib.decDigits (bv q) = dq := ⟨_, rfl⟩
 obtain ⟨dr, edr⟩ : ∃ dr, Lib.decDigits (bv r) = dr := ⟨_, rfl⟩
 have H6 := Lib.hid (fun W => refText_any r W (by omega))
 have H7 := Lib.hid (fun W => refText_any q W (by omega))
 rw [edr] at H6
 rw [edq] at H7
 have hxx : x = 36 :: ((if c < 0 then [45] else []) ++ (dq ++ 46 :: (if dr.length < 2 then 48 :: dr else dr))) := by
  rw [← hx, wtx_two, ← edq, vq, hn1]
  unfold two
  rw [← edr, vr, hn1]
 have ldq := dec_bytes q
 have ldr := dec_bytes r
 rw [edq] at ldq
 rw [edr] at ldr
 have lq3 : dq.length ≤ 1200 := by omega
 have lr3 : dr.length ≤ 4 := by omega
 clear hn hd ho hx hr ia ha hden hnum ic hn1 za zc l1 hq vq hr2 vr hM lq lr edq edr ldq ldr
 have HD : ∃ z m : List UInt8, x = z ++ (dq ++ 46 :: m) ∧ ((s = true ∧ z = [36, 45]) ∨ (s = false ∧ z = [36])) ∧ ((dr.length < 2 ∧ m = 48 :: dr) ∨ (¬ dr.length < 2 ∧ m = dr)) := by
  refine ⟨if c < 0 then [36, 45] else [36], if dr.length < 2 then 48 :: dr else dr, ?_, ?_, ?_⟩
  ·rw [hxx]; by_cases hc : c < 0
   ·rw [if_pos hc, if_pos hc]; rfl
   ·rw [if_neg hc, if_neg hc]; rfl
  ·by_cases hc : c < 0
   ·exact .inl ⟨by rw [hsc, decide_eq_true hc], by rw [if_pos hc]⟩
   ·exact .inr ⟨by rw [hsc, decide_eq_false hc], by rw [if_neg hc]⟩
  ·by_cases hl : dr.length < 2
   ·exact .inl ⟨hl, by rw [if_pos hl]⟩
   ·exact .inr ⟨hl, by rw [if_neg hl]⟩
 have HDD := Lib.hid HD
 clear HD hxx hsc
 have HT := Lib.hid ht
 have HK := Lib.hid ((Kq.nil w).new #[.bool s, S n, S d] 26)
 obtain ⟨B, hB⟩ : ∃ B, w.heap.size = B := ⟨_, rfl⟩
 rw [hB] at HK
 have HBB := Lib.hid hB
 clear ht
 have HF1 := Lib.hid (show ∀ W, Kq w W [(B, 26, [.bool s, S n, S d])] → W.cell? ⟨B, 0, none⟩ = some (.bool s) ∧ W.cell? ⟨B, 1, none⟩ = some (S n) ∧ W.cell? ⟨B, 2, none⟩ = some (S d) from fun W h => ⟨(h.row _ mm0).cell 0, (h.row _ mm0).cell 1, (h.row _ mm0).cell 2⟩)
 obtain ⟨cc0, cc1, cc2⟩ := HF1.out _ HK.out
 go_enter Tryz.func50, Tryz.ntmps50
 go_wp2_with fail
 clear hB
 refine (H1.out _ (HT.out.ch HK.out.ch)).mono ?_
 rintro e w1 ⟨rfl, hC⟩
 replace HK := Lib.hid (HK.out.on hC)
 clear hC cc0 cc1 cc2
 obtain ⟨cc0, cc1, cc2⟩ := HF1.out _ HK.out
 go_wp2_with fail
 clear cc0 cc1 cc2
 replace HK := Lib.hid HK.out.drew
 refine wp_region_held_drew (S := fun w' => w'.cell? ⟨B, 0, none⟩ = some (.bool s) ∧ w'.cell? ⟨B, 1, none⟩ = some (S n) ∧ w'.cell? ⟨B, 2, none⟩ = some (S d)) (by kernel_rfl) ?_ (fun hHeld => ?_)
 ·(try dsimp only); exact HF1.out _ HK.out
 refine tk 0 (v := ?_) hHeld ?_ ?_
 rotate_left 1
 ·intro _ hw; (try dsimp only at hw); go_simp; try with_reducible rfl
 (try simp only [Act.put, List.setIfInBounds_toArray, List.set_cons_zero, List.set_cons_succ])
 generalize hX : @wpAnyH _ _ _ _ _ = X
 have hXi : ∀ f l a W, X f l a W → wpAnyH _ _ _ _ _ f l a W := fun f l a W h => by rw [hX]; exact h
 have hXo : ∀ f l a W, wpAnyH _ _ _ _ _ f l a W → X f l a W := fun f l a W h => by rw [← hX]; exact h
 have HXI := Lib.hid hXi
 have HXO := Lib.hid hXo
 clear hXi hXo hX hHeld
 have HK0 := HK
 clear HK
 have LS2_0 : ∀ (pm : Nat) (W : World), Kq w W [(B, 26, [.bool s, S n, S d])] → Blk W pm 26 [.bool false, S [], S []] → B < pm → X 1 #[true, true, true, true, false] { tmps := #[Rv s n d, .pointer (some ⟨B, 0, none⟩), S [], .bool false, .int .i64 c, .bool true, .pointer (some ⟨pm, 0, none⟩), undef, undef, undef, undef, undef, .tuple #[.int .i64 c, .bool true], Rv s n d, .tuple #[.int .i64 c, .bool true], .int .i64 c, .bool true, .bool true, .bool false, Rv s n d, Rv false [100] [1], Rv s1 n1 [1], undef, undef, undef, undef, undef, undef, undef, undef, undef, undef, undef, undef, undef, undef, undef, undef, undef, undef, undef, undef, undef, undef, undef, undef, undef, undef], defers := [] } W := by
  intro pm W hK0 bpm gpm
  have HK := Lib.hid hK0
  clear hK0
  have hHeld := HF1.out _ HK.out
  refine HXO.out _ _ _ _ ?_
  replace HK := Lib.hid (HK.out.add bpm)
  clear bpm
  have e0 := (HK.out.row _ mm0).cell 0
  have f0 := (HK.out.row _ mm0).frozen 0
  have e1 := (HK.out.row _ mm0).cell 1
  have f1 := (HK.out.row _ mm0).frozen 1
  have e2 := (HK.out.row _ mm0).cell 2
  have f2 := (HK.out.row _ mm0).frozen 2
  simp only [List.getElem?_cons_zero, List.getElem?_cons_succ] at e0 e1 e2
  refine wpAnyH_ready (rs := [4]) (by kernel_rfl) (by simp) ?_
  refine AllReadyH.cons (at_list rfl) (fun K hK => ?_) AllReadyH.nil
  go_simp
  clear hHeld e0 e1 e2 f0 f1 f2
  have HKp := Lib.hid (Kq.sub (l' := [(pm, 26, [.bool false, S [], S []]), (B, 26, [.bool s, S n, S d])]) HK.out (by intro p hp; simp only [List.mem_cons, List.not_mem_nil, or_false] at hp ⊢; rcases hp with rfl | rfl <;> simp))
  have HKq := Lib.hid (HKp.out.put3 (by have := HBB.out; omega) (by intro p hp; simp only [List.mem_cons, List.not_mem_nil, or_false] at hp; rcases hp with rfl <;> (simp only; omega)) (.bool s1) (S n1) (S [1]))
  have HK2 := Lib.hid (Kq.sub (l' := [(pm, 26, [.bool s1, S n1, S [1]]), (B, 26, [.bool s, S n, S d])]) HKq.out (by intro p hp; simp only [List.mem_cons, List.not_mem_nil, or_false] at hp ⊢; rcases hp with rfl | rfl <;> simp))
  refine hK.out _ _ ?_ (fun hHeld => ?_)
  ·(try dsimp only); exact HF1.out _ (Kq.sub HK2.out (by intro p hp; simp only [List.mem_cons, List.not_mem_nil, or_false] at hp ⊢; rcases hp with rfl <;> simp))
  clear hK K HK HKp HKq
  have HK := HK2
  clear HK2
  (try simp only [List.setIfInBounds_toArray, List.set_cons_zero, List.set_cons_succ])
  refine wpAnyH_done (by kernel_rfl) ?_ _
  clear hHeld
  obtain ⟨z, m, rfl, ⟨rfl, rfl⟩ | ⟨rfl, rfl⟩, ⟨hl, rfl⟩ | ⟨hl, rfl⟩⟩ := HDD.out
  ·clear HDD
   have HF72 := Lib.hid (show ∀ W, Kq w W [(pm, 26, [.bool s1, S n1, S [1]]), (B, 26, [.bool true, S n, S d])] → W.cell? ⟨pm, 0, none⟩ = some (.bool s1) ∧ W.cell? ⟨pm, 1, none⟩ = some (S n1) ∧ W.cell? ⟨pm, 2, none⟩ = some (S [1]) ∧ W.cell? ⟨B, 0, none⟩ = some (.bool true) ∧ W.cell? ⟨B, 1, none⟩ = some (S n) ∧ W.cell? ⟨B, 2, none⟩ = some (S d) from fun W h => ⟨(h.row _ mm0).cell 0, (h.row _ mm0).cell 1, (h.row _ mm0).cell 2, (h.row _ mm1).cell 0, (h.row _ mm1).cell 1, (h.row _ mm1).cell 2⟩)
   obtain ⟨cc0, cc1, cc2, cc3, cc4, cc5⟩ := HF72.out _ HK.out
   go_wp2_with fail
   clear cc0 cc1 cc2 cc3 cc4 cc5
   replace HK := Lib.hid HK.out.drew
   go_region_held3 (fun w' => w'.cell? ⟨pm, 0, none⟩ = some (.bool s1) ∧ w'.cell? ⟨pm, 1, none⟩ = some (S n1) ∧ w'.cell? ⟨pm, 2, none⟩ = some (S [1]) ∧ w'.cell? ⟨B, 0, none⟩ = some (.bool true) ∧ w'.cell? ⟨B, 1, none⟩ = some (S n) ∧ w'.cell? ⟨B, 2, none⟩ = some (S d))
    (first
     | (with_reducible exact HF72.out _ HK.out)
     | go_keep)
    (first
     | (go_at_call 40; with_reducible refine (H4.out _).mono ?_; rintro e wq ⟨rfl, hCq⟩; replace HK := Lib.hid (HK.out.on hCq); clear hCq)
     | (go_at_call 84; with_reducible refine (H5.out _).mono ?_; rintro e wq ⟨rfl, hCq⟩; replace HK := Lib.hid (HK.out.on hCq); clear hCq))
   obtain ⟨cc0, cc1, cc2, cc3, cc4, cc5⟩ := HF72.out _ HK.out
   go_wp2_with fail
   refine (H6.out _).mono ?_
   rintro e w52 ⟨rfl, hC⟩
   replace HK := Lib.hid (HK.out.on hC)
   clear hC cc0 cc1 cc2 cc3 cc4 cc5
   obtain ⟨cc0, cc1, cc2, cc3, cc4, cc5⟩ := HF72.out _ HK.out
   go_wp2_with fail
   refine (H7.out _).mono ?_
   rintro e w53 ⟨rfl, hC⟩
   replace HK := Lib.hid (HK.out.on hC)
   clear hC cc0 cc1 cc2 cc3 cc4 cc5
   obtain ⟨cc0, cc1, cc2, cc3, cc4, cc5⟩ := HF72.out _ HK.out
   go_wp2_with fail
   go_ret2
   exact ⟨tup_eq' (by simp [ByteArray.data_append]), HK.out.ch⟩
  ·clear HDD
   have HF72 := Lib.hid (show ∀ W, Kq w W [(pm, 26, [.bool s1, S n1, S [1]]), (B, 26, [.bool true, S n, S d])] → W.cell? ⟨pm, 0, none⟩ = some (.bool s1) ∧ W.cell? ⟨pm, 1, none⟩ = some (S n1) ∧ W.cell? ⟨pm, 2, none⟩ = some (S [1]) ∧ W.cell? ⟨B, 0, none⟩ = some (.bool true) ∧ W.cell? ⟨B, 1, none⟩ = some (S n) ∧ W.cell? ⟨B, 2, none⟩ = some (S d) from fun W h => ⟨(h.row _ mm0).cell 0, (h.row _ mm0).cell 1, (h.row _ mm0).cell 2, (h.row _ mm1).cell 0, (h.row _ mm1).cell 1, (h.row _ mm1).cell 2⟩)
   obtain ⟨cc0, cc1, cc2, cc3, cc4, cc5⟩ := HF72.out _ HK.out
   go_wp2_with fail
   clear cc0 cc1 cc2 cc3 cc4 cc5
   replace HK := Lib.hid HK.out.drew
   go_region_held3 (fun w' => w'.cell? ⟨pm, 0, none⟩ = some (.bool s1) ∧ w'.cell? ⟨pm, 1, none⟩ = some (S n1) ∧ w'.cell? ⟨pm, 2, none⟩ = some (S [1]) ∧ w'.cell? ⟨B, 0, none⟩ = some (.bool true) ∧ w'.cell? ⟨B, 1, none⟩ = some (S n) ∧ w'.cell? ⟨B, 2, none⟩ = some (S d))
    (first
     | (with_reducible exact HF72.out _ HK.out)
     | go_keep)
    (first
     | (go_at_call 40; with_reducible refine (H4.out _).mono ?_; rintro e wq ⟨rfl, hCq⟩; replace HK := Lib.hid (HK.out.on hCq); clear hCq)
     | (go_at_call 84; with_reducible refine (H5.out _).mono ?_; rintro e wq ⟨rfl, hCq⟩; replace HK := Lib.hid (HK.out.on hCq); clear hCq))
   obtain ⟨cc0, cc1, cc2, cc3, cc4, cc5⟩ := HF72.out _ HK.out
   go_wp2_with fail
   refine (H6.out _).mono ?_
   rintro e w52 ⟨rfl, hC⟩
   replace HK := Lib.hid (HK.out.on hC)
   clear hC cc0 cc1 cc2 cc3 cc4 cc5
   obtain ⟨cc0, cc1, cc2, cc3, cc4, cc5⟩ := HF72.out _ HK.out
   go_wp2_with fail
   refine (H7.out _).mono ?_
   rintro e w53 ⟨rfl, hC⟩
   replace HK := Lib.hid (HK.out.on hC)
   clear hC cc0 cc1 cc2 cc3 cc4 cc5
   obtain ⟨cc0, cc1, cc2, cc3, cc4, cc5⟩ := HF72.out _ HK.out
   go_wp2_with fail
   go_ret2
   exact ⟨tup_eq' (by simp [ByteArray.data_append]), HK.out.ch⟩
  ·clear HDD
   have HF72 := Lib.hid (show ∀ W, Kq w W [(pm, 26, [.bool s1, S n1, S [1]]), (B, 26, [.bool false, S n, S d])] → W.cell? ⟨pm, 0, none⟩ = some (.bool s1) ∧ W.cell? ⟨pm, 1, none⟩ = some (S n1) ∧ W.cell? ⟨pm, 2, none⟩ = some (S [1]) ∧ W.cell? ⟨B, 0, none⟩ = some (.bool false) ∧ W.cell? ⟨B, 1, none⟩ = some (S n) ∧ W.cell? ⟨B, 2, none⟩ = some (S d) from fun W h => ⟨(h.row _ mm0).cell 0, (h.row _ mm0).cell 1, (h.row _ mm0).cell 2, (h.row _ mm1).cell 0, (h.row _ mm1).cell 1, (h.row _ mm1).cell 2⟩)
   obtain ⟨cc0, cc1, cc2, cc3, cc4, cc5⟩ := HF72.out _ HK.out
   go_wp2_with fail
   clear cc0 cc1 cc2 cc3 cc4 cc5
   replace HK := Lib.hid HK.out.drew
   go_region_held3 (fun w' => w'.cell? ⟨pm, 0, none⟩ = some (.bool s1) ∧ w'.cell? ⟨pm, 1, none⟩ = some (S n1) ∧ w'.cell? ⟨pm, 2, none⟩ = some (S [1]) ∧ w'.cell? ⟨B, 0, none⟩ = some (.bool false) ∧ w'.cell? ⟨B, 1, none⟩ = some (S n) ∧ w'.cell? ⟨B, 2, none⟩ = some (S d))
    (first
     | (with_reducible exact HF72.out _ HK.out)
     | go_keep)
    (first
     | (go_at_call 40; with_reducible refine (H4.out _).mono ?_; rintro e wq ⟨rfl, hCq⟩; replace HK := Lib.hid (HK.out.on hCq); clear hCq)
     | (go_at_call 84; with_reducible refine (H5.out _).mono ?_; rintro e wq ⟨rfl, hCq⟩; replace HK := Lib.hid (HK.out.on hCq); clear hCq))
   obtain ⟨cc0, cc1, cc2, cc3, cc4, cc5⟩ := HF72.out _ HK.out
   go_wp2_with fail
   refine (H6.out _).mono ?_
   rintro e w52 ⟨rfl, hC⟩
   replace HK := Lib.hid (HK.out.on hC)
   clear hC cc0 cc1 cc2 cc3 cc4 cc5
   obtain ⟨cc0, cc1, cc2, cc3, cc4, cc5⟩ := HF72.out _ HK.out
   go_wp2_with fail
   refine (H7.out _).mono ?_
   rintro e w53 ⟨rfl, hC⟩
   replace HK := Lib.hid (HK.out.on hC)
   clear hC cc0 cc1 cc2 cc3 cc4 cc5
   obtain ⟨cc0, cc1, cc2, cc3, cc4, cc5⟩ := HF72.out _ HK.out
   go_wp2_with fail
   go_ret2
   exact ⟨tup_eq' (by simp [ByteArray.data_append]), HK.out.ch⟩
  ·clear HDD
   have HF72 := Lib.hid (show ∀ W, Kq w W [(pm, 26, [.bool s1, S n1, S [1]]), (B, 26, [.bool false, S n, S d])] → W.cell? ⟨pm, 0, none⟩ = some (.bool s1) ∧ W.cell? ⟨pm, 1, none⟩ = some (S n1) ∧ W.cell? ⟨pm, 2, none⟩ = some (S [1]) ∧ W.cell? ⟨B, 0, none⟩ = some (.bool false) ∧ W.cell? ⟨B, 1, none⟩ = some (S n) ∧ W.cell? ⟨B, 2, none⟩ = some (S d) from fun W h => ⟨(h.row _ mm0).cell 0, (h.row _ mm0).cell 1, (h.row _ mm0).cell 2, (h.row _ mm1).cell 0, (h.row _ mm1).cell 1, (h.row _ mm1).cell 2⟩)
   obtain ⟨cc0, cc1, cc2, cc3, cc4, cc5⟩ := HF72.out _ HK.out
   go_wp2_with fail
   clear cc0 cc1 cc2 cc3 cc4 cc5
   replace HK := Lib.hid HK.out.drew
   go_region_held3 (fun w' => w'.cell? ⟨pm, 0, none⟩ = some (.bool s1) ∧ w'.cell? ⟨pm, 1, none⟩ = some (S n1) ∧ w'.cell? ⟨pm, 2, none⟩ = some (S [1]) ∧ w'.cell? ⟨B, 0, none⟩ = some (.bool false) ∧ w'.cell? ⟨B, 1, none⟩ = some (S n) ∧ w'.cell? ⟨B, 2, none⟩ = some (S d))
    (first
     | (with_reducible exact HF72.out _ HK.out)
     | go_keep)
    (first
     | (go_at_call 40; with_reducible refine (H4.out _).mono ?_; rintro e wq ⟨rfl, hCq⟩; replace HK := Lib.hid (HK.out.on hCq); clear hCq)
     | (go_at_call 84; with_reducible refine (H5.out _).mono ?_; rintro e wq ⟨rfl, hCq⟩; replace HK := Lib.hid (HK.out.on hCq); clear hCq))
   obtain ⟨cc0, cc1, cc2, cc3, cc4, cc5⟩ := HF72.out _ HK.out
   go_wp2_with fail
   refine (H6.out _).mono ?_
   rintro e w52 ⟨rfl, hC⟩
   replace HK := Lib.hid (HK.out.on hC)
   clear hC cc0 cc1 cc2 cc3 cc4 cc5
   obtain ⟨cc0, cc1, cc2, cc3, cc4, cc5⟩ := HF72.out _ HK.out
   go_wp2_with fail
   refine (H7.out _).mono ?_
   rintro e w53 ⟨rfl, hC⟩
   replace HK := Lib.hid (HK.out.on hC)
   clear hC cc0 cc1 cc2 cc3 cc4 cc5
   obtain ⟨cc0, cc1, cc2, cc3, cc4, cc5⟩ := HF72.out _ HK.out
   go_wp2_with fail
   go_ret2
   exact ⟨tup_eq' (by simp [ByteArray.data_append]), HK.out.ch⟩
 have LS1_0 : ∀ (pm : Nat) (W : World), Kq w W [(B, 26, [.bool s, S n, S d])] → Blk W pm 26 [.bool false, S [], S []] → B < pm → X 2 #[true, true, false, true, false] { tmps := #[Rv s n d, .pointer (some ⟨B, 0, none⟩), S [], .bool false, .int .i64 c, .bool true, .pointer (some ⟨pm, 0, none⟩), undef, undef, undef, undef, undef, .tuple #[.int .i64 c, .bool true], Rv s n d, .tuple #[.int .i64 c, .bool true], .int .i64 c, .bool true, .bool true, .bool false, Rv s n d, Rv false [100] [1], undef, undef, undef, undef, undef, undef, undef, undef, undef, undef, undef, undef, undef, undef, undef, undef, undef, undef, undef, undef, undef, undef, undef, undef, undef, undef, undef], defers := [] } W := by
  intro pm W hK0 bpm gpm
  have HK := Lib.hid hK0
  clear hK0
  have hHeld := HF1.out _ HK.out
  refine HXO.out _ _ _ _ ?_
  refine wpAnyH_ready (rs := [2]) (by kernel_rfl) (by simp) ?_
  refine AllReadyH.cons (at_list rfl) (fun K hK => ?_) (AllReadyH.nil)
  ·go_simp
   go_at_call 16
   with_reducible refine (H3.out _).mono ?_
   rintro e wq ⟨rfl, hCq⟩
   have HK2 := Lib.hid (HK.out.on hCq)
   clear hHeld
   first | (refine hK.out _ _ ?_ (fun hHeld => ?_)) | (go_wp2_with fail; refine hK.out _ _ ?_ (fun hHeld => ?_))
   ·(try dsimp only); exact HF1.out _ HK2.out
   (try simp only [List.setIfInBounds_toArray, List.set_cons_zero, List.set_cons_succ])
   exact HXI.out _ _ _ _ (LS2_0 _ _ HK2.out (hCq.blk bpm (Blk.lt bpm) (fun q => q)) gpm)
 have LS2_ : ∀ (W : World), Kq w W [(B, 26, [.bool s, S n, S d])] → X 2 #[true, true, true, false, false] { tmps := #[Rv s n d, .pointer (some ⟨B, 0, none⟩), S [], .bool false, .int .i64 c, .bool true, undef, undef, undef, undef, undef, undef, .tuple #[.int .i64 c, .bool true], Rv s n d, .tuple #[.int .i64 c, .bool true], .int .i64 c, .bool true, .bool true, .bool false, Rv s n d, Rv false [100] [1], Rv s1 n1 [1], undef, undef, undef, undef, undef, undef, undef, undef, undef, undef, undef, undef, undef, undef, undef, undef, undef, undef, undef, undef, undef, undef, undef, undef, undef, undef], defers := [] } W := by
  intro  W hK0
  have HK := Lib.hid hK0
  clear hK0
  have hHeld := HF1.out _ HK.out
  refine HXO.out _ _ _ _ ?_
  refine wpAnyH_ready (rs := [3]) (by kernel_rfl) (by simp) ?_
  refine AllReadyH.cons (at_list rfl) (fun K hK => ?_) (AllReadyH.nil)
  ·go_simp
   have HK2 := Lib.hid (HK.out.other (.cells #[.bool false, S [], S []] 26 (0, 0)))
   have nB := Blk.new W #[.bool false, S [], S []] 26
   have nG : B < W.heap.size := (HK.out.row _ mm0).lt
   clear hHeld
   refine hK.out _ _ ?_ (fun hHeld => ?_)
   ·(try dsimp only); exact HF1.out _ HK2.out
   (try simp only [List.setIfInBounds_toArray, List.set_cons_zero, List.set_cons_succ])
   exact HXI.out _ _ _ _ (LS2_0 _ _ HK2.out nB nG)
 have LS0_0 : ∀ (pm : Nat) (W : World), Kq w W [(B, 26, [.bool s, S n, S d])] → Blk W pm 26 [.bool false, S [], S []] → B < pm → X 3 #[true, false, false, true, false] { tmps := #[Rv s n d, .pointer (some ⟨B, 0, none⟩), S [], .bool false, .int .i64 c, .bool true, .pointer (some ⟨pm, 0, none⟩), undef, undef, undef, undef, undef, .tuple #[.int .i64 c, .bool true], Rv s n d, .tuple #[.int .i64 c, .bool true], .int .i64 c, .bool true, .bool true, .bool false, Rv s n d, undef, undef, undef, undef, undef, undef, undef, undef, undef, undef, undef, undef, undef, undef, undef, undef, undef, undef, undef, undef, undef, undef, undef, undef, undef, undef, undef, undef], defers := [] } W := by
  intro pm W hK0 bpm gpm
  have HK := Lib.hid hK0
  clear hK0
  have hHeld := HF1.out _ HK.out
  refine HXO.out _ _ _ _ ?_
  refine wpAnyH_ready (rs := [1]) (by kernel_rfl) (by simp) ?_
  refine AllReadyH.cons (at_list rfl) (fun K hK => ?_) (AllReadyH.nil)
  ·go_simp
   go_at_call 17
   with_reducible refine (H2.out _).mono ?_
   rintro e wq ⟨rfl, hCq⟩
   have HK2 := Lib.hid (HK.out.on hCq)
   clear hHeld
   first | (refine hK.out _ _ ?_ (fun hHeld => ?_)) | (go_wp2_with fail; refine hK.out _ _ ?_ (fun hHeld => ?_))
   ·(try dsimp only); exact HF1.out _ HK2.out
   (try simp only [List.setIfInBounds_toArray, List.set_cons_zero, List.set_cons_succ])
   exact HXI.out _ _ _ _ (LS1_0 _ _ HK2.out (hCq.blk bpm (Blk.lt bpm) (fun q => q)) gpm)
 have LS1_ : ∀ (W : World), Kq w W [(B, 26, [.bool s, S n, S d])] → X 3 #[true, true, false, false, false] { tmps := #[Rv s n d, .pointer (some ⟨B, 0, none⟩), S [], .bool false, .int .i64 c, .bool true, undef, undef, undef, undef, undef, undef, .tuple #[.int .i64 c, .bool true], Rv s n d, .tuple #[.int .i64 c, .bool true], .int .i64 c, .bool true, .bool true, .bool false, Rv s n d, Rv false [100] [1], undef, undef, undef, undef, undef, undef, undef, undef, undef, undef, undef, undef, undef, undef, undef, undef, undef, undef, undef, undef, undef, undef, undef, undef, undef, undef, undef], defers := [] } W := by
  intro  W hK0
  have HK := Lib.hid hK0
  clear hK0
  have hHeld := HF1.out _ HK.out
  refine HXO.out _ _ _ _ ?_
  refine wpAnyH_ready (rs := [2, 3]) (by kernel_rfl) (by simp) ?_
  refine AllReadyH.cons (at_list rfl) (fun K hK => ?_) (AllReadyH.cons (at_list rfl) (fun K hK => ?_) (AllReadyH.nil))
  ·go_simp
   go_at_call 16
   with_reducible refine (H3.out _).mono ?_
   rintro e wq ⟨rfl, hCq⟩
   have HK2 := Lib.hid (HK.out.on hCq)
   clear hHeld
   first | (refine hK.out _ _ ?_ (fun hHeld => ?_)) | (go_wp2_with fail; refine hK.out _ _ ?_ (fun hHeld => ?_))
   ·(try dsimp only); exact HF1.out _ HK2.out
   (try simp only [List.setIfInBounds_toArray, List.set_cons_zero, List.set_cons_succ])
   exact HXI.out _ _ _ _ (LS2_ _ HK2.out)
  ·go_simp
   have HK2 := Lib.hid (HK.out.other (.cells #[.bool false, S [], S []] 26 (0, 0)))
   have nB := Blk.new W #[.bool false, S [], S []] 26
   have nG : B < W.heap.size := (HK.out.row _ mm0).lt
   clear hHeld
   refine hK.out _ _ ?_ (fun hHeld => ?_)
   ·(try dsimp only); exact HF1.out _ HK2.out
   (try simp only [List.setIfInBounds_toArray, List.set_cons_zero, List.set_cons_succ])
   exact HXI.out _ _ _ _ (LS1_0 _ _ HK2.out nB nG)
 have LS0_ : ∀ (W : World), Kq w W [(B, 26, [.bool s, S n, S d])] → X 4 #[true, false, false, false, false] { tmps := #[Rv s n d, .pointer (some ⟨B, 0, none⟩), S [], .bool false, .int .i64 c, .bool true, undef, undef, undef, undef, undef, undef, .tuple #[.int .i64 c, .bool true], Rv s n d, .tuple #[.int .i64 c, .bool true], .int .i64 c, .bool true, .bool true, .bool false, Rv s n d, undef, undef, undef, undef, undef, undef, undef, undef, undef, undef, undef, undef, undef, undef, undef, undef, undef, undef, undef, undef, undef, undef, undef, undef, undef, undef, undef, undef], defers := [] } W := by
  intro  W hK0
  have HK := Lib.hid hK0
  clear hK0
  have hHeld := HF1.out _ HK.out
  refine HXO.out _ _ _ _ ?_
  refine wpAnyH_ready (rs := [1, 3]) (by kernel_rfl) (by simp) ?_
  refine AllReadyH.cons (at_list rfl) (fun K hK => ?_) (AllReadyH.cons (at_list rfl) (fun K hK => ?_) (AllReadyH.nil))
  ·go_simp
   go_at_call 17
   with_reducible refine (H2.out _).mono ?_
   rintro e wq ⟨rfl, hCq⟩
   have HK2 := Lib.hid (HK.out.on hCq)
   clear hHeld
   first | (refine hK.out _ _ ?_ (fun hHeld => ?_)) | (go_wp2_with fail; refine hK.out _ _ ?_ (fun hHeld => ?_))
   ·(try dsimp only); exact HF1.out _ HK2.out
   (try simp only [List.setIfInBounds_toArray, List.set_cons_zero, List.set_cons_succ])
   exact HXI.out _ _ _ _ (LS1_ _ HK2.out)
  ·go_simp
   have HK2 := Lib.hid (HK.out.other (.cells #[.bool false, S [], S []] 26 (0, 0)))
   have nB := Blk.new W #[.bool false, S [], S []] 26
   have nG : B < W.heap.size := (HK.out.row _ mm0).lt
   clear hHeld
   refine hK.out _ _ ?_ (fun hHeld => ?_)
   ·(try dsimp only); exact HF1.out _ HK2.out
   (try simp only [List.setIfInBounds_toArray, List.set_cons_zero, List.set_cons_succ])
   exact HXI.out _ _ _ _ (LS0_0 _ _ HK2.out nB nG)
 exact LS0_ _ HK0.out
end Go.Proofs.YtkeomlpecjjhiaaGreatDoor
