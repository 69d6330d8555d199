/- The reference of layer 4: Floor. -/
import Derived.Test.YtkeomlpecjjhiaaGreatDoorAz
namespace Go.Proofs.YtkeomlpecjjhiaaGreatDoor
open Go.RowKit
set_option maxRecDepth 100000 in
set_option maxHeartbeats 6400000 in
theorem C_rFloor {q : Rat} {s r : Bool} {n d k f : List UInt8} (iq : Is q s n d) (hn : n.length ≤ 399) (hd : d.length ≤ 399) (ic : Is ((q.floor : Int) : Rat) r k f) : AnsM 62 #[Rv s n d] (Rv r k f) := fun w ht => by
 have hfl := floor_is iq
 have hp := iq.pos
 obtain ⟨x, hx, vx⟩ := has_nb (bv n / bv d)
 obtain ⟨y, hy, vy⟩ := has_nb (bv n % bv d)
 obtain ⟨M, hM⟩ : ∃ M, M = 399 := ⟨_, rfl⟩
 have lx := nbl' M hx (div_lt' (bv_b (by omega)))
 have H1 := Lib.hid (C_rquo (a := n) (b := d) hx hy (by omega) (by omega) hp rfl rfl)
 have H2 := Lib.hid C_ref1
 have hyn : y = [] ↔ bv n % bv d = 0 := by
  constructor
  ·rintro rfl
   rw [← vy]; rfl
  ·intro h
   rw [← hy, h, nb_zero]
 have HD : ∃ s1 n1 d1, Ans 77 #[.bool s, S x, S [1]] (.tuple #[Rv s1 n1 d1, .bool true]) ∧ (((s = false ∨ (s = true ∧ y = [])) ∧ s1 = r ∧ n1 = k ∧ d1 = f) ∨ (s = true ∧ y ≠ [] ∧ Ans 27 #[Rv s1 n1 d1, Rv false [1] [1]] (Rv r k f))) := by
  rcases s with _ | _
  ·rw [if_neg (by simp)] at hfl
   exact ⟨r, k, f, C_rMake (s := false) (n := x) (d := [1]) (r := r) (k := k) (f := f) (by omega) (by decide) (hx ▸ rt_nb _) rt_1 (by simp) (by rw [vx, show bv [1] = 1 from rfl, mq_one, ← hfl]; exact ic), .inl ⟨.inl rfl, rfl, rfl, rfl⟩⟩
  ·by_cases h0 : bv n % bv d = 0
   ·rw [if_neg (by simp [h0])] at hfl
    exact ⟨r, k, f, C_rMake (s := true) (n := x) (d := [1]) (r := r) (k := k) (f := f) (by omega) (by decide) (hx ▸ rt_nb _) rt_1 (by simp) (by rw [vx, show bv [1] = 1 from rfl, mq_one, ← hfl]; exact ic), .inl ⟨.inr ⟨rfl, hyn.2 h0⟩, rfl, rfl, rfl⟩⟩
   ·have hy1 : ¬ y = [] := fun q => h0 (hyn.1 q)
    rw [if_pos ⟨rfl, h0⟩] at hfl
    have im := pt_is (mq true (bv x) 1)
    have hmq : mq true (bv x) 1 - 1 = ((q.floor : Int) : Rat) := by
     rw [mq_one, hfl, vx]
     simp only [sv, if_true]
     rw [show (1 : Rat) = ((1 : Int) : Rat) from rfl, ← Rat.intCast_sub]
     congr 1
     omega
    have zm : Szq (mq true (bv x) 1) M := Szq.mq (by decide) (by rw [vx]; exact div_lt' (bv_b (by omega))) (Nat.one_lt_pow (by omega) (by decide))
    obtain ⟨⟨s1, n1, d1⟩, hp1⟩ : ∃ t, pt (mq true (bv x) 1) = t := ⟨_, rfl⟩
    rw [hp1] at im
    simp only at im
    obtain ⟨l1, l2⟩ := zm.len im
    exact ⟨s1, n1, d1, C_rMake (s := true) (n := x) (d := [1]) (r := s1) (k := n1) (f := d1) (by omega) (by decide) (hx ▸ rt_nb _) rt_1 (by simp) im, .inr ⟨rfl, hy1, C_rSub (s := s1) (n := n1) (d := d1) (t := false) (m := [1]) (e := [1]) (by omega) (by omega) (by decide) (by decide) (ratOf_is im) (ratOf_is (show Is 1 false [1] [1] from ⟨by decide +kernel, by decide +kernel, by decide +kernel⟩)) (by rw [hmq]; exact ic)⟩⟩
 obtain ⟨s1, n1, d1, H30, HD⟩ := HD
 have H3 := Lib.hid H30
 have H4 := Lib.hid (C_rOf 1 (by decide) (by decide) (show nb (1 : Int).natAbs = [1] from nb_one))
 rw [show decide ((1 : Int) < 0) = false from rfl] at H4
 have HDD := Lib.hid HD
 clear HD H30 hfl hp hx vx hy vy hM lx hyn ic iq hn hd
 have HT := Lib.hid ht
 have HK := Lib.hid (((Kq.nil w).new #[.bool s, S n, S d] 26).new #[.bool false, S [], S []] 26)
 rw [World.size_alloc] at HK
 obtain ⟨B, hB⟩ : ∃ B, w.heap.size = B := ⟨_, rfl⟩
 rw [hB] at HK
 have HBB := Lib.hid hB
 clear ht
 have HF1 := Lib.hid (show ∀ W, Kq w W [(B + 1, 26, [.bool false, S [], S []]), (B, 26, [.bool s, S n, S d])] → W.cell? ⟨B + 1, 0, none⟩ = some (.bool false) ∧ W.cell? ⟨B + 1, 1, none⟩ = some (S []) ∧ W.cell? ⟨B + 1, 2, none⟩ = some (S []) ∧ W.cell? ⟨B, 0, none⟩ = some (.bool s) ∧ W.cell? ⟨B, 1, none⟩ = some (S n) ∧ W.cell? ⟨B, 2, none⟩ = some (S d) from fun W h => ⟨(h.row _ mm0).cell 0, (h.row _ mm0).cell 1, (h.row _ mm0).cell 2, (h.row _ mm1).cell 0, (h.row _ mm1).cell 1, (h.row _ mm1).cell 2⟩)
 obtain ⟨cc0, cc1, cc2, cc3, cc4, cc5⟩ := HF1.out _ HK.out
 go_enter Tryz.func62, Tryz.ntmps62
 go_wp2_with fail
 clear hB
 refine (H1.out _).mono ?_
 rintro e w1 ⟨rfl, hC⟩
 replace HK := Lib.hid (HK.out.on hC)
 clear hC cc0 cc1 cc2 cc3 cc4 cc5
 obtain ⟨cc0, cc1, cc2, cc3, cc4, cc5⟩ := HF1.out _ HK.out
 go_wp2_with fail
 clear cc0 cc1 cc2 cc3 cc4 cc5
 replace HK := Lib.hid HK.out.drew
 refine wp_region_held_drew (S := fun w' => w'.cell? ⟨B + 1, 0, none⟩ = some (.bool false) ∧ w'.cell? ⟨B + 1, 1, none⟩ = some (S []) ∧ w'.cell? ⟨B + 1, 2, none⟩ = some (S []) ∧ w'.cell? ⟨B, 0, none⟩ = some (.bool s) ∧ w'.cell? ⟨B, 1, none⟩ = some (S n) ∧ w'.cell? ⟨B, 2, none⟩ = some (S d)) (by kernel_rfl) ?_ (fun hHeld => ?_)
 ·(try dsimp only); exact HF1.out _ HK.out
 refine tk 0 (v := ?_) hHeld ?_ ?_
 rotate_left 1
 ·intro _ hw; (try dsimp only at hw); go_simp; try with_reducible rfl
 (try simp only [Act.put, List.setIfInBounds_toArray, List.set_cons_zero, List.set_cons_succ])
 refine tk 1 (v := ?_) hHeld ?_ ?_
 rotate_left 1
 ·intro _ hw; (try dsimp only at hw); go_simp; try with_reducible rfl
 (try simp only [Act.put, List.setIfInBounds_toArray, List.set_cons_zero, List.set_cons_succ])
 refine tk 2 (v := ?_) hHeld ?_ ?_
 rotate_left 1
 ·intro _ hw; (try dsimp only at hw); go_simp; try with_reducible rfl
 (try simp only [Act.put, List.setIfInBounds_toArray, List.set_cons_zero, List.set_cons_succ])
 generalize hX : @wpAnyH _ _ _ _ _ = X
 have hXi : ∀ f l a W, X f l a W → wpAnyH _ _ _ _ _ f l a W := fun f l a W h => by rw [hX]; exact h
 have hXo : ∀ f l a W, wpAnyH _ _ _ _ _ f l a W → X f l a W := fun f l a W h => by rw [← hX]; exact h
 have HXI := Lib.hid hXi
 have HXO := Lib.hid hXo
 clear hXi hXo hX hHeld
 have HK0 := HK
 clear HK
 have LS2_0 : ∀ (pn : Nat) (W : World), Kq w W [(B + 1, 26, [.bool false, S [], S []]), (B, 26, [.bool s, S n, S d])] → Blk W pn 26 [.bool false, S [], S []] → B + 1 < pn → X 2 #[true, true, true, true, true, true, true, true, true, false, false] { tmps := #[Rv s n d, .pointer (some ⟨B, 0, none⟩), .pointer (some ⟨B + 1, 0, none⟩), S x, S y, .bool true, .pointer (some ⟨pn, 0, none⟩), undef, .tuple #[S x, S y, .bool true], .pointer (some ⟨B, 1, none⟩), S n, .pointer (some ⟨B, 2, none⟩), S d, .tuple #[S x, S y, .bool true], S x, S y, .bool true, .tuple #[Rv s1 n1 d1, .bool true], .pointer (some ⟨B, 0, none⟩), .bool s, S x, S [1], .tuple #[Rv s1 n1 d1, .bool true], Rv s1 n1 d1, .bool true, undef, undef, undef, undef, undef, undef, undef, undef, undef, undef, undef], defers := [] } W := by
  intro pn W hK0 bpn gpn
  have HK := Lib.hid hK0
  clear hK0
  have hHeld := HF1.out _ HK.out
  refine HXO.out _ _ _ _ ?_
  replace HK := Lib.hid (HK.out.add bpn)
  clear bpn
  have e0 := (HK.out.row _ mm0).cell 0
  have f0 := (HK.out.row _ mm0).frozen 0
  have e1 := (HK.out.row _ mm0).cell 1
  have f1 := (HK.out.row _ mm0).frozen 1
  have e2 := (HK.out.row _ mm0).cell 2
  have f2 := (HK.out.row _ mm0).frozen 2
  simp only [List.getElem?_cons_zero, List.getElem?_cons_succ] at e0 e1 e2
  refine wpAnyH_ready (rs := [9]) (by kernel_rfl) (by simp) ?_
  refine AllReadyH.cons (at_list rfl) (fun K hK => ?_) AllReadyH.nil
  go_simp
  clear hHeld e0 e1 e2 f0 f1 f2
  have HKp := Lib.hid (Kq.sub (l' := [(pn, 26, [.bool false, S [], S []]), (B + 1, 26, [.bool false, S [], S []]), (B, 26, [.bool s, S n, S d])]) HK.out (by intro p hp; simp only [List.mem_cons, List.not_mem_nil, or_false] at hp ⊢; rcases hp with rfl | rfl | rfl <;> simp))
  have HKq := Lib.hid (HKp.out.put3 (by have := HBB.out; omega) (by intro p hp; simp only [List.mem_cons, List.not_mem_nil, or_false] at hp; rcases hp with rfl | rfl <;> (simp only; omega)) (.bool s1) (S n1) (S d1))
  have HK2 := Lib.hid (Kq.sub (l' := [(pn, 26, [.bool s1, S n1, S d1]), (B + 1, 26, [.bool false, S [], S []]), (B, 26, [.bool s, S n, S d])]) HKq.out (by intro p hp; simp only [List.mem_cons, List.not_mem_nil, or_false] at hp ⊢; rcases hp with rfl | rfl | rfl <;> simp))
  refine hK.out _ _ ?_ (fun hHeld => ?_)
  ·(try dsimp only); exact HF1.out _ (Kq.sub HK2.out (by intro p hp; simp only [List.mem_cons, List.not_mem_nil, or_false] at hp ⊢; rcases hp with rfl | rfl <;> simp))
  clear hK K HK HKp HKq
  have HK := HK2
  clear HK2
  (try simp only [List.setIfInBounds_toArray, List.set_cons_zero, List.set_cons_succ])
  refine tk 10 (v := ?_) hHeld ?_ ?_
  rotate_left 1
  ·intro _ hw; (try dsimp only at hw); go_simp; try with_reducible rfl
  (try simp only [Act.put, List.setIfInBounds_toArray, List.set_cons_zero, List.set_cons_succ])
  refine wpAnyH_done (by kernel_rfl) ?_ _
  clear hHeld
  rcases HDD.out with ⟨rfl | ⟨rfl, rfl⟩, rfl, rfl, rfl⟩ | ⟨rfl, hy1, H50⟩
  ·clear HDD
   have HF72 := Lib.hid (show ∀ W, Kq w W [(pn, 26, [.bool s1, S n1, S d1]), (B + 1, 26, [.bool false, S [], S []]), (B, 26, [.bool false, S n, S d])] → W.cell? ⟨pn, 0, none⟩ = some (.bool s1) ∧ W.cell? ⟨pn, 1, none⟩ = some (S n1) ∧ W.cell? ⟨pn, 2, none⟩ = some (S d1) ∧ W.cell? ⟨B + 1, 0, none⟩ = some (.bool false) ∧ W.cell? ⟨B + 1, 1, none⟩ = some (S []) ∧ W.cell? ⟨B + 1, 2, none⟩ = some (S []) ∧ W.cell? ⟨B, 0, none⟩ = some (.bool false) ∧ W.cell? ⟨B, 1, none⟩ = some (S n) ∧ W.cell? ⟨B, 2, none⟩ = some (S d) from fun W h => ⟨(h.row _ mm0).cell 0, (h.row _ mm0).cell 1, (h.row _ mm0).cell 2, (h.row _ mm1).cell 0, (h.row _ mm1).cell 1, (h.row _ mm1).cell 2, (h.row _ mm2).cell 0, (h.row _ mm2).cell 1, (h.row _ mm2).cell 2⟩)
   obtain ⟨cc0, cc1, cc2, cc3, cc4, cc5, cc6, cc7, cc8⟩ := HF72.out _ HK.out
   have f0 := (HK.out.row _ mm1).frozen 0
   have f1 := (HK.out.row _ mm1).frozen 1
   have f2 := (HK.out.row _ mm1).frozen 2
   go_wp2_with fail
   have hp := HK.out.put (g := B + 1) mm1 (by have := HBB.out; omega) (.bool s1) (S n1) (S d1)
   refine bodyPost_ret (results_cell_row (P := Tryz.prog) rfl _ _ (B + 1) 26 _ (0, 0) _ rfl hp.1 Tryz.underlying26 rfl (by kernel_rfl)) rfl ?_
   exact ⟨rfl, hp.2⟩
  ·clear HDD
   have HF72 := Lib.hid (show ∀ W, Kq w W [(pn, 26, [.bool s1, S n1, S d1]), (B + 1, 26, [.bool false, S [], S []]), (B, 26, [.bool true, S n, S d])] → W.cell? ⟨pn, 0, none⟩ = some (.bool s1) ∧ W.cell? ⟨pn, 1, none⟩ = some (S n1) ∧ W.cell? ⟨pn, 2, none⟩ = some (S d1) ∧ W.cell? ⟨B + 1, 0, none⟩ = some (.bool false) ∧ W.cell? ⟨B + 1, 1, none⟩ = some (S []) ∧ W.cell? ⟨B + 1, 2, none⟩ = some (S []) ∧ W.cell? ⟨B, 0, none⟩ = some (.bool true) ∧ W.cell? ⟨B, 1, none⟩ = some (S n) ∧ W.cell? ⟨B, 2, none⟩ = some (S d) from fun W h => ⟨(h.row _ mm0).cell 0, (h.row _ mm0).cell 1, (h.row _ mm0).cell 2, (h.row _ mm1).cell 0, (h.row _ mm1).cell 1, (h.row _ mm1).cell 2, (h.row _ mm2).cell 0, (h.row _ mm2).cell 1, (h.row _ mm2).cell 2⟩)
   obtain ⟨cc0, cc1, cc2, cc3, cc4, cc5, cc6, cc7, cc8⟩ := HF72.out _ HK.out
   have f0 := (HK.out.row _ mm1).frozen 0
   have f1 := (HK.out.row _ mm1).frozen 1
   have f2 := (HK.out.row _ mm1).frozen 2
   go_wp2_with fail
   have hp := HK.out.put (g := B + 1) mm1 (by have := HBB.out; omega) (.bool s1) (S n1) (S d1)
   refine bodyPost_ret (results_cell_row (P := Tryz.prog) rfl _ _ (B + 1) 26 _ (0, 0) _ rfl hp.1 Tryz.underlying26 rfl (by kernel_rfl)) rfl ?_
   exact ⟨rfl, hp.2⟩
  ·clear HDD
   have H5 := Lib.hid H50
   clear H50
   have hy2 : 0 < y.length := List.length_pos_iff.2 hy1
   have HF72 := Lib.hid (show ∀ W, Kq w W [(pn, 26, [.bool s1, S n1, S d1]), (B + 1, 26, [.bool false, S [], S []]), (B, 26, [.bool true, S n, S d])] → W.cell? ⟨pn, 0, none⟩ = some (.bool s1) ∧ W.cell? ⟨pn, 1, none⟩ = some (S n1) ∧ W.cell? ⟨pn, 2, none⟩ = some (S d1) ∧ W.cell? ⟨B + 1, 0, none⟩ = some (.bool false) ∧ W.cell? ⟨B + 1, 1, none⟩ = some (S []) ∧ W.cell? ⟨B + 1, 2, none⟩ = some (S []) ∧ W.cell? ⟨B, 0, none⟩ = some (.bool true) ∧ W.cell? ⟨B, 1, none⟩ = some (S n) ∧ W.cell? ⟨B, 2, none⟩ = some (S d) from fun W h => ⟨(h.row _ mm0).cell 0, (h.row _ mm0).cell 1, (h.row _ mm0).cell 2, (h.row _ mm1).cell 0, (h.row _ mm1).cell 1, (h.row _ mm1).cell 2, (h.row _ mm2).cell 0, (h.row _ mm2).cell 1, (h.row _ mm2).cell 2⟩)
   obtain ⟨cc0, cc1, cc2, cc3, cc4, cc5, cc6, cc7, cc8⟩ := HF72.out _ HK.out
   go_wp2_with fail
   clear cc0 cc1 cc2 cc3 cc4 cc5 cc6 cc7 cc8
   have e0 := (HK.out.row _ mm0).cell 0
   have e1 := (HK.out.row _ mm0).cell 1
   have e2 := (HK.out.row _ mm0).cell 2
   simp only [List.getElem?_cons_zero, List.getElem?_cons_succ] at e0 e1 e2
   replace HK := Lib.hid HK.out.drew
   refine wp_region_held_drew (S := fun _ => True) (by kernel_rfl) trivial (fun hHeld => ?_)
   refine wpAnyH_ready (rs := [0, 1]) (by kernel_rfl) (by simp) ?_
   refine AllReadyH.cons (at_list rfl) (fun K hK => ?_) (AllReadyH.cons (at_list rfl) (fun K hK => ?_) AllReadyH.nil)
   ·have e0 := (HK.out.row _ mm0).cell 0
    have e1 := (HK.out.row _ mm0).cell 1
    have e2 := (HK.out.row _ mm0).cell 2
    simp only [List.getElem?_cons_zero, List.getElem?_cons_succ] at e0 e1 e2
    go_simp
    clear hHeld
    first | (refine hK.out _ _ trivial (fun hHeld => ?_)) | (go_wp2_with fail; refine hK.out _ _ trivial (fun hHeld => ?_))
    clear hK K
    (try simp only [Act.put, List.setIfInBounds_toArray, List.set_cons_zero, List.set_cons_succ])
    clear e0 e1 e2
    refine wpAnyH_ready (rs := [1]) (by kernel_rfl) (by simp) ?_
    refine AllReadyH.cons (at_list rfl) (fun K hK => ?_) AllReadyH.nil
    go_simp
    go_at_call 17; with_reducible refine (H4.out _).mono ?_; rintro e wq ⟨rfl, hCq⟩; replace HK := Lib.hid (HK.out.on hCq); clear hCq
    clear hHeld
    first | (refine hK.out _ _ trivial (fun hHeld => ?_)) | (go_wp2_with fail; refine hK.out _ _ trivial (fun hHeld => ?_))
    clear hK K
    (try simp only [Act.put, List.setIfInBounds_toArray, List.set_cons_zero, List.set_cons_succ])
    refine wpAnyH_ready (rs := [2]) (by kernel_rfl) (by simp) ?_
    refine AllReadyH.cons (at_list rfl) (fun K hK => ?_) AllReadyH.nil
    go_simp
    go_at_call 27; with_reducible refine (H5.out _).mono ?_; rintro e wq ⟨rfl, hCq⟩; replace HK := Lib.hid (HK.out.on hCq); clear hCq
    clear hHeld
    first | (refine hK.out _ _ trivial (fun hHeld => ?_)) | (go_wp2_with fail; refine hK.out _ _ trivial (fun hHeld => ?_))
    clear hK K
    (try simp only [Act.put, List.setIfInBounds_toArray, List.set_cons_zero, List.set_cons_succ])
    have e0 := (HK.out.row _ mm0).cell 0
    have e1 := (HK.out.row _ mm0).cell 1
    have e2 := (HK.out.row _ mm0).cell 2
    have f0 := (HK.out.row _ mm0).frozen 0
    have f1 := (HK.out.row _ mm0).frozen 1
    have f2 := (HK.out.row _ mm0).frozen 2
    simp only [List.getElem?_cons_zero, List.getElem?_cons_succ] at e0 e1 e2
    refine wpAnyH_ready (rs := [3]) (by kernel_rfl) (by simp) ?_
    refine AllReadyH.cons (at_list rfl) (fun K hK => ?_) AllReadyH.nil
    go_simp
    clear hHeld
    first | (refine hK.out _ _ trivial (fun hHeld => ?_)) | (go_wp2_with fail; refine hK.out _ _ trivial (fun hHeld => ?_))
    clear hK K
    (try simp only [Act.put, List.setIfInBounds_toArray, List.set_cons_zero, List.set_cons_succ])
    clear e0 e1 e2 f0 f1 f2
    refine wpAnyH_done (by kernel_rfl) ?_ _
    clear hHeld
    replace HK := Lib.hid (HK.out.put3 (by have := HBB.out; omega) (fun p hp => by simp only [List.mem_cons, List.not_mem_nil, or_false] at hp; rcases hp with rfl | rfl <;> (show _ ≠ _; simp only; omega)) (.bool r) (S k) (S f))
    have t0 := (HK.out.row _ mm0).cell 0
    have t1 := (HK.out.row _ mm0).cell 1
    have t2 := (HK.out.row _ mm0).cell 2
    have u0 := (HK.out.row _ mm1).cell 0
    have u1 := (HK.out.row _ mm1).cell 1
    have u2 := (HK.out.row _ mm1).cell 2
    have v0 := (HK.out.row _ mm1).frozen 0
    have v1 := (HK.out.row _ mm1).frozen 1
    have v2 := (HK.out.row _ mm1).frozen 2
    simp only [List.getElem?_cons_zero, List.getElem?_cons_succ] at t0 t1 t2 u0 u1 u2
    go_wp2_with fail
    have hp := HK.out.put (g := B + 1) mm1 (by have := HBB.out; omega) (.bool r) (S k) (S f)
    refine bodyPost_ret (results_cell_row (P := Tryz.prog) rfl _ _ (B + 1) 26 _ (0, 0) _ rfl hp.1 Tryz.underlying26 rfl (by kernel_rfl)) rfl ?_
    exact ⟨rfl, hp.2⟩
   ·go_simp
    go_at_call 17; with_reducible refine (H4.out _).mono ?_; rintro e wq ⟨rfl, hCq⟩; replace HK := Lib.hid (HK.out.on hCq); clear hCq
    clear hHeld
    first | (refine hK.out _ _ trivial (fun hHeld => ?_)) | (go_wp2_with fail; refine hK.out _ _ trivial (fun hHeld => ?_))
    clear hK K
    (try simp only [Act.put, List.setIfInBounds_toArray, List.set_cons_zero, List.set_cons_succ])
    refine wpAnyH_ready (rs := [0]) (by kernel_rfl) (by simp) ?_
    refine AllReadyH.cons (at_list rfl) (fun K hK => ?_) AllReadyH.nil
    have e0 := (HK.out.row _ mm0).cell 0
    have e1 := (HK.out.row _ mm0).cell 1
    have e2 := (HK.out.row _ mm0).cell 2
    simp only [List.getElem?_cons_zero, List.getElem?_cons_succ] at e0 e1 e2
    go_simp
    clear hHeld
    first | (refine hK.out _ _ trivial (fun hHeld => ?_)) | (go_wp2_with fail; refine hK.out _ _ trivial (fun hHeld => ?_))
    clear hK K
    (try simp only [Act.put, List.setIfInBounds_toArray, List.set_cons_zero, List.set_cons_succ])
    clear e0 e1 e2
    refine wpAnyH_ready (rs := [2]) (by kernel_rfl) (by simp) ?_
    refine AllReadyH.cons (at_list rfl) (fun K hK => ?_) AllReadyH.nil
    go_simp
    go_at_call 27; with_reducible refine (H5.out _).mono ?_; rintro e wq ⟨rfl, hCq⟩; replace HK := Lib.hid (HK.out.on hCq); clear hCq
    clear hHeld
    first | (refine hK.out _ _ trivial (fun hHeld => ?_)) | (go_wp2_with fail; refine hK.out _ _ trivial (fun hHeld => ?_))
    clear hK K
    (try simp only [Act.put, List.setIfInBounds_toArray, List.set_cons_zero, List.set_cons_succ])
    have e0 := (HK.out.row _ mm0).cell 0
    have e1 := (HK.out.row _ mm0).cell 1
    have e2 := (HK.out.row _ mm0).cell 2
    have f0 := (HK.out.row _ mm0).frozen 0
    have f1 := (HK.out.row _ mm0).frozen 1
    have f2 := (HK.out.row _ mm0).frozen 2
    simp only [List.getElem?_cons_zero, List.getElem?_cons_succ] at e0 e1 e2
    refine wpAnyH_ready (rs := [3]) (by kernel_rfl) (by simp) ?_
    refine AllReadyH.cons (at_list rfl) (fun K hK => ?_) AllReadyH.nil
    go_simp
    clear hHeld
    first | (refine hK.out _ _ trivial (fun hHeld => ?_)) | (go_wp2_with fail; refine hK.out _ _ trivial (fun hHeld => ?_))
    clear hK K
    (try simp only [Act.put, List.setIfInBounds_toArray, List.set_cons_zero, List.set_cons_succ])
    clear e0 e1 e2 f0 f1 f2
    refine wpAnyH_done (by kernel_rfl) ?_ _
    clear hHeld
    replace HK := Lib.hid (HK.out.put3 (by have := HBB.out; omega) (fun p hp => by simp only [List.mem_cons, List.not_mem_nil, or_false] at hp; rcases hp with rfl | rfl <;> (show _ ≠ _; simp only; omega)) (.bool r) (S k) (S f))
    have t0 := (HK.out.row _ mm0).cell 0
    have t1 := (HK.out.row _ mm0).cell 1
    have t2 := (HK.out.row _ mm0).cell 2
    have u0 := (HK.out.row _ mm1).cell 0
    have u1 := (HK.out.row _ mm1).cell 1
    have u2 := (HK.out.row _ mm1).cell 2
    have v0 := (HK.out.row _ mm1).frozen 0
    have v1 := (HK.out.row _ mm1).frozen 1
    have v2 := (HK.out.row _ mm1).frozen 2
    simp only [List.getElem?_cons_zero, List.getElem?_cons_succ] at t0 t1 t2 u0 u1 u2
    go_wp2_with fail
    have hp := HK.out.put (g := B + 1) mm1 (by have := HBB.out; omega) (.bool r) (S k) (S f)
    refine bodyPost_ret (results_cell_row (P := Tryz.prog) rfl _ _ (B + 1) 26 _ (0, 0) _ rfl hp.1 Tryz.underlying26 rfl (by kernel_rfl)) rfl ?_
    exact ⟨rfl, hp.2⟩
 have LS1_0 : ∀ (pn : Nat) (W : World), Kq w W [(B + 1, 26, [.bool false, S [], S []]), (B, 26, [.bool s, S n, S d])] → Blk W pn 26 [.bool false, S [], S []] → B + 1 < pn → X 6 #[true, true, true, true, false, false, false, false, true, false, false] { tmps := #[Rv s n d, .pointer (some ⟨B, 0, none⟩), .pointer (some ⟨B + 1, 0, none⟩), S x, S y, .bool true, .pointer (some ⟨pn, 0, none⟩), undef, .tuple #[S x, S y, .bool true], .pointer (some ⟨B, 1, none⟩), S n, .pointer (some ⟨B, 2, none⟩), S d, .tuple #[S x, S y, .bool true], S x, S y, .bool true, undef, .pointer (some ⟨B, 0, none⟩), .bool s, S x, S [1], undef, undef, undef, undef, undef, undef, undef, undef, undef, undef, undef, undef, undef, undef], defers := [] } W := by
  intro pn W hK0 bpn gpn
  have HK := Lib.hid hK0
  clear hK0
  have hHeld := HF1.out _ HK.out
  refine HXO.out _ _ _ _ ?_
  refine wpAnyH_ready (rs := [4]) (by kernel_rfl) (by simp) ?_
  refine AllReadyH.cons (at_list rfl) (fun K hK => ?_) (AllReadyH.nil)
  ·go_simp
   go_at_call 77
   with_reducible refine (H3.out _).mono ?_
   rintro e wq ⟨rfl, hCq⟩
   have HK2 := Lib.hid (HK.out.on hCq)
   clear hHeld
   first | (refine hK.out _ _ ?_ (fun hHeld => ?_)) | (go_wp2_with fail; refine hK.out _ _ ?_ (fun hHeld => ?_))
   ·(try dsimp only); exact HF1.out _ HK2.out
   (try simp only [List.setIfInBounds_toArray, List.set_cons_zero, List.set_cons_succ])
   refine tk 5 (v := ?_) hHeld ?_ ?_
   rotate_left 1
   ·intro _ hw; (try dsimp only at hw); go_simp; try with_reducible rfl
   (try simp only [Act.put, List.setIfInBounds_toArray, List.set_cons_zero, List.set_cons_succ])
   refine tk 6 (v := ?_) hHeld ?_ ?_
   rotate_left 1
   ·intro _ hw; (try dsimp only at hw); go_simp; try with_reducible rfl
   (try simp only [Act.put, List.setIfInBounds_toArray, List.set_cons_zero, List.set_cons_succ])
   refine tk 7 (v := ?_) hHeld ?_ ?_
   rotate_left 1
   ·intro _ hw; (try dsimp only at hw); go_simp; try with_reducible rfl
   (try simp only [Act.put, List.setIfInBounds_toArray, List.set_cons_zero, List.set_cons_succ])
   exact HXI.out _ _ _ _ (LS2_0 _ _ HK2.out (hCq.blk bpn (Blk.lt bpn) (fun q => q)) gpn)
 have LS2_ : ∀ (W : World), Kq w W [(B + 1, 26, [.bool false, S [], S []]), (B, 26, [.bool s, S n, S d])] → X 3 #[true, true, true, true, true, true, true, true, false, false, false] { tmps := #[Rv s n d, .pointer (some ⟨B, 0, none⟩), .pointer (some ⟨B + 1, 0, none⟩), S x, S y, .bool true, undef, undef, .tuple #[S x, S y, .bool true], .pointer (some ⟨B, 1, none⟩), S n, .pointer (some ⟨B, 2, none⟩), S d, .tuple #[S x, S y, .bool true], S x, S y, .bool true, .tuple #[Rv s1 n1 d1, .bool true], .pointer (some ⟨B, 0, none⟩), .bool s, S x, S [1], .tuple #[Rv s1 n1 d1, .bool true], Rv s1 n1 d1, .bool true, undef, undef, undef, undef, undef, undef, undef, undef, undef, undef, undef], defers := [] } W := by
  intro  W hK0
  have HK := Lib.hid hK0
  clear hK0
  have hHeld := HF1.out _ HK.out
  refine HXO.out _ _ _ _ ?_
  refine wpAnyH_ready (rs := [8]) (by kernel_rfl) (by simp) ?_
  refine AllReadyH.cons (at_list rfl) (fun K hK => ?_) (AllReadyH.nil)
  ·go_simp
   have HK2 := Lib.hid (HK.out.other (.cells #[.bool false, S [], S []] 26 (0, 0)))
   have nB := Blk.new W #[.bool false, S [], S []] 26
   have nG : B + 1 < W.heap.size := (HK.out.row _ mm0).lt
   clear hHeld
   refine hK.out _ _ ?_ (fun hHeld => ?_)
   ·(try dsimp only); exact HF1.out _ HK2.out
   (try simp only [List.setIfInBounds_toArray, List.set_cons_zero, List.set_cons_succ])
   exact HXI.out _ _ _ _ (LS2_0 _ _ HK2.out nB nG)
 have LS0_0 : ∀ (pn : Nat) (W : World), Kq w W [(B + 1, 26, [.bool false, S [], S []]), (B, 26, [.bool s, S n, S d])] → Blk W pn 26 [.bool false, S [], S []] → B + 1 < pn → X 7 #[true, true, true, false, false, false, false, false, true, false, false] { tmps := #[Rv s n d, .pointer (some ⟨B, 0, none⟩), .pointer (some ⟨B + 1, 0, none⟩), S x, S y, .bool true, .pointer (some ⟨pn, 0, none⟩), undef, .tuple #[S x, S y, .bool true], .pointer (some ⟨B, 1, none⟩), S n, .pointer (some ⟨B, 2, none⟩), S d, .tuple #[S x, S y, .bool true], S x, S y, .bool true, undef, .pointer (some ⟨B, 0, none⟩), .bool s, S x, undef, undef, undef, undef, undef, undef, undef, undef, undef, undef, undef, undef, undef, undef, undef], defers := [] } W := by
  intro pn W hK0 bpn gpn
  have HK := Lib.hid hK0
  clear hK0
  have hHeld := HF1.out _ HK.out
  refine HXO.out _ _ _ _ ?_
  refine wpAnyH_ready (rs := [3]) (by kernel_rfl) (by simp) ?_
  refine AllReadyH.cons (at_list rfl) (fun K hK => ?_) (AllReadyH.nil)
  ·go_simp
   go_at_call 40
   with_reducible refine (H2.out _).mono ?_
   rintro e wq ⟨rfl, hCq⟩
   have HK2 := Lib.hid (HK.out.on hCq)
   clear hHeld
   first | (refine hK.out _ _ ?_ (fun hHeld => ?_)) | (go_wp2_with fail; refine hK.out _ _ ?_ (fun hHeld => ?_))
   ·(try dsimp only); exact HF1.out _ HK2.out
   (try simp only [List.setIfInBounds_toArray, List.set_cons_zero, List.set_cons_succ])
   exact HXI.out _ _ _ _ (LS1_0 _ _ HK2.out (hCq.blk bpn (Blk.lt bpn) (fun q => q)) gpn)
 have LS1_ : ∀ (W : World), Kq w W [(B + 1, 26, [.bool false, S [], S []]), (B, 26, [.bool s, S n, S d])] → X 7 #[true, true, true, true, false, false, false, false, false, false, false] { tmps := #[Rv s n d, .pointer (some ⟨B, 0, none⟩), .pointer (some ⟨B + 1, 0, none⟩), S x, S y, .bool true, undef, undef, .tuple #[S x, S y, .bool true], .pointer (some ⟨B, 1, none⟩), S n, .pointer (some ⟨B, 2, none⟩), S d, .tuple #[S x, S y, .bool true], S x, S y, .bool true, undef, .pointer (some ⟨B, 0, none⟩), .bool s, S x, S [1], undef, undef, undef, undef, undef, undef, undef, undef, undef, undef, undef, undef, undef, undef], defers := [] } W := by
  intro  W hK0
  have HK := Lib.hid hK0
  clear hK0
  have hHeld := HF1.out _ HK.out
  refine HXO.out _ _ _ _ ?_
  refine wpAnyH_ready (rs := [4, 8]) (by kernel_rfl) (by simp) ?_
  refine AllReadyH.cons (at_list rfl) (fun K hK => ?_) (AllReadyH.cons (at_list rfl) (fun K hK => ?_) (AllReadyH.nil))
  ·go_simp
   go_at_call 77
   with_reducible refine (H3.out _).mono ?_
   rintro e wq ⟨rfl, hCq⟩
   have HK2 := Lib.hid (HK.out.on hCq)
   clear hHeld
   first | (refine hK.out _ _ ?_ (fun hHeld => ?_)) | (go_wp2_with fail; refine hK.out _ _ ?_ (fun hHeld => ?_))
   ·(try dsimp only); exact HF1.out _ HK2.out
   (try simp only [List.setIfInBounds_toArray, List.set_cons_zero, List.set_cons_succ])
   refine tk 5 (v := ?_) hHeld ?_ ?_
   rotate_left 1
   ·intro _ hw; (try dsimp only at hw); go_simp; try with_reducible rfl
   (try simp only [Act.put, List.setIfInBounds_toArray, List.set_cons_zero, List.set_cons_succ])
   refine tk 6 (v := ?_) hHeld ?_ ?_
   rotate_left 1
   ·intro _ hw; (try dsimp only at hw); go_simp; try with_reducible rfl
   (try simp only [Act.put, List.setIfInBounds_toArray, List.set_cons_zero, List.set_cons_succ])
   refine tk 7 (v := ?_) hHeld ?_ ?_
   rotate_left 1
   ·intro _ hw; (try dsimp only at hw); go_simp; try with_reducible rfl
   (try simp only [Act.put, List.setIfInBounds_toArray, List.set_cons_zero, List.set_cons_succ])
   exact HXI.out _ _ _ _ (LS2_ _ HK2.out)
  ·go_simp
   have HK2 := Lib.hid (HK.out.other (.cells #[.bool false, S [], S []] 26 (0, 0)))
   have nB := Blk.new W #[.bool false, S [], S []] 26
   have nG : B + 1 < W.heap.size := (HK.out.row _ mm0).lt
   clear hHeld
   refine hK.out _ _ ?_ (fun hHeld => ?_)
   ·(try dsimp only); exact HF1.out _ HK2.out
   (try simp only [List.setIfInBounds_toArray, List.set_cons_zero, List.set_cons_succ])
   exact HXI.out _ _ _ _ (LS1_0 _ _ HK2.out nB nG)
 have LS0_ : ∀ (W : World), Kq w W [(B + 1, 26, [.bool false, S [], S []]), (B, 26, [.bool s, S n, S d])] → X 8 #[true, true, true, false, false, false, false, false, false, false, false] { tmps := #[Rv s n d, .pointer (some ⟨B, 0, none⟩), .pointer (some ⟨B + 1, 0, none⟩), S x, S y, .bool true, undef, undef, .tuple #[S x, S y, .bool true], .pointer (some ⟨B, 1, none⟩), S n, .pointer (some ⟨B, 2, none⟩), S d, .tuple #[S x, S y, .bool true], S x, S y, .bool true, undef, .pointer (some ⟨B, 0, none⟩), .bool s, S x, undef, undef, undef, undef, undef, undef, undef, undef, undef, undef, undef, undef, undef, undef, undef], defers := [] } W := by
  intro  W hK0
  have HK := Lib.hid hK0
  clear hK0
  have hHeld := HF1.out _ HK.out
  refine HXO.out _ _ _ _ ?_
  refine wpAnyH_ready (rs := [3, 8]) (by kernel_rfl) (by simp) ?_
  refine AllReadyH.cons (at_list rfl) (fun K hK => ?_) (AllReadyH.cons (at_list rfl) (fun K hK => ?_) (AllReadyH.nil))
  ·go_simp
   go_at_call 40
   with_reducible refine (H2.out _).mono ?_
   rintro e wq ⟨rfl, hCq⟩
   have HK2 := Lib.hid (HK.out.on hCq)
   clear hHeld
   first | (refine hK.out _ _ ?_ (fun hHeld => ?_)) | (go_wp2_with fail; refine hK.out _ _ ?_ (fun hHeld => ?_))
   ·(try dsimp only); exact HF1.out _ HK2.out
   (try simp only [List.setIfInBounds_toArray, List.set_cons_zero, List.set_cons_succ])
   exact HXI.out _ _ _ _ (LS1_ _ HK2.out)
  ·go_simp
   have HK2 := Lib.hid (HK.out.other (.cells #[.bool false, S [], S []] 26 (0, 0)))
   have nB := Blk.new W #[.bool false, S [], S []] 26
   have nG : B + 1 < W.heap.size := (HK.out.row _ mm0).lt
   clear hHeld
   refine hK.out _ _ ?_ (fun hHeld => ?_)
   ·(try dsimp only); exact HF1.out _ HK2.out
   (try simp only [List.setIfInBounds_toArray, List.set_cons_zero, List.set_cons_succ])
   exact HXI.out _ _ _ _ (LS0_0 _ _ HK2.out nB nG)
 exact LS0_ _ HK0.out
end Go.Proofs.YtkeomlpecjjhiaaGreatDoor
