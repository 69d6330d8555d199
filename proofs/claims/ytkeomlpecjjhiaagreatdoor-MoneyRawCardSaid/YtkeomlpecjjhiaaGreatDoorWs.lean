/- The reference of layer 4: Quota. -/
import Derived.Test.YtkeomlpecjjhiaaGreatDoorAz
namespace Go.Proofs.YtkeomlpecjjhiaaGreatDoor
open Go.RowKit
set_option maxRecDepth 100000

def sumQ (l : List T3) : Rat := l.foldl (fun a t => a + ratOf t.1 t.2.1 t.2.2) 0
theorem sumQ_snoc (l : List T3) (t : T3) : sumQ (l ++ [t]) = sumQ l + ratOf t.1 t.2.1 t.2.2 := by
 unfold sumQ
 rw [List.foldl_append]
 rfl
theorem sumQ_take {l : List T3} {i : Nat} {t : T3} (h : l[i]? = some t) : sumQ (l.take (i + 1)) = sumQ (l.take i) + ratOf t.1 t.2.1 t.2.2 := by
 rw [List.take_add_one, h, ← sumQ_snoc]
 rfl
theorem sumQ_size {K : Nat} (hK : 1 ≤ K) : ∀ (l : List T3), (∀ t ∈ l, t.2.1.length ≤ K ∧ t.2.2.length ≤ K) → ∀ i, i ≤ l.length → Szq (sumQ (l.take i)) (1 + i * (K + 1)) := fun l h i => by
 induction i with
 | zero => intro _; rw [List.take_zero]; exact Szq.mono (k := 1) (q := 0) ⟨by decide, by decide⟩ (by omega)
 | succ i ih =>
  intro hi
  have hg : l[i]? = some (l[i]'(by omega)) := List.getElem?_eq_getElem _
  rw [sumQ_take hg]
  have hm := h _ (List.getElem_mem (show i < l.length by omega))
  exact ((ih (by omega)).add (Szq.of_len hm.1 hm.2 hK)).mono (by rw [Nat.add_mul]; omega)
set_option maxHeartbeats 6400000 in
theorem rSum_any {K n c : Nat} {p : Option Addr} {l : List T3} {W : World} (hr : Rs W p n l) (hK : 1 ≤ K) (hz : ∀ t ∈ l, t.2.1.length ≤ K ∧ t.2.2.length ≤ K) (hb : 1 + n * (K + 1) ≤ 400) :
  Calls Tryz.prog 36 #[.slice p n c] W (Yld W (Tv (pt (sumQ l)))) := by
 have hn := hr.len
 obtain ⟨R0, hR0⟩ : ∃ R0, W.heap.size = R0 := ⟨_, rfl⟩
 have HK := Lib.hid ((Kq.nil W).new #[.bool false, S [], S []] 26)
 rw [hR0] at HK
 have HRS := Lib.hid hr
 have HR0 := Lib.hid hR0
 have H0 := Lib.hid (C_rOf 0 (by decide) (by decide) nb_zero)
 rw [show decide ((0 : Int) < 0) = false from rfl] at H0
 have HZ := Lib.hid (fun i h => sumQ_size hK l hz i h)
 have HL := Lib.hid hz
 have HN := Lib.hid hn
 have HB := Lib.hid hb
 have HKK := Lib.hid hK
 have hend : sumQ (l.take n) = sumQ l := by rw [List.take_of_length_le (by omega)]
 have HEND := Lib.hid hend
 have hnn : 0 ≤ (n : Int) := by omega
 have hn4 : n < 400 := by have := Nat.le_mul_of_pos_right n (show 0 < K + 1 by omega); omega
 clear hr hn hz hb hK hend
 go_enter Tryz.func36, Tryz.ntmps36
 go_wp2_with fail
 clear hR0
 refine (H0.out _).mono ?_
 rintro e w1 ⟨rfl, hC⟩
 replace HK := Lib.hid (HK.out.on hC)
 clear hC
 obtain ⟨O, hO⟩ : ∃ O, w1.heap.size = O := ⟨_, rfl⟩
 have HO := Lib.hid (show R0 < O by rw [← hO]; exact (HK.out.row _ mm0).lt)
 have HK2 := Lib.hid (HK.out.new #[.bool false, S [], S [1]] 26)
 rw [hO] at HK2
 clear HK
 have HK := HK2
 clear HK2
 go_wp2_with fail
 clear hO
 go_loopw [4] (fun x wr => ∃ i : Nat, i ≤ n ∧ x = .int .i64 i ∧ Kq W wr [(O, 26, [.bool (pt (sumQ (l.take i))).1, S (pt (sumQ (l.take i))).2.1, S (pt (sumQ (l.take i))).2.2]), (R0, 26, [.bool false, S [], S []])]) (fun x _ => n - (intOf x).toNat)
 case atStart => exact ⟨0, Nat.zero_le _, rfl, by rw [show pt (sumQ (l.take 0)) = (false, [], [1]) by rw [List.take_zero]; exact Prod.ext rfl (Prod.ext nb_zero nb_one)]; exact HK.out⟩
 case round =>
  clear HK
  obtain ⟨i, hi, rfl, hKK⟩ := hrel
  have hi0 : 0 ≤ (i : Int) := by omega
  by_cases hlt : i < n
  ·obtain ⟨⟨sa, na, da⟩, ht⟩ : ∃ t, l[i]? = some t := ⟨l[i]'(by rw [HN.out]; exact hlt), List.getElem?_eq_getElem _⟩
   have hst := sumQ_take ht
   have hm := HL.out _ (List.mem_of_getElem? ht)
   simp only at hm
   obtain ⟨g, o, rfl⟩ := HRS.out.addr (by omega)
   have hz1 := HZ.out i (by rw [HN.out]; omega)
   have hz2 : 1 + i * (K + 1) ≤ 400 := Nat.le_trans (Nat.add_le_add_left (Nat.mul_le_mul_right _ hi) _) HB.out
   have hk2 : K ≤ 400 := by
    have h1 := HB.out
    have h2 := Nat.le_mul_of_pos_left (K + 1) (show 0 < n by omega)
    omega
   have ip := pt_is (sumQ (l.take i))
   have iq := pt_is (sumQ (l.take (i + 1)))
   rw [hst] at iq
   obtain ⟨⟨s1, n1, d1⟩, hp1⟩ : ∃ t, pt (sumQ (l.take (i + 1))) = t := ⟨_, rfl⟩
   have hp1' := hp1
   rw [hst] at hp1'
   rw [hp1'] at iq
   obtain ⟨⟨s0, n0, d0⟩, hp0⟩ : ∃ t, pt (sumQ (l.take i)) = t := ⟨_, rfl⟩
   rw [hp0] at ip hKK
   simp only at ip iq hKK
   obtain ⟨l1, l2⟩ := hz1.len ip
   have H1 := Lib.hid (C_rAdd (s := s0) (n := n0) (d := d0) (t := sa) (m := na) (e := da) (by omega) (by omega) (by omega) (by omega) (ratOf_is ip) rfl iq)
   have HP1 := Lib.hid hp1
   have HK := Lib.hid hKK
   have HE := Lib.hid (show ∀ l V, Kq W V l → V.cell? ⟨g, o + i * 3, none⟩ = some (.bool sa) ∧ V.cell? ⟨g, o + i * 3 + 1, none⟩ = some (S na) ∧ V.cell? ⟨g, o + i * 3 + 2, none⟩ = some (S da) from fun l V h => (HRS.out.ch h.ch).get ht)
   have hl1 : (i : Int) < (n : Int) := by omega
   have hi4 : (i : Int) < 400 := by omega
   have hdec : decide ((i : Int) < (n : Int)) = true := decide_eq_true hl1
   clear hKK ht hst hm hz1 hz2 hk2 ip iq hp1 hp1' hp0 l1 l2
   go_upto_region 5 with fail
   replace HK := Lib.hid HK.out.drew
   refine wp_region_held_drew (S := fun w' => w'.cell? ⟨g, o + i * 3, none⟩ = some (.bool sa) ∧ w'.cell? ⟨g, o + i * 3 + 1, none⟩ = some (S na) ∧ w'.cell? ⟨g, o + i * 3 + 2, none⟩ = some (S da)) (by kernel_rfl) ?_ (fun hHeld => ?_)
   ·(try dsimp only); exact HE.out _ _ HK.out
   obtain ⟨Wd, hWd⟩ : ∃ V, wr.drew = V := ⟨_, rfl⟩
   rw [hWd] at HK hHeld ⊢
   clear hWd
   refine tk 1 (v := ?_) hHeld ?_ ?_
   rotate_left 1
   ·intro _ hw; (try dsimp only at hw); go_simp; try with_reducible rfl
   (try simp only [Act.put, List.setIfInBounds_toArray, List.set_cons_zero, List.set_cons_succ])
   refine tk 2 (v := ?_) hHeld ?_ ?_
   rotate_left 1
   ·intro _ hw; (try dsimp only at hw); go_simp; try with_reducible rfl
   (try simp only [Act.put, List.setIfInBounds_toArray, List.set_cons_zero, List.set_cons_succ])
   refine tk 3 (v := ?_) hHeld ?_ ?_
   rotate_left 1
   ·intro _ hw; (try dsimp only at hw); go_simp; try with_reducible rfl
   (try simp only [Act.put, List.setIfInBounds_toArray, List.set_cons_zero, List.set_cons_succ])
   refine tk 4 (v := ?_) hHeld ?_ ?_
   rotate_left 1
   ·intro _ hw; (try dsimp only at hw); go_simp; try with_reducible rfl
   (try simp only [Act.put, List.setIfInBounds_toArray, List.set_cons_zero, List.set_cons_succ])
   have e0 := (HK.out.row _ mm0).cell 0
   have e1 := (HK.out.row _ mm0).cell 1
   have e2 := (HK.out.row _ mm0).cell 2
   refine wpAnyH_ready (rs := [0]) (by kernel_rfl) (by simp) ?_
   refine AllReadyH.cons (at_list rfl) (fun K hK => ?_) (AllReadyH.nil)
   go_simp
   clear hHeld
   refine hK.out _ _ ?_ (fun hHeld => ?_)
   ·(try dsimp only); exact HE.out _ _ HK.out
   clear hK K
   (try simp only [Act.put, List.setIfInBounds_toArray, List.set_cons_zero, List.set_cons_succ])
   clear e0 e1 e2
   refine wpAnyH_ready (rs := [5]) (by kernel_rfl) (by simp) ?_
   refine AllReadyH.cons (at_list rfl) (fun K hK => ?_) (AllReadyH.nil)
   go_simp
   go_at_call 32; with_reducible refine (H1.out _).mono ?_; rintro e wq ⟨rfl, hCq⟩; replace HK := Lib.hid (HK.out.on hCq); clear hCq
   clear hHeld
   first | (refine hK.out _ _ ?_ (fun hHeld => ?_)) | skip
   ·(try dsimp only); exact HE.out _ _ HK.out
   clear hK K
   (try simp only [Act.put, List.setIfInBounds_toArray, List.set_cons_zero, List.set_cons_succ])
   have e0 := (HK.out.row _ mm0).cell 0
   have e1 := (HK.out.row _ mm0).cell 1
   have e2 := (HK.out.row _ mm0).cell 2
   have f0 := (HK.out.row _ mm0).frozen 0
   have f1 := (HK.out.row _ mm0).frozen 1
   have f2 := (HK.out.row _ mm0).frozen 2
   refine wpAnyH_ready (rs := [6]) (by kernel_rfl) (by simp) ?_
   refine AllReadyH.cons (at_list rfl) (fun K hK => ?_) (AllReadyH.nil)
   go_simp
   clear hHeld e0 e1 e2 f0 f1 f2
   have HK2 := Lib.hid (HK.out.put3 (by rw [HR0.out]; exact Nat.le_of_lt HO.out) (fun p hp => by obtain rfl := List.mem_singleton.1 hp; exact Nat.ne_of_lt HO.out) (.bool s1) (S n1) (S d1))
   refine hK.out _ _ ?_ (fun hHeld => ?_)
   ·(try dsimp only); exact HE.out _ _ HK2.out
   clear hK K HK hHeld
   have HK := HK2
   clear HK2
   (try simp only [Act.put, List.setIfInBounds_toArray, List.set_cons_zero, List.set_cons_succ])
   refine wpAnyH_done (by kernel_rfl) ?_ _
   go_wp2_with fail
   go_roundw
   case rel => exact ⟨i + 1, by omega, by go_num, by rw [HP1.out]; exact HK.out⟩
   case measure => simp [intOf]; omega
  ·obtain rfl : i = n := by omega
   have HK := Lib.hid hKK
   rw [HEND.out] at HK
   clear hKK
   obtain ⟨⟨s0, n0, d0⟩, hp0⟩ : ∃ t, pt (sumQ l) = t := ⟨_, rfl⟩
   rw [hp0] at HK ⊢
   simp only at HK
   have e0 := (HK.out.row _ mm0).cell 0
   have e1 := (HK.out.row _ mm0).cell 1
   have e2 := (HK.out.row _ mm0).cell 2
   have f0 := (HK.out.row _ mm1).frozen 0
   have f1 := (HK.out.row _ mm1).frozen 1
   have f2 := (HK.out.row _ mm1).frozen 2
   have c0 := (HK.out.row _ mm1).cell 0
   have c1 := (HK.out.row _ mm1).cell 1
   have c2 := (HK.out.row _ mm1).cell 2
   simp only [List.getElem?_cons_zero, List.getElem?_cons_succ] at e0 e1 e2 c0 c1 c2
   go_wp2_with fail
   have hp := HK.out.put (g := R0) mm1 (by rw [HR0.out]; exact Nat.le_refl _) (.bool s0) (S n0) (S d0)
   refine bodyPost_ret (results_cell_row (P := Tryz.prog) rfl _ _ R0 26 _ (0, 0) _ rfl hp.1 Tryz.underlying26 rfl (by kernel_rfl)) rfl ?_
   exact ⟨rfl, hp.2⟩
set_option maxHeartbeats 6400000 in
theorem quota_walk {g o n c i : Nat} {sa sw sm ss r : Bool} {na da nw dw nm dm ns ds k f : List UInt8} (w : World) (ht : Tm w) (hi : i < n) (hi4 : (i : Int) < 400)
  (hx : ∀ W, Ch w.heap.size none1 w W → W.cell? ⟨g, o + i * 3, none⟩ = some (.bool sw) ∧ W.cell? ⟨g, o + i * 3 + 1, none⟩ = some (S nw) ∧ W.cell? ⟨g, o + i * 3 + 2, none⟩ = some (S dw))
  (hs : ∀ W, Ch w.heap.size none1 w W → Calls Tryz.prog 36 #[.slice (some ⟨g, o, none⟩) n c] W (Yld W (Rv ss ns ds))) (hH1 : Ans 16 #[Rv sa na da, Rv sw nw dw] (Rv sm nm dm)) (hH3 : Ans 26 #[Rv sm nm dm, Rv ss ns ds] (.tuple #[Rv r k f, .bool true])) :
  Calls Tryz.prog 37 #[Rv sa na da, .slice (some ⟨g, o, none⟩) n c, .int .i64 i] w (Yld w (Rv r k f)) := by
 have HX := Lib.hid hx
 have HS := Lib.hid hs
 have H1 := Lib.hid hH1
 have H3 := Lib.hid hH3
 have hil : (i : Int) < (n : Int) := by omega
 have hi0 : 0 ≤ (i : Int) := by omega
 have hdec : decide ((i : Int) < (n : Int)) = true := decide_eq_true hil
 clear hx hs hi hH1 hH3
 have HT := Lib.hid ht
 have HK := Lib.hid (((Kq.nil w).new #[.bool sa, S na, S da] 26).new #[.bool false, S [], S []] 26)
 rw [World.size_alloc] at HK
 obtain ⟨B, hB⟩ : ∃ B, w.heap.size = B := ⟨_, rfl⟩
 rw [hB] at HK
 have HBB := Lib.hid hB
 clear ht
 have HF1 := Lib.hid (show ∀ W, Kq w W [(B + 1, 26, [.bool false, S [], S []]), (B, 26, [.bool sa, S na, S da])] → W.cell? ⟨B + 1, 0, none⟩ = some (.bool false) ∧ W.cell? ⟨B + 1, 1, none⟩ = some (S []) ∧ W.cell? ⟨B + 1, 2, none⟩ = some (S []) ∧ W.cell? ⟨B, 0, none⟩ = some (.bool sa) ∧ W.cell? ⟨B, 1, none⟩ = some (S na) ∧ W.cell? ⟨B, 2, none⟩ = some (S da) ∧ W.cell? ⟨g, o + i * 3, none⟩ = some (.bool sw) ∧ W.cell? ⟨g, o + i * 3 + 1, none⟩ = some (S nw) ∧ W.cell? ⟨g, o + i * 3 + 2, none⟩ = some (S dw) from fun W h => ⟨(h.row _ mm0).cell 0, (h.row _ mm0).cell 1, (h.row _ mm0).cell 2, (h.row _ mm1).cell 0, (h.row _ mm1).cell 1, (h.row _ mm1).cell 2, (HX.out W h.ch).1, (HX.out W h.ch).2.1, (HX.out W h.ch).2.2⟩)
 obtain ⟨cc0, cc1, cc2, cc3, cc4, cc5, cc6, cc7, cc8⟩ := HF1.out _ HK.out
 go_enter Tryz.func37, Tryz.ntmps37
 go_wp2_with fail
 clear hB
 clear cc0 cc1 cc2 cc3 cc4 cc5 cc6 cc7 cc8
 replace HK := Lib.hid HK.out.drew
 refine wp_region_held_drew (S := fun w' => w'.cell? ⟨B + 1, 0, none⟩ = some (.bool false) ∧ w'.cell? ⟨B + 1, 1, none⟩ = some (S []) ∧ w'.cell? ⟨B + 1, 2, none⟩ = some (S []) ∧ w'.cell? ⟨B, 0, none⟩ = some (.bool sa) ∧ w'.cell? ⟨B, 1, none⟩ = some (S na) ∧ w'.cell? ⟨B, 2, none⟩ = some (S da) ∧ w'.cell? ⟨g, o + i * 3, none⟩ = some (.bool sw) ∧ w'.cell? ⟨g, o + i * 3 + 1, none⟩ = some (S nw) ∧ w'.cell? ⟨g, o + i * 3 + 2, none⟩ = some (S dw)) (by kernel_rfl) ?_ (fun hHeld => ?_)
 ·(try dsimp only); exact HF1.out _ HK.out
 refine tk 0 (v := ?_) hHeld ?_ ?_
 rotate_left 1
 ·intro _ hw; (try dsimp only at hw); go_simp; try with_reducible rfl
 (try simp only [Act.put, List.setIfInBounds_toArray, List.set_cons_zero, List.set_cons_succ])
 refine tk 1 (v := ?_) hHeld ?_ ?_
 rotate_left 1
 ·intro _ hw; (try dsimp only at hw); go_simp; try with_reducible rfl
 (try simp only [Act.put, List.setIfInBounds_toArray, List.set_cons_zero, List.set_cons_succ])
 refine tk 2 (v := ?_) hHeld ?_ ?_
 rotate_left 1
 ·intro _ hw; (try dsimp only at hw); go_simp; try with_reducible rfl
 (try simp only [Act.put, List.setIfInBounds_toArray, List.set_cons_zero, List.set_cons_succ])
 refine tk 3 (v := ?_) hHeld ?_ ?_
 rotate_left 1
 ·intro _ hw; (try dsimp only at hw); go_simp; try with_reducible rfl
 (try simp only [Act.put, List.setIfInBounds_toArray, List.set_cons_zero, List.set_cons_succ])
 refine tk 4 (v := ?_) hHeld ?_ ?_
 rotate_left 1
 ·intro _ hw; (try dsimp only at hw); go_simp; try with_reducible rfl
 (try simp only [Act.put, List.setIfInBounds_toArray, List.set_cons_zero, List.set_cons_succ])
 refine tk 6 (v := ?_) hHeld ?_ ?_
 rotate_left 1
 ·intro _ hw; (try dsimp only at hw); go_simp; try with_reducible rfl
 (try simp only [Act.put, List.setIfInBounds_toArray, List.set_cons_zero, List.set_cons_succ])
 generalize hX : @wpAnyH _ _ _ _ _ = X
 have hXi : ∀ f l a W, X f l a W → wpAnyH _ _ _ _ _ f l a W := fun f l a W h => by rw [hX]; exact h
 have hXo : ∀ f l a W, wpAnyH _ _ _ _ _ f l a W → X f l a W := fun f l a W h => by rw [← hX]; exact h
 have HXI := Lib.hid hXi
 have HXO := Lib.hid hXo
 clear hXi hXo hX hHeld
 have HK0 := HK
 clear HK
 have LS3_0 : ∀ (pq : Nat) (W : World), Kq w W [(B + 1, 26, [.bool false, S [], S []]), (B, 26, [.bool sa, S na, S da])] → Blk W pq 26 [.bool false, S [], S []] → B + 1 < pq → X 2 #[true, true, true, true, true, true, true, true, true, true, true, true, true, false, false] { tmps := #[Rv sa na da, .slice (some ⟨g, o, none⟩) n c, .int .i64 i, .pointer (some ⟨B, 0, none⟩), undef, undef, .pointer (some ⟨B + 1, 0, none⟩), .pointer (some ⟨pq, 0, none⟩), undef, .tuple #[Rv r k f, .bool true], Rv sa na da, .slice (some ⟨g, o, none⟩) n c, .int .i64 i, .pointer (some ⟨g, o + i * 3, none⟩), Rv sw nw dw, Rv sm nm dm, .slice (some ⟨g, o, none⟩) n c, Rv ss ns ds, .tuple #[Rv r k f, .bool true], Rv r k f, .bool true, undef], defers := [] } W := by
  intro pq W hK0 bpq gpq
  have HK := Lib.hid hK0
  clear hK0
  have hHeld := HF1.out _ HK.out
  refine HXO.out _ _ _ _ ?_
  replace HK := Lib.hid (HK.out.add bpq)
  clear bpq
  have e0 := (HK.out.row _ mm0).cell 0
  have f0 := (HK.out.row _ mm0).frozen 0
  have e1 := (HK.out.row _ mm0).cell 1
  have f1 := (HK.out.row _ mm0).frozen 1
  have e2 := (HK.out.row _ mm0).cell 2
  have f2 := (HK.out.row _ mm0).frozen 2
  simp only [List.getElem?_cons_zero, List.getElem?_cons_succ] at e0 e1 e2
  refine wpAnyH_ready (rs := [13]) (by kernel_rfl) (by simp) ?_
  refine AllReadyH.cons (at_list rfl) (fun K hK => ?_) AllReadyH.nil
  go_simp
  clear hHeld e0 e1 e2 f0 f1 f2
  have HKp := Lib.hid (Kq.sub (l' := [(pq, 26, [.bool false, S [], S []]), (B + 1, 26, [.bool false, S [], S []]), (B, 26, [.bool sa, S na, S da])]) HK.out (by intro p hp; simp only [List.mem_cons, List.not_mem_nil, or_false] at hp ⊢; rcases hp with rfl | rfl | rfl <;> simp))
  have HKq := Lib.hid (HKp.out.put3 (by have := HBB.out; omega) (by intro p hp; simp only [List.mem_cons, List.not_mem_nil, or_false] at hp; rcases hp with rfl | rfl <;> (simp only; omega)) (.bool r) (S k) (S f))
  have HK2 := Lib.hid (Kq.sub (l' := [(pq, 26, [.bool r, S k, S f]), (B + 1, 26, [.bool false, S [], S []]), (B, 26, [.bool sa, S na, S da])]) HKq.out (by intro p hp; simp only [List.mem_cons, List.not_mem_nil, or_false] at hp ⊢; rcases hp with rfl | rfl | rfl <;> simp))
  refine hK.out _ _ ?_ (fun hHeld => ?_)
  ·(try dsimp only); exact HF1.out _ (Kq.sub HK2.out (by intro p hp; simp only [List.mem_cons, List.not_mem_nil, or_false] at hp ⊢; rcases hp with rfl | rfl <;> simp))
  clear hK K HK HKp HKq
  have HK := HK2
  clear HK2
  (try simp only [List.setIfInBounds_toArray, List.set_cons_zero, List.set_cons_succ])
  refine tk 14 (v := ?_) hHeld ?_ ?_
  rotate_left 1
  ·intro _ hw; (try dsimp only at hw); go_simp; try with_reducible rfl
  (try simp only [Act.put, List.setIfInBounds_toArray, List.set_cons_zero, List.set_cons_succ])
  refine wpAnyH_done (by kernel_rfl) ?_ _
  clear hHeld
  have HF52 := Lib.hid (show ∀ W, Kq w W [(pq, 26, [.bool r, S k, S f]), (B + 1, 26, [.bool false, S [], S []]), (B, 26, [.bool sa, S na, S da])] → W.cell? ⟨pq, 0, none⟩ = some (.bool r) ∧ W.cell? ⟨pq, 1, none⟩ = some (S k) ∧ W.cell? ⟨pq, 2, none⟩ = some (S f) ∧ W.cell? ⟨B + 1, 0, none⟩ = some (.bool false) ∧ W.cell? ⟨B + 1, 1, none⟩ = some (S []) ∧ W.cell? ⟨B + 1, 2, none⟩ = some (S []) ∧ W.cell? ⟨B, 0, none⟩ = some (.bool sa) ∧ W.cell? ⟨B, 1, none⟩ = some (S na) ∧ W.cell? ⟨B, 2, none⟩ = some (S da) from fun W h => ⟨(h.row _ mm0).cell 0, (h.row _ mm0).cell 1, (h.row _ mm0).cell 2, (h.row _ mm1).cell 0, (h.row _ mm1).cell 1, (h.row _ mm1).cell 2, (h.row _ mm2).cell 0, (h.row _ mm2).cell 1, (h.row _ mm2).cell 2⟩)
  obtain ⟨cc0, cc1, cc2, cc3, cc4, cc5, cc6, cc7, cc8⟩ := HF52.out _ HK.out
  clear cc0 cc1 cc2 cc3 cc4 cc5 cc6 cc7 cc8
  have e0 := (HK.out.row _ mm1).cell 0
  have e1 := (HK.out.row _ mm1).cell 1
  have e2 := (HK.out.row _ mm1).cell 2
  have f0 := (HK.out.row _ mm1).frozen 0
  have f1 := (HK.out.row _ mm1).frozen 1
  have f2 := (HK.out.row _ mm1).frozen 2
  simp only [List.getElem?_cons_zero, List.getElem?_cons_succ] at e0 e1 e2
  have HF53 := Lib.hid (show ∀ W, Kq w W [(pq, 26, [.bool r, S k, S f]), (B + 1, 26, [.bool false, S [], S []]), (B, 26, [.bool sa, S na, S da])] → W.cell? ⟨pq, 0, none⟩ = some (.bool r) ∧ W.cell? ⟨pq, 1, none⟩ = some (S k) ∧ W.cell? ⟨pq, 2, none⟩ = some (S f) ∧ W.cell? ⟨B + 1, 0, none⟩ = some (.bool false) ∧ W.cell? ⟨B + 1, 1, none⟩ = some (S []) ∧ W.cell? ⟨B + 1, 2, none⟩ = some (S []) ∧ W.cell? ⟨B, 0, none⟩ = some (.bool sa) ∧ W.cell? ⟨B, 1, none⟩ = some (S na) ∧ W.cell? ⟨B, 2, none⟩ = some (S da) from fun W h => ⟨(h.row _ mm0).cell 0, (h.row _ mm0).cell 1, (h.row _ mm0).cell 2, (h.row _ mm1).cell 0, (h.row _ mm1).cell 1, (h.row _ mm1).cell 2, (h.row _ mm2).cell 0, (h.row _ mm2).cell 1, (h.row _ mm2).cell 2⟩)
  obtain ⟨cc0, cc1, cc2, cc3, cc4, cc5, cc6, cc7, cc8⟩ := HF53.out _ HK.out
  go_wp2_with fail
  have hp := HK.out.put (g := B + 1) mm1 (by have := HBB.out; omega) (.bool r) (S k) (S f)
  refine bodyPost_ret (results_cell_row (P := Tryz.prog) (fn := Tryz.f37) (p := 6) (ty := 26) rfl _ _ (B + 1) 26 _ (0, 0) _ rfl hp.1 Tryz.underlying26 rfl (by kernel_rfl)) rfl ?_
  exact ⟨rfl, hp.2⟩
 have LS2_0 : ∀ (pq : Nat) (W : World), Kq w W [(B + 1, 26, [.bool false, S [], S []]), (B, 26, [.bool sa, S na, S da])] → Blk W pq 26 [.bool false, S [], S []] → B + 1 < pq → X 6 #[true, true, true, true, true, true, true, true, false, false, false, false, true, false, false] { tmps := #[Rv sa na da, .slice (some ⟨g, o, none⟩) n c, .int .i64 i, .pointer (some ⟨B, 0, none⟩), undef, undef, .pointer (some ⟨B + 1, 0, none⟩), .pointer (some ⟨pq, 0, none⟩), undef, undef, Rv sa na da, .slice (some ⟨g, o, none⟩) n c, .int .i64 i, .pointer (some ⟨g, o + i * 3, none⟩), Rv sw nw dw, Rv sm nm dm, .slice (some ⟨g, o, none⟩) n c, Rv ss ns ds, undef, undef, undef, undef], defers := [] } W := by
  intro pq W hK0 bpq gpq
  have HK := Lib.hid hK0
  clear hK0
  have hHeld := HF1.out _ HK.out
  refine HXO.out _ _ _ _ ?_
  refine wpAnyH_ready (rs := [8]) (by kernel_rfl) (by simp) ?_
  refine AllReadyH.cons (at_list rfl) (fun K hK => ?_) (AllReadyH.nil)
  ·go_simp
   go_at_call 26
   with_reducible refine (H3.out _).mono ?_
   rintro e wq ⟨rfl, hCq⟩
   have HK2 := Lib.hid (HK.out.on hCq)
   clear hHeld
   first | (refine hK.out _ _ ?_ (fun hHeld => ?_)) | (go_wp2_with fail; refine hK.out _ _ ?_ (fun hHeld => ?_))
   ·(try dsimp only); exact HF1.out _ HK2.out
   (try simp only [List.setIfInBounds_toArray, List.set_cons_zero, List.set_cons_succ])
   refine tk 9 (v := ?_) hHeld ?_ ?_
   rotate_left 1
   ·intro _ hw; (try dsimp only at hw); go_simp; try with_reducible rfl
   (try simp only [Act.put, List.setIfInBounds_toArray, List.set_cons_zero, List.set_cons_succ])
   refine tk 10 (v := ?_) hHeld ?_ ?_
   rotate_left 1
   ·intro _ hw; (try dsimp only at hw); go_simp; try with_reducible rfl
   (try simp only [Act.put, List.setIfInBounds_toArray, List.set_cons_zero, List.set_cons_succ])
   refine tk 11 (v := ?_) hHeld ?_ ?_
   rotate_left 1
   ·intro _ hw; (try dsimp only at hw); go_simp; try with_reducible rfl
   (try simp only [Act.put, List.setIfInBounds_toArray, List.set_cons_zero, List.set_cons_succ])
   exact HXI.out _ _ _ _ (LS3_0 _ _ HK2.out (hCq.blk bpq (Blk.lt bpq) (fun q => q)) gpq)
 have LS3_ : ∀ (W : World), Kq w W [(B + 1, 26, [.bool false, S [], S []]), (B, 26, [.bool sa, S na, S da])] → X 3 #[true, true, true, true, true, true, true, true, true, true, true, true, false, false, false] { tmps := #[Rv sa na da, .slice (some ⟨g, o, none⟩) n c, .int .i64 i, .pointer (some ⟨B, 0, none⟩), undef, undef, .pointer (some ⟨B + 1, 0, none⟩), undef, undef, .tuple #[Rv r k f, .bool true], Rv sa na da, .slice (some ⟨g, o, none⟩) n c, .int .i64 i, .pointer (some ⟨g, o + i * 3, none⟩), Rv sw nw dw, Rv sm nm dm, .slice (some ⟨g, o, none⟩) n c, Rv ss ns ds, .tuple #[Rv r k f, .bool true], Rv r k f, .bool true, undef], defers := [] } W := by
  intro  W hK0
  have HK := Lib.hid hK0
  clear hK0
  have hHeld := HF1.out _ HK.out
  refine HXO.out _ _ _ _ ?_
  refine wpAnyH_ready (rs := [12]) (by kernel_rfl) (by simp) ?_
  refine AllReadyH.cons (at_list rfl) (fun K hK => ?_) (AllReadyH.nil)
  ·go_simp
   have HK2 := Lib.hid (HK.out.other (.cells #[.bool false, S [], S []] 26 (0, 0)))
   have nB := Blk.new W #[.bool false, S [], S []] 26
   have nG : B + 1 < W.heap.size := (HK.out.row _ mm0).lt
   clear hHeld
   refine hK.out _ _ ?_ (fun hHeld => ?_)
   ·(try dsimp only); exact HF1.out _ HK2.out
   (try simp only [List.setIfInBounds_toArray, List.set_cons_zero, List.set_cons_succ])
   exact HXI.out _ _ _ _ (LS3_0 _ _ HK2.out nB nG)
 have LS1_0 : ∀ (pq : Nat) (W : World), Kq w W [(B + 1, 26, [.bool false, S [], S []]), (B, 26, [.bool sa, S na, S da])] → Blk W pq 26 [.bool false, S [], S []] → B + 1 < pq → X 7 #[true, true, true, true, true, true, true, false, false, false, false, false, true, false, false] { tmps := #[Rv sa na da, .slice (some ⟨g, o, none⟩) n c, .int .i64 i, .pointer (some ⟨B, 0, none⟩), undef, undef, .pointer (some ⟨B + 1, 0, none⟩), .pointer (some ⟨pq, 0, none⟩), undef, undef, Rv sa na da, .slice (some ⟨g, o, none⟩) n c, .int .i64 i, .pointer (some ⟨g, o + i * 3, none⟩), Rv sw nw dw, Rv sm nm dm, .slice (some ⟨g, o, none⟩) n c, undef, undef, undef, undef, undef], defers := [] } W := by
  intro pq W hK0 bpq gpq
  have HK := Lib.hid hK0
  clear hK0
  have hHeld := HF1.out _ HK.out
  refine HXO.out _ _ _ _ ?_
  refine wpAnyH_ready (rs := [7]) (by kernel_rfl) (by simp) ?_
  refine AllReadyH.cons (at_list rfl) (fun K hK => ?_) (AllReadyH.nil)
  ·go_simp
   go_at_call 36
   with_reducible refine (HS.out _ HK.out.ch).mono ?_
   rintro e wq ⟨rfl, hCq⟩
   have HK2 := Lib.hid (HK.out.on hCq)
   clear hHeld
   first | (refine hK.out _ _ ?_ (fun hHeld => ?_)) | (go_wp2_with fail; refine hK.out _ _ ?_ (fun hHeld => ?_))
   ·(try dsimp only); exact HF1.out _ HK2.out
   (try simp only [List.setIfInBounds_toArray, List.set_cons_zero, List.set_cons_succ])
   exact HXI.out _ _ _ _ (LS2_0 _ _ HK2.out (hCq.blk bpq (Blk.lt bpq) (fun q => q)) gpq)
 have LS2_ : ∀ (W : World), Kq w W [(B + 1, 26, [.bool false, S [], S []]), (B, 26, [.bool sa, S na, S da])] → X 7 #[true, true, true, true, true, true, true, true, false, false, false, false, false, false, false] { tmps := #[Rv sa na da, .slice (some ⟨g, o, none⟩) n c, .int .i64 i, .pointer (some ⟨B, 0, none⟩), undef, undef, .pointer (some ⟨B + 1, 0, none⟩), undef, undef, undef, Rv sa na da, .slice (some ⟨g, o, none⟩) n c, .int .i64 i, .pointer (some ⟨g, o + i * 3, none⟩), Rv sw nw dw, Rv sm nm dm, .slice (some ⟨g, o, none⟩) n c, Rv ss ns ds, undef, undef, undef, undef], defers := [] } W := by
  intro  W hK0
  have HK := Lib.hid hK0
  clear hK0
  have hHeld := HF1.out _ HK.out
  refine HXO.out _ _ _ _ ?_
  refine wpAnyH_ready (rs := [8, 12]) (by kernel_rfl) (by simp) ?_
  refine AllReadyH.cons (at_list rfl) (fun K hK => ?_) (AllReadyH.cons (at_list rfl) (fun K hK => ?_) (AllReadyH.nil))
  ·go_simp
   go_at_call 26
   with_reducible refine (H3.out _).mono ?_
   rintro e wq ⟨rfl, hCq⟩
   have HK2 := Lib.hid (HK.out.on hCq)
   clear hHeld
   first | (refine hK.out _ _ ?_ (fun hHeld => ?_)) | (go_wp2_with fail; refine hK.out _ _ ?_ (fun hHeld => ?_))
   ·(try dsimp only); exact HF1.out _ HK2.out
   (try simp only [List.setIfInBounds_toArray, List.set_cons_zero, List.set_cons_succ])
   refine tk 9 (v := ?_) hHeld ?_ ?_
   rotate_left 1
   ·intro _ hw; (try dsimp only at hw); go_simp; try with_reducible rfl
   (try simp only [Act.put, List.setIfInBounds_toArray, List.set_cons_zero, List.set_cons_succ])
   refine tk 10 (v := ?_) hHeld ?_ ?_
   rotate_left 1
   ·intro _ hw; (try dsimp only at hw); go_simp; try with_reducible rfl
   (try simp only [Act.put, List.setIfInBounds_toArray, List.set_cons_zero, List.set_cons_succ])
   refine tk 11 (v := ?_) hHeld ?_ ?_
   rotate_left 1
   ·intro _ hw; (try dsimp only at hw); go_simp; try with_reducible rfl
   (try simp only [Act.put, List.setIfInBounds_toArray, List.set_cons_zero, List.set_cons_succ])
   exact HXI.out _ _ _ _ (LS3_ _ HK2.out)
  ·go_simp
   have HK2 := Lib.hid (HK.out.other (.cells #[.bool false, S [], S []] 26 (0, 0)))
   have nB := Blk.new W #[.bool false, S [], S []] 26
   have nG : B + 1 < W.heap.size := (HK.out.row _ mm0).lt
   clear hHeld
   refine hK.out _ _ ?_ (fun hHeld => ?_)
   ·(try dsimp only); exact HF1.out _ HK2.out
   (try simp only [List.setIfInBounds_toArray, List.set_cons_zero, List.set_cons_succ])
   exact HXI.out _ _ _ _ (LS2_0 _ _ HK2.out nB nG)
 have LS0_0 : ∀ (pq : Nat) (W : World), Kq w W [(B + 1, 26, [.bool false, S [], S []]), (B, 26, [.bool sa, S na, S da])] → Blk W pq 26 [.bool false, S [], S []] → B + 1 < pq → X 8 #[true, true, true, true, true, false, true, false, false, false, false, false, true, false, false] { tmps := #[Rv sa na da, .slice (some ⟨g, o, none⟩) n c, .int .i64 i, .pointer (some ⟨B, 0, none⟩), undef, undef, .pointer (some ⟨B + 1, 0, none⟩), .pointer (some ⟨pq, 0, none⟩), undef, undef, Rv sa na da, .slice (some ⟨g, o, none⟩) n c, .int .i64 i, .pointer (some ⟨g, o + i * 3, none⟩), Rv sw nw dw, undef, .slice (some ⟨g, o, none⟩) n c, undef, undef, undef, undef, undef], defers := [] } W := by
  intro pq W hK0 bpq gpq
  have HK := Lib.hid hK0
  clear hK0
  have hHeld := HF1.out _ HK.out
  refine HXO.out _ _ _ _ ?_
  refine wpAnyH_ready (rs := [5]) (by kernel_rfl) (by simp) ?_
  refine AllReadyH.cons (at_list rfl) (fun K hK => ?_) (AllReadyH.nil)
  ·go_simp
   go_at_call 16
   with_reducible refine (H1.out _).mono ?_
   rintro e wq ⟨rfl, hCq⟩
   have HK2 := Lib.hid (HK.out.on hCq)
   clear hHeld
   first | (refine hK.out _ _ ?_ (fun hHeld => ?_)) | (go_wp2_with fail; refine hK.out _ _ ?_ (fun hHeld => ?_))
   ·(try dsimp only); exact HF1.out _ HK2.out
   (try simp only [List.setIfInBounds_toArray, List.set_cons_zero, List.set_cons_succ])
   exact HXI.out _ _ _ _ (LS1_0 _ _ HK2.out (hCq.blk bpq (Blk.lt bpq) (fun q => q)) gpq)
 have LS1_ : ∀ (W : World), Kq w W [(B + 1, 26, [.bool false, S [], S []]), (B, 26, [.bool sa, S na, S da])] → X 8 #[true, true, true, true, true, true, true, false, false, false, false, false, false, false, false] { tmps := #[Rv sa na da, .slice (some ⟨g, o, none⟩) n c, .int .i64 i, .pointer (some ⟨B, 0, none⟩), undef, undef, .pointer (some ⟨B + 1, 0, none⟩), undef, undef, undef, Rv sa na da, .slice (some ⟨g, o, none⟩) n c, .int .i64 i, .pointer (some ⟨g, o + i * 3, none⟩), Rv sw nw dw, Rv sm nm dm, .slice (some ⟨g, o, none⟩) n c, undef, undef, undef, undef, undef], defers := [] } W := by
  intro  W hK0
  have HK := Lib.hid hK0
  clear hK0
  have hHeld := HF1.out _ HK.out
  refine HXO.out _ _ _ _ ?_
  refine wpAnyH_ready (rs := [7, 12]) (by kernel_rfl) (by simp) ?_
  refine AllReadyH.cons (at_list rfl) (fun K hK => ?_) (AllReadyH.cons (at_list rfl) (fun K hK => ?_) (AllReadyH.nil))
  ·go_simp
   go_at_call 36
   with_reducible refine (HS.out _ HK.out.ch).mono ?_
   rintro e wq ⟨rfl, hCq⟩
   have HK2 := Lib.hid (HK.out.on hCq)
   clear hHeld
   first | (refine hK.out _ _ ?_ (fun hHeld => ?_)) | (go_wp2_with fail; refine hK.out _ _ ?_ (fun hHeld => ?_))
   ·(try dsimp only); exact HF1.out _ HK2.out
   (try simp only [List.setIfInBounds_toArray, List.set_cons_zero, List.set_cons_succ])
   exact HXI.out _ _ _ _ (LS2_ _ HK2.out)
  ·go_simp
   have HK2 := Lib.hid (HK.out.other (.cells #[.bool false, S [], S []] 26 (0, 0)))
   have nB := Blk.new W #[.bool false, S [], S []] 26
   have nG : B + 1 < W.heap.size := (HK.out.row _ mm0).lt
   clear hHeld
   refine hK.out _ _ ?_ (fun hHeld => ?_)
   ·(try dsimp only); exact HF1.out _ HK2.out
   (try simp only [List.setIfInBounds_toArray, List.set_cons_zero, List.set_cons_succ])
   exact HXI.out _ _ _ _ (LS1_0 _ _ HK2.out nB nG)
 have LS0_ : ∀ (W : World), Kq w W [(B + 1, 26, [.bool false, S [], S []]), (B, 26, [.bool sa, S na, S da])] → X 9 #[true, true, true, true, true, false, true, false, false, false, false, false, false, false, false] { tmps := #[Rv sa na da, .slice (some ⟨g, o, none⟩) n c, .int .i64 i, .pointer (some ⟨B, 0, none⟩), undef, undef, .pointer (some ⟨B + 1, 0, none⟩), undef, undef, undef, Rv sa na da, .slice (some ⟨g, o, none⟩) n c, .int .i64 i, .pointer (some ⟨g, o + i * 3, none⟩), Rv sw nw dw, undef, .slice (some ⟨g, o, none⟩) n c, undef, undef, undef, undef, undef], defers := [] } W := by
  intro  W hK0
  have HK := Lib.hid hK0
  clear hK0
  have hHeld := HF1.out _ HK.out
  refine HXO.out _ _ _ _ ?_
  refine wpAnyH_ready (rs := [5, 12]) (by kernel_rfl) (by simp) ?_
  refine AllReadyH.cons (at_list rfl) (fun K hK => ?_) (AllReadyH.cons (at_list rfl) (fun K hK => ?_) (AllReadyH.nil))
  ·go_simp
   go_at_call 16
   with_reducible refine (H1.out _).mono ?_
   rintro e wq ⟨rfl, hCq⟩
   have HK2 := Lib.hid (HK.out.on hCq)
   clear hHeld
   first | (refine hK.out _ _ ?_ (fun hHeld => ?_)) | (go_wp2_with fail; refine hK.out _ _ ?_ (fun hHeld => ?_))
   ·(try dsimp only); exact HF1.out _ HK2.out
   (try simp only [List.setIfInBounds_toArray, List.set_cons_zero, List.set_cons_succ])
   exact HXI.out _ _ _ _ (LS1_ _ HK2.out)
  ·go_simp
   have HK2 := Lib.hid (HK.out.other (.cells #[.bool false, S [], S []] 26 (0, 0)))
   have nB := Blk.new W #[.bool false, S [], S []] 26
   have nG : B + 1 < W.heap.size := (HK.out.row _ mm0).lt
   clear hHeld
   refine hK.out _ _ ?_ (fun hHeld => ?_)
   ·(try dsimp only); exact HF1.out _ HK2.out
   (try simp only [List.setIfInBounds_toArray, List.set_cons_zero, List.set_cons_succ])
   exact HXI.out _ _ _ _ (LS0_0 _ _ HK2.out nB nG)
 exact LS0_ _ HK0.out
def quoQ (a : Rat) (l : List T3) (t : T3) : Rat := a * ratOf t.1 t.2.1 t.2.2 / sumQ l
theorem Quota_any {K n c i : Nat} {p : Option Addr} {l : List T3} {t : T3} {W : World} {a : Rat} {sa : Bool} {na da : List UInt8} (hr : Rs W p n l) (ht : Tm W) (hK : 1 ≤ K) (hz : ∀ t ∈ l, t.2.1.length ≤ K ∧ t.2.2.length ≤ K) (hb : 1 + n * (K + 1) ≤ 400) (hi : l[i]? = some t) (ia : Is a sa na da) (za : Szq a 100) (hk : K ≤ 100) (h0 : sumQ l ≠ 0) :
  Calls Tryz.prog 37 #[Rv sa na da, .slice p n c, .int .i64 i] W (Yld W (Tv (pt (quoQ a l t)))) := by
 have hin : i < n := by rw [← hr.len]; exact (List.getElem?_eq_some_iff.1 hi).1
 have hn4 : n < 400 := by have := Nat.le_mul_of_pos_right n (show 0 < K + 1 by omega); omega
 obtain ⟨g, o, rfl⟩ := hr.addr (by omega)
 obtain ⟨sw, nw, dw⟩ := t
 obtain ⟨hm1, hm2⟩ : nw.length ≤ K ∧ dw.length ≤ K := hz _ (List.mem_of_getElem? hi)
 obtain ⟨sm, nm, dm, im⟩ := Is.ex (a * ratOf sw nw dw)
 have zw : Szq (ratOf sw nw dw) K := Szq.of_len hm1 hm2 hK
 obtain ⟨l1, l2⟩ := za.len ia
 obtain ⟨l3, l4⟩ := (za.mul zw).len im
 have zs := sumQ_size hK l hz n (by rw [hr.len]; exact Nat.le_refl _)
 rw [List.take_of_length_le (by rw [hr.len]; exact Nat.le_refl _)] at zs
 have is := pt_is (sumQ l)
 have hs : ∀ V, Ch W.heap.size none1 W V → Calls Tryz.prog 36 #[.slice (some ⟨g, o, none⟩) n c] V (Yld V (Tv (pt (sumQ l)))) := fun V hC => rSum_any (hr.ch hC) hK hz hb
 obtain ⟨⟨ss, ns, ds⟩, hps⟩ : ∃ t, pt (sumQ l) = t := ⟨_, rfl⟩
 rw [hps] at is hs
 simp only at is
 obtain ⟨l5, l6⟩ := zs.len is
 have iq := pt_is (quoQ a l (sw, nw, dw))
 obtain ⟨⟨r, k, f⟩, hpq⟩ : ∃ t, pt (quoQ a l (sw, nw, dw)) = t := ⟨_, rfl⟩
 rw [hpq] at iq ⊢
 simp only at iq
 exact quota_walk W ht hin (by omega) (fun V hC => (hr.ch hC).get hi) hs (C_rMul (s := sa) (n := na) (d := da) (t := sw) (m := nw) (e := dw) (by omega) (by omega) (by omega) (by omega) (ratOf_is ia) rfl im) (C_rQuo (s := sm) (n := nm) (d := dm) (t := ss) (m := ns) (e := ds) (by omega) (by omega) (by omega) (by omega) (ratOf_is im) (ratOf_is is) h0 iq)
end Go.Proofs.YtkeomlpecjjhiaaGreatDoor
