/- The reference of layer 4: Down. -/
import Derived.Test.YtkeomlpecjjhiaaGreatDoorIa
namespace Go.Proofs.YtkeomlpecjjhiaaGreatDoor
open Go.RowKit
set_option maxRecDepth 100000
theorem downQ_greatest {b t : Rat} (ht : 0 < t) (z : Int) (h : (z : Rat) * t ≤ b) : (z : Rat) * t ≤ downQ b t := by
 have h1 := downQ_mono ht h
 rwa [downQ_mul ht z] at h1
theorem upQ_neg {a t : Rat} (ht : 0 < t) : upQ a t = -downQ (-a) t := by
 obtain ⟨z, hz⟩ := downQ_is (-a) t
 obtain ⟨k, hk⟩ := upQ_is a t
 have h1 := downQ_le (a := -a) ht
 have h2 := le_upQ (a := a) ht
 have e1 : ((-z : Int) : Rat) * t = -((z : Rat) * t) := by rw [Rat.intCast_neg, Rat.neg_mul]
 have e2 : ((-k : Int) : Rat) * t = -((k : Rat) * t) := by rw [Rat.intCast_neg, Rat.neg_mul]
 have h3 := upQ_least (a := a) ht (-z) (by rw [e1]; rw [hz] at h1; grind)
 have h4 := downQ_greatest (b := -a) ht (-k) (by rw [e2]; rw [hk] at h2; grind)
 rw [e1, ← hz] at h3
 rw [e2, ← hk] at h4
 exact Rat.le_antisymm h3 (by grind)
theorem nearQ_half (a t : Rat) : nearQ a t = downQ (a + t / 2) t := by
 unfold nearQ
 rw [show t * (1 / 2) = t / 2 by grind]
set_option maxHeartbeats 6400000 in
theorem C_rDown_no {s t : Bool} {n d m e : List UInt8} (hn : n.length ≤ 150) (hd : d.length ≤ 150) (hm : m.length ≤ 150) (he : e.length ≤ 150) (hb : canB s n d t m e = false) : AnsM 46 #[Rv s n d, Rv t m e] (.tuple #[Rv false [] [], .bool false]) := fun w ht => by
 obtain ⟨r1, hr1⟩ : ∃ r, rightR s n d = r := ⟨_, rfl⟩
 obtain ⟨r2, hr2⟩ : ∃ r, rightR t m e = r := ⟨_, rfl⟩
 obtain ⟨k, hk⟩ : ∃ k, sgr (ratOf t m e) = k := ⟨_, rfl⟩
 have H1 := Lib.hid (C_rRight (s := s) (n := n) (d := d) (by omega) (by omega) hr1)
 have H2 := Lib.hid (C_rRight (s := t) (n := m) (d := e) (by omega) (by omega) hr2)
 have H3 := Lib.hid (C_rSign (s := t) (n := m) (d := e) (by omega) (by omega) rfl hk)
 have hcan : (r1 && decide (0 < k)) = false := by rw [← hb, ← hr1, ← hk]; rfl
 clear hb hr1 hr2 hk hn hd hm he
 cases r1 with
 | false =>
  clear hcan
  have HT := Lib.hid ht
  have HK := Lib.hid ((((Kq.nil w).new #[.bool s, S n, S d] 26).new #[.bool t, S m, S e] 26).new #[.bool false, S [], S []] 26)
  rw [World.size_alloc, World.size_alloc] at HK
  obtain ⟨B, hB⟩ : ∃ B, w.heap.size = B := ⟨_, rfl⟩
  rw [hB] at HK
  have HBB := Lib.hid hB
  clear ht
  have HF1 := Lib.hid (show ∀ W, Kq w W [(B + 1 + 1, 26, [.bool false, S [], S []]), (B + 1, 26, [.bool t, S m, S e]), (B, 26, [.bool s, S n, S d])] → W.cell? ⟨B + 1 + 1, 0, none⟩ = some (.bool false) ∧ W.cell? ⟨B + 1 + 1, 1, none⟩ = some (S []) ∧ W.cell? ⟨B + 1 + 1, 2, none⟩ = some (S []) ∧ W.cell? ⟨B + 1, 0, none⟩ = some (.bool t) ∧ W.cell? ⟨B + 1, 1, none⟩ = some (S m) ∧ W.cell? ⟨B + 1, 2, none⟩ = some (S e) ∧ W.cell? ⟨B, 0, none⟩ = some (.bool s) ∧ W.cell? ⟨B, 1, none⟩ = some (S n) ∧ W.cell? ⟨B, 2, none⟩ = some (S d) from fun W h => ⟨(h.row _ mm0).cell 0, (h.row _ mm0).cell 1, (h.row _ mm0).cell 2, (h.row _ mm1).cell 0, (h.row _ mm1).cell 1, (h.row _ mm1).cell 2, (h.row _ mm2).cell 0, (h.row _ mm2).cell 1, (h.row _ mm2).cell 2⟩)
  obtain ⟨cc0, cc1, cc2, cc3, cc4, cc5, cc6, cc7, cc8⟩ := HF1.out _ HK.out
  go_enter Tryz.func46, Tryz.ntmps46
  go_wp2_with fail
  clear hB
  refine (H1.out _).mono ?_
  rintro e w1 ⟨rfl, hC⟩
  replace HK := Lib.hid (HK.out.on hC)
  clear hC cc0 cc1 cc2 cc3 cc4 cc5 cc6 cc7 cc8
  obtain ⟨cc0, cc1, cc2, cc3, cc4, cc5, cc6, cc7, cc8⟩ := HF1.out _ HK.out
  go_wp2_with fail
  refine (H2.out _).mono ?_
  rintro e w2 ⟨rfl, hC⟩
  replace HK := Lib.hid (HK.out.on hC)
  clear hC cc0 cc1 cc2 cc3 cc4 cc5 cc6 cc7 cc8
  obtain ⟨cc0, cc1, cc2, cc3, cc4, cc5, cc6, cc7, cc8⟩ := HF1.out _ HK.out
  clear cc0 cc1 cc2 cc3 cc4 cc5 cc6 cc7 cc8
  have e0 := (HK.out.row _ mm0).cell 0
  have e1 := (HK.out.row _ mm0).cell 1
  have e2 := (HK.out.row _ mm0).cell 2
  have f0 := (HK.out.row _ mm0).frozen 0
  have f1 := (HK.out.row _ mm0).frozen 1
  have f2 := (HK.out.row _ mm0).frozen 2
  simp only [List.getElem?_cons_zero, List.getElem?_cons_succ] at e0 e1 e2
  go_wp2_with fail
  have hp := HK.out.put (g := B + 1 + 1) mm0 (by have := HBB.out; omega) (.bool false) (S []) (S [])
  refine bodyPost_ret (results_cell_row_tmp (P := Tryz.prog) rfl _ _ (B + 1 + 1) 26 _ (0, 0) _ rfl hp.1 Tryz.underlying26 rfl (by kernel_rfl)) rfl ?_
  exact ⟨rfl, hp.2⟩
 | true =>
  cases r2 with
  | false =>
   clear hcan
   have HT := Lib.hid ht
   have HK := Lib.hid ((((Kq.nil w).new #[.bool s, S n, S d] 26).new #[.bool t, S m, S e] 26).new #[.bool false, S [], S []] 26)
   rw [World.size_alloc, World.size_alloc] at HK
   obtain ⟨B, hB⟩ : ∃ B, w.heap.size = B := ⟨_, rfl⟩
   rw [hB] at HK
   have HBB := Lib.hid hB
   clear ht
   have HF1 := Lib.hid (show ∀ W, Kq w W [(B + 1 + 1, 26, [.bool false, S [], S []]), (B + 1, 26, [.bool t, S m, S e]), (B, 26, [.bool s, S n, S d])] → W.cell? ⟨B + 1 + 1, 0, none⟩ = some (.bool false) ∧ W.cell? ⟨B + 1 + 1, 1, none⟩ = some (S []) ∧ W.cell? ⟨B + 1 + 1, 2, none⟩ = some (S []) ∧ W.cell? ⟨B + 1, 0, none⟩ = some (.bool t) ∧ W.cell? ⟨B + 1, 1, none⟩ = some (S m) ∧ W.cell? ⟨B + 1, 2, none⟩ = some (S e) ∧ W.cell? ⟨B, 0, none⟩ = some (.bool s) ∧ W.cell? ⟨B, 1, none⟩ = some (S n) ∧ W.cell? ⟨B, 2, none⟩ = some (S d) from fun W h => ⟨(h.row _ mm0).cell 0, (h.row _ mm0).cell 1, (h.row _ mm0).cell 2, (h.row _ mm1).cell 0, (h.row _ mm1).cell 1, (h.row _ mm1).cell 2, (h.row _ mm2).cell 0, (h.row _ mm2).cell 1, (h.row _ mm2).cell 2⟩)
   obtain ⟨cc0, cc1, cc2, cc3, cc4, cc5, cc6, cc7, cc8⟩ := HF1.out _ HK.out
   go_enter Tryz.func46, Tryz.ntmps46
   go_wp2_with fail
   clear hB
   refine (H1.out _).mono ?_
   rintro e w1 ⟨rfl, hC⟩
   replace HK := Lib.hid (HK.out.on hC)
   clear hC cc0 cc1 cc2 cc3 cc4 cc5 cc6 cc7 cc8
   obtain ⟨cc0, cc1, cc2, cc3, cc4, cc5, cc6, cc7, cc8⟩ := HF1.out _ HK.out
   go_wp2_with fail
   refine (H2.out _).mono ?_
   rintro e w2 ⟨rfl, hC⟩
   replace HK := Lib.hid (HK.out.on hC)
   clear hC cc0 cc1 cc2 cc3 cc4 cc5 cc6 cc7 cc8
   obtain ⟨cc0, cc1, cc2, cc3, cc4, cc5, cc6, cc7, cc8⟩ := HF1.out _ HK.out
   clear cc0 cc1 cc2 cc3 cc4 cc5 cc6 cc7 cc8
   have e0 := (HK.out.row _ mm0).cell 0
   have e1 := (HK.out.row _ mm0).cell 1
   have e2 := (HK.out.row _ mm0).cell 2
   have f0 := (HK.out.row _ mm0).frozen 0
   have f1 := (HK.out.row _ mm0).frozen 1
   have f2 := (HK.out.row _ mm0).frozen 2
   simp only [List.getElem?_cons_zero, List.getElem?_cons_succ] at e0 e1 e2
   go_wp2_with fail
   have hp := HK.out.put (g := B + 1 + 1) mm0 (by have := HBB.out; omega) (.bool false) (S []) (S [])
   refine bodyPost_ret (results_cell_row_tmp (P := Tryz.prog) rfl _ _ (B + 1 + 1) 26 _ (0, 0) _ rfl hp.1 Tryz.underlying26 rfl (by kernel_rfl)) rfl ?_
   exact ⟨rfl, hp.2⟩
  | true =>
   have hk0 : k ≤ 0 := by
    simp only [Bool.true_and, decide_eq_false_iff_not] at hcan
    omega
   clear hcan
   have HT := Lib.hid ht
   have HK := Lib.hid ((((Kq.nil w).new #[.bool s, S n, S d] 26).new #[.bool t, S m, S e] 26).new #[.bool false, S [], S []] 26)
   rw [World.size_alloc, World.size_alloc] at HK
   obtain ⟨B, hB⟩ : ∃ B, w.heap.size = B := ⟨_, rfl⟩
   rw [hB] at HK
   have HBB := Lib.hid hB
   clear ht
   have HF1 := Lib.hid (show ∀ W, Kq w W [(B + 1 + 1, 26, [.bool false, S [], S []]), (B + 1, 26, [.bool t, S m, S e]), (B, 26, [.bool s, S n, S d])] → W.cell? ⟨B + 1 + 1, 0, none⟩ = some (.bool false) ∧ W.cell? ⟨B + 1 + 1, 1, none⟩ = some (S []) ∧ W.cell? ⟨B + 1 + 1, 2, none⟩ = some (S []) ∧ W.cell? ⟨B + 1, 0, none⟩ = some (.bool t) ∧ W.cell? ⟨B + 1, 1, none⟩ = some (S m) ∧ W.cell? ⟨B + 1, 2, none⟩ = some (S e) ∧ W.cell? ⟨B, 0, none⟩ = some (.bool s) ∧ W.cell? ⟨B, 1, none⟩ = some (S n) ∧ W.cell? ⟨B, 2, none⟩ = some (S d) from fun W h => ⟨(h.row _ mm0).cell 0, (h.row _ mm0).cell 1, (h.row _ mm0).cell 2, (h.row _ mm1).cell 0, (h.row _ mm1).cell 1, (h.row _ mm1).cell 2, (h.row _ mm2).cell 0, (h.row _ mm2).cell 1, (h.row _ mm2).cell 2⟩)
   obtain ⟨cc0, cc1, cc2, cc3, cc4, cc5, cc6, cc7, cc8⟩ := HF1.out _ HK.out
   go_enter Tryz.func46, Tryz.ntmps46
   go_wp2_with fail
   clear hB
   refine (H1.out _).mono ?_
   rintro e w1 ⟨rfl, hC⟩
   replace HK := Lib.hid (HK.out.on hC)
   clear hC cc0 cc1 cc2 cc3 cc4 cc5 cc6 cc7 cc8
   obtain ⟨cc0, cc1, cc2, cc3, cc4, cc5, cc6, cc7, cc8⟩ := HF1.out _ HK.out
   go_wp2_with fail
   refine (H2.out _).mono ?_
   rintro e w2 ⟨rfl, hC⟩
   replace HK := Lib.hid (HK.out.on hC)
   clear hC cc0 cc1 cc2 cc3 cc4 cc5 cc6 cc7 cc8
   obtain ⟨cc0, cc1, cc2, cc3, cc4, cc5, cc6, cc7, cc8⟩ := HF1.out _ HK.out
   go_wp2_with fail
   refine (H3.out _).mono ?_
   rintro e w3 ⟨rfl, hC⟩
   replace HK := Lib.hid (HK.out.on hC)
   clear hC cc0 cc1 cc2 cc3 cc4 cc5 cc6 cc7 cc8
   obtain ⟨cc0, cc1, cc2, cc3, cc4, cc5, cc6, cc7, cc8⟩ := HF1.out _ HK.out
   clear cc0 cc1 cc2 cc3 cc4 cc5 cc6 cc7 cc8
   have e0 := (HK.out.row _ mm0).cell 0
   have e1 := (HK.out.row _ mm0).cell 1
   have e2 := (HK.out.row _ mm0).cell 2
   have f0 := (HK.out.row _ mm0).frozen 0
   have f1 := (HK.out.row _ mm0).frozen 1
   have f2 := (HK.out.row _ mm0).frozen 2
   simp only [List.getElem?_cons_zero, List.getElem?_cons_succ] at e0 e1 e2
   go_wp2_with fail
   have hp := HK.out.put (g := B + 1 + 1) mm0 (by have := HBB.out; omega) (.bool false) (S []) (S [])
   refine bodyPost_ret (results_cell_row_tmp (P := Tryz.prog) rfl _ _ (B + 1 + 1) 26 _ (0, 0) _ rfl hp.1 Tryz.underlying26 rfl (by kernel_rfl)) rfl ?_
   exact ⟨rfl, hp.2⟩
theorem can_both {s t : Bool} {n d m e : List UInt8} (h : canB s n d t m e = true) : rightR s n d = true ∧ rightR t m e = true ∧ sgr (ratOf t m e) = 1 := by
 obtain ⟨h1, h2⟩ := can_pos h
 refine ⟨h1, ?_, sgr_one h2⟩
 cases hr : rightR t m e with
 | true => rfl
 | false => rw [ratOf_no hr] at h2; exact absurd h2 (by decide)
set_option maxHeartbeats 6400000 in
theorem C_rDown {s t : Bool} {n d m e : List UInt8} {r : Bool} {k f : List UInt8} {a b : Rat} (hn : n.length ≤ 150) (hd : d.length ≤ 150) (hm : m.length ≤ 150) (he : e.length ≤ 150) (hb : canB s n d t m e = true) (ra : ratOf s n d = a) (rb : ratOf t m e = b) (ic : Is (downQ a b) r k f) : AnsM 46 #[Rv s n d, Rv t m e] (.tuple #[Rv r k f, .bool true]) := fun w ht => by
 obtain ⟨hr1, hr2, hk⟩ := can_both hb
 have hpos := (can_pos hb).2
 rw [rb] at hpos
 have hne : b ≠ 0 := Ne.symm (Rat.ne_of_lt hpos)
 have H1 := Lib.hid (C_rRight (s := s) (n := n) (d := d) (by omega) (by omega) hr1)
 have H2 := Lib.hid (C_rRight (s := t) (n := m) (d := e) (by omega) (by omega) hr2)
 have H3 := Lib.hid (C_rSign (s := t) (n := m) (d := e) (by omega) (by omega) rfl hk)
 obtain ⟨s1, n1, d1, i1⟩ := Is.ex (a / b)
 obtain ⟨s2, n2, d2, i2⟩ := Is.ex (((a / b).floor : Int) : Rat)
 have za : Szq a 150 := by rw [← ra]; exact Szq.of_len hn hd (by omega)
 have zb : Szq b 150 := by rw [← rb]; exact Szq.of_len hm he (by omega)
 obtain ⟨l1, l2⟩ := (za.div zb hne).len i1
 have zf : Szq (((a / b).floor : Int) : Rat) 301 := floor_size (za.div zb hne)
 obtain ⟨l3, l4⟩ := zf.len i2
 have H4 := Lib.hid (C_rQuo (s := s) (n := n) (d := d) (t := t) (m := m) (e := e) (by omega) (by omega) (by omega) (by omega) ra rb hne i1)
 have H5 := Lib.hid (C_rFloor i1 (by omega) (by omega) i2)
 have H6 := Lib.hid (C_rMul (s := s2) (n := n2) (d := d2) (t := t) (m := m) (e := e) (by omega) (by omega) (by omega) (by omega) (ratOf_is i2) rb ic)
 clear hb hr1 hr2 hk ra rb ic hpos hne i1 i2 za zb l1 l2 zf l3 l4 hn hd hm he
 have HT := Lib.hid ht
 have HK := Lib.hid ((((Kq.nil w).new #[.bool s, S n, S d] 26).new #[.bool t, S m, S e] 26).new #[.bool false, S [], S []] 26)
 rw [World.size_alloc, World.size_alloc] at HK
 obtain ⟨B, hB⟩ : ∃ B, w.heap.size = B := ⟨_, rfl⟩
 rw [hB] at HK
 have HBB := Lib.hid hB
 clear ht
 have HF1 := Lib.hid (show ∀ W, Kq w W [(B + 1 + 1, 26, [.bool false, S [], S []]), (B + 1, 26, [.bool t, S m, S e]), (B, 26, [.bool s, S n, S d])] → W.cell? ⟨B + 1 + 1, 0, none⟩ = some (.bool false) ∧ W.cell? ⟨B + 1 + 1, 1, none⟩ = some (S []) ∧ W.cell? ⟨B + 1 + 1, 2, none⟩ = some (S []) ∧ W.cell? ⟨B + 1, 0, none⟩ = some (.bool t) ∧ W.cell? ⟨B + 1, 1, none⟩ = some (S m) ∧ W.cell? ⟨B + 1, 2, none⟩ = some (S e) ∧ W.cell? ⟨B, 0, none⟩ = some (.bool s) ∧ W.cell? ⟨B, 1, none⟩ = some (S n) ∧ W.cell? ⟨B, 2, none⟩ = some (S d) from fun W h => ⟨(h.row _ mm0).cell 0, (h.row _ mm0).cell 1, (h.row _ mm0).cell 2, (h.row _ mm1).cell 0, (h.row _ mm1).cell 1, (h.row _ mm1).cell 2, (h.row _ mm2).cell 0, (h.row _ mm2).cell 1, (h.row _ mm2).cell 2⟩)
 obtain ⟨cc0, cc1, cc2, cc3, cc4, cc5, cc6, cc7, cc8⟩ := HF1.out _ HK.out
 go_enter Tryz.func46, Tryz.ntmps46
 go_wp2_with fail
 clear hB
 refine (H1.out _).mono ?_
 rintro e w1 ⟨rfl, hC⟩
 replace HK := Lib.hid (HK.out.on hC)
 clear hC cc0 cc1 cc2 cc3 cc4 cc5 cc6 cc7 cc8
 obtain ⟨cc0, cc1, cc2, cc3, cc4, cc5, cc6, cc7, cc8⟩ := HF1.out _ HK.out
 go_wp2_with fail
 refine (H2.out _).mono ?_
 rintro e w2 ⟨rfl, hC⟩
 replace HK := Lib.hid (HK.out.on hC)
 clear hC cc0 cc1 cc2 cc3 cc4 cc5 cc6 cc7 cc8
 obtain ⟨cc0, cc1, cc2, cc3, cc4, cc5, cc6, cc7, cc8⟩ := HF1.out _ HK.out
 go_wp2_with fail
 refine (H3.out _).mono ?_
 rintro e w3 ⟨rfl, hC⟩
 replace HK := Lib.hid (HK.out.on hC)
 clear hC cc0 cc1 cc2 cc3 cc4 cc5 cc6 cc7 cc8
 obtain ⟨cc0, cc1, cc2, cc3, cc4, cc5, cc6, cc7, cc8⟩ := HF1.out _ HK.out
 go_wp2_with fail
 refine (H4.out _).mono ?_
 rintro e w4 ⟨rfl, hC⟩
 replace HK := Lib.hid (HK.out.on hC)
 clear hC cc0 cc1 cc2 cc3 cc4 cc5 cc6 cc7 cc8
 obtain ⟨cc0, cc1, cc2, cc3, cc4, cc5, cc6, cc7, cc8⟩ := HF1.out _ HK.out
 obtain ⟨dd0, dd1, dd2, dd3, dd4, dd5, dd6, dd7, dd8⟩ : (∀ o : Obj, (w4.alloc o).cell? ⟨B + 1 + 1, 0, none⟩ = some (.bool false)) ∧ (∀ o : Obj, (w4.alloc o).cell? ⟨B + 1 + 1, 1, none⟩ = some (S [])) ∧ (∀ o : Obj, (w4.alloc o).cell? ⟨B + 1 + 1, 2, none⟩ = some (S [])) ∧ (∀ o : Obj, (w4.alloc o).cell? ⟨B + 1, 0, none⟩ = some (.bool t)) ∧ (∀ o : Obj, (w4.alloc o).cell? ⟨B + 1, 1, none⟩ = some (S m)) ∧ (∀ o : Obj, (w4.alloc o).cell? ⟨B + 1, 2, none⟩ = some (S e)) ∧ (∀ o : Obj, (w4.alloc o).cell? ⟨B, 0, none⟩ = some (.bool s)) ∧ (∀ o : Obj, (w4.alloc o).cell? ⟨B, 1, none⟩ = some (S n)) ∧ (∀ o : Obj, (w4.alloc o).cell? ⟨B, 2, none⟩ = some (S d)) := by
  have hall := fun o : Obj => HF1.out _ (HK.out.other o)
  exact ⟨fun o => (hall o).1, fun o => (hall o).2.1, fun o => (hall o).2.2.1, fun o => (hall o).2.2.2.1, fun o => (hall o).2.2.2.2.1, fun o => (hall o).2.2.2.2.2.1, fun o => (hall o).2.2.2.2.2.2.1, fun o => (hall o).2.2.2.2.2.2.2.1, fun o => (hall o).2.2.2.2.2.2.2.2⟩
 go_wp2_with fail
 have HQG := Lib.hid (show B + 1 + 1 < w4.heap.size from (HK.out.row _ mm0).lt)
 clear cc0 cc1 cc2 cc3 cc4 cc5 cc6 cc7 cc8 dd0 dd1 dd2 dd3 dd4 dd5 dd6 dd7 dd8
 have HK2 := Lib.hid (HK.out.new #[.bool s1, S n1, S d1] 26)
 obtain ⟨w5, hW⟩ : ∃ W, w4.alloc (.cells #[.bool s1, S n1, S d1] 26 (0, 0)) = W := ⟨_, rfl⟩
 rw [hW] at HK2 ⊢
 obtain ⟨Q, hA⟩ : ∃ A, w4.heap.size = A := ⟨_, rfl⟩
 rw [hA] at HK2 ⊢
 rw [hA] at HQG
 have hqg := HQG.out
 clear hA hW HK
 have HK := HK2
 clear HK2
 have HF2 := Lib.hid (show ∀ W, Kq w W [(Q, 26, [.bool s1, S n1, S d1]), (B + 1 + 1, 26, [.bool false, S [], S []]), (B + 1, 26, [.bool t, S m, S e]), (B, 26, [.bool s, S n, S d])] → W.cell? ⟨Q, 0, none⟩ = some (.bool s1) ∧ W.cell? ⟨Q, 1, none⟩ = some (S n1) ∧ W.cell? ⟨Q, 2, none⟩ = some (S d1) ∧ W.cell? ⟨B + 1 + 1, 0, none⟩ = some (.bool false) ∧ W.cell? ⟨B + 1 + 1, 1, none⟩ = some (S []) ∧ W.cell? ⟨B + 1 + 1, 2, none⟩ = some (S []) ∧ W.cell? ⟨B + 1, 0, none⟩ = some (.bool t) ∧ W.cell? ⟨B + 1, 1, none⟩ = some (S m) ∧ W.cell? ⟨B + 1, 2, none⟩ = some (S e) ∧ W.cell? ⟨B, 0, none⟩ = some (.bool s) ∧ W.cell? ⟨B, 1, none⟩ = some (S n) ∧ W.cell? ⟨B, 2, none⟩ = some (S d) from fun W h => ⟨(h.row _ mm0).cell 0, (h.row _ mm0).cell 1, (h.row _ mm0).cell 2, (h.row _ mm1).cell 0, (h.row _ mm1).cell 1, (h.row _ mm1).cell 2, (h.row _ mm2).cell 0, (h.row _ mm2).cell 1, (h.row _ mm2).cell 2, (h.row _ mm3).cell 0, (h.row _ mm3).cell 1, (h.row _ mm3).cell 2⟩)
 obtain ⟨cc0, cc1, cc2, cc3, cc4, cc5, cc6, cc7, cc8, cc9, cc10, cc11⟩ := HF2.out _ HK.out
 clear cc0 cc1 cc2 cc3 cc4 cc5 cc6 cc7 cc8 cc9 cc10 cc11
 replace HK := Lib.hid HK.out.drew
 have HN0 := Lib.hid (show Q ≠ B + 1 + 1 by omega)
 have HN1 := Lib.hid (show B + 1 ≠ B + 1 + 1 by omega)
 have HCC := Lib.hid (show ∀ W, Kq w W [(Q, 26, [.bool s1, S n1, S d1]), (B + 1 + 1, 26, [.bool false, S [], S []]), (B + 1, 26, [.bool t, S m, S e]), (B, 26, [.bool s, S n, S d])] → W.cell? ⟨Q, 0, none⟩ = some (.bool s1) ∧ W.cell? ⟨Q, 1, none⟩ = some (S n1) ∧ W.cell? ⟨Q, 2, none⟩ = some (S d1) ∧ W.cell? ⟨B + 1, 0, none⟩ = some (.bool t) ∧ W.cell? ⟨B + 1, 1, none⟩ = some (S m) ∧ W.cell? ⟨B + 1, 2, none⟩ = some (S e) from fun W h => ⟨(h.row _ mm0).cell 0, (h.row _ mm0).cell 1, (h.row _ mm0).cell 2, (h.row _ mm2).cell 0, (h.row _ mm2).cell 1, (h.row _ mm2).cell 2⟩)
 go_region_held3 (fun w' => w'.cell? ⟨Q, 0, none⟩ = some (.bool s1) ∧ w'.cell? ⟨Q, 1, none⟩ = some (S n1) ∧ w'.cell? ⟨Q, 2, none⟩ = some (S d1) ∧ w'.cell? ⟨B + 1, 0, none⟩ = some (.bool t) ∧ w'.cell? ⟨B + 1, 1, none⟩ = some (S m) ∧ w'.cell? ⟨B + 1, 2, none⟩ = some (S e))
  (first
   | (with_reducible exact HCC.out _ HK.out)
   | (exact ⟨(HK.out.cellsp (g := Q) (r := B + 1 + 1) mm0 HN0.out _ _ _).1, (HK.out.cellsp (g := Q) (r := B + 1 + 1) mm0 HN0.out _ _ _).2.1, (HK.out.cellsp (g := Q) (r := B + 1 + 1) mm0 HN0.out _ _ _).2.2, (HK.out.cellsp (g := B + 1) (r := B + 1 + 1) mm2 HN1.out _ _ _).1, (HK.out.cellsp (g := B + 1) (r := B + 1 + 1) mm2 HN1.out _ _ _).2.1, (HK.out.cellsp (g := B + 1) (r := B + 1 + 1) mm2 HN1.out _ _ _).2.2⟩)
   | go_keep)
  (first
   | (go_at_call 62; (with_reducible refine (H5.out _ (HT.out.ch HK.out.ch)).mono ?_); rintro e wq ⟨rfl, hCq⟩; replace HK := Lib.hid (HK.out.on hCq); clear hCq)
   | (go_at_call 16; (with_reducible refine (H6.out _).mono ?_); rintro e wq ⟨rfl, hCq⟩; replace HK := Lib.hid (HK.out.on hCq); clear hCq; have e0 := (HK.out.row _ mm1).cell 0; have e1 := (HK.out.row _ mm1).cell 1; have e2 := (HK.out.row _ mm1).cell 2; have f0 := (HK.out.row _ mm1).frozen 0; have f1 := (HK.out.row _ mm1).frozen 1; have f2 := (HK.out.row _ mm1).frozen 2; simp only [List.getElem?_cons_zero, List.getElem?_cons_succ] at e0 e1 e2))
 go_wp2_with fail
 have hp := HK.out.put (g := B + 1 + 1) mm1 (by have := HBB.out; omega) (.bool r) (S k) (S f)
 refine bodyPost_ret (results_cell_row_tmp (P := Tryz.prog) rfl _ _ (B + 1 + 1) 26 _ (0, 0) _ rfl hp.1 Tryz.underlying26 rfl (by kernel_rfl)) rfl ?_
 exact ⟨rfl, hp.2⟩
end Go.Proofs.YtkeomlpecjjhiaaGreatDoor
