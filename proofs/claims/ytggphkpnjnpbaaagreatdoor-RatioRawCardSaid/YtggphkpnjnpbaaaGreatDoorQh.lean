/- Package ratio's Cmp. -/
import Derived.Test.YtggphkpnjnpbaaaGreatDoorQg
namespace Go.Proofs.YtggphkpnjnpbaaaGreatDoor
open Go.RowKit
theorem sign_lt {x y : Int} (h : Int.sign x < Int.sign y) : x < y := by
  rcases Int.lt_trichotomy x 0 with hx | hx | hx <;> rcases Int.lt_trichotomy y 0 with hy | hy | hy
  all_goals first | omega | (simp [Int.sign_eq_neg_one_of_neg, Int.sign_eq_one_of_pos, hx, hy] at h; done) | (rw [Int.sign_eq_one_of_pos hx] at h; first | (rw [Int.sign_eq_one_of_pos hy] at h; omega) | (rw [Int.sign_eq_neg_one_of_neg hy] at h; omega) | (rw [hy] at h; simp at h)) | (rw [Int.sign_eq_neg_one_of_neg hx, Int.sign_eq_neg_one_of_neg hy] at h; omega) | (subst hx; rw [Int.sign_eq_neg_one_of_neg hy] at h; simp at h)
theorem sgr_scaled (a : Rat) (k : Nat) (hk : 0 < k) : Int.sign (a.num * (k : Int)) = sgr a := by
  rw [Int.sign_mul, Int.sign_eq_one_of_pos (show (0 : Int) < (k : Int) by omega), Int.mul_one]
  rfl
theorem cmp_lt (a b : Rat) (h : sgr a < sgr b) : sgr (a - b) = -1 := by
  rw [sgr_sub]
  have h1 : a.num * b.den < b.num * a.den := sign_lt (by rw [sgr_scaled _ _ (rpos_den b), sgr_scaled _ _ (rpos_den a)]; exact h)
  exact Int.sign_eq_neg_one_of_neg (by omega)
theorem cmp_gt (a b : Rat) (h : sgr b < sgr a) : sgr (a - b) = 1 := by
  rw [sgr_sub]
  have h1 : b.num * a.den < a.num * b.den := sign_lt (by rw [sgr_scaled _ _ (rpos_den b), sgr_scaled _ _ (rpos_den a)]; exact h)
  exact Int.sign_eq_one_of_pos (by omega)
theorem cmp_signs (a b : Rat) (h : sgr a ≠ sgr b) : sgr (a - b) = Lib.compareInt (sgr a) (sgr b) := by
  unfold Lib.compareInt
  rcases Int.lt_or_gt_of_ne h with h1 | h1
  · rw [if_pos h1, cmp_lt a b h1]
  · rw [if_neg (by omega), if_pos h1, cmp_gt a b h1]
theorem sign_cmpN (x y : Nat) : Int.sign ((x : Int) - (y : Int)) = cmpN x y := by
  unfold cmpN
  split
  · exact Int.sign_eq_neg_one_of_neg (by omega)
  · split
    · exact Int.sign_eq_one_of_pos (by omega)
    · rw [show (x : Int) - (y : Int) = 0 by omega]; rfl
theorem cmp_same {a b : Rat} {s : Bool} {n d m e : List UInt8} (ia : Is a s n d) (ib : Is b s m e) : sgr (a - b) = if s then -cmpN (bv n * bv e) (bv m * bv d) else cmpN (bv n * bv e) (bv m * bv d) := by
  rw [sgr_sub, ← ia.val, ← ib.val, ← ia.vd, ← ib.vd, ← sign_cmpN]
  unfold sv
  cases s
  · simp
  · simp only [if_true]
    rw [← Int.sign_neg]
    congr 1
    rw [Int.natCast_mul, Int.natCast_mul, Int.neg_mul, Int.neg_mul]
    omega
theorem same_sign {a b : Rat} {s t : Bool} {n d m e : List UInt8} (ia : Is a s n d) (ib : Is b t m e) (h : sgr a = sgr b) (hne : a ≠ b) : s = t := by
  rw [ia.sgr, ib.sgr] at h
  by_cases hn : n = []
  · rw [if_pos hn] at h
    by_cases hm : m = []
    · exact absurd ((ia.nil.1 hn).trans (ib.nil.1 hm).symm) hne
    · rw [if_neg hm] at h
      cases t <;> simp at h
  · rw [if_neg hn] at h
    by_cases hm : m = []
    · rw [if_pos hm] at h
      cases s <;> simp at h
    · rw [if_neg hm] at h
      cases s <;> cases t <;> simp at h ⊢
theorem cmpN_range (x y : Nat) : -1 ≤ cmpN x y ∧ cmpN x y ≤ 1 := by
  unfold cmpN
  split
  · omega
  · split <;> omega
set_option maxRecDepth 100000 in
set_option maxHeartbeats 3200000 in
theorem C_Cmp {a b : Rat} {s t : Bool} {n d m e : List UInt8} (hn : n.length ≤ 1000) (hd : d.length ≤ 1000) (hm : m.length ≤ 1000) (he : e.length ≤ 1000) (ra : ratOf s n d = a) (rb : ratOf t m e = b) {k : Int} (hk : sgr (a - b) = k) :
    AnsT 17 #[Rv s n d, Rv t m e] (.int .i64 k) := fun w ht => by
  obtain ⟨s1, n1, d1, ia⟩ := Is.ex a
  obtain ⟨t1, m1, e1, ib⟩ := Is.ex b
  obtain ⟨ln, ld⟩ := len_of ra hn hd ia
  obtain ⟨lm, le⟩ := len_of rb hm he ib
  have h1 := C_counted hn hd (ra ▸ ia)
  have h2 := C_counted hm he (rb ▸ ib)
  have H1 := Lib.hid h1
  have H2 := Lib.hid h2
  have HT := Lib.hid ht
  have H3 := Lib.hid (C_sign ia rfl)
  have H4 := Lib.hid (C_sign ib rfl)
  obtain ⟨x, ex, vx⟩ := has_nb (bv n1 * bv e1)
  obtain ⟨y, ey, vy⟩ := has_nb (bv m1 * bv d1)
  have lx := nbl' _ ex (mulb (bv_b ln) (bv_b le))
  have ly := nbl' _ ey (mulb (bv_b lm) (bv_b ld))
  have H5 := Lib.hid (C_product (a := n1) (b := e1) ex (by omega) (by omega) ia.rtn ib.rtd rfl)
  have H6 := Lib.hid (C_product (a := m1) (b := d1) ey (by omega) (by omega) ib.rtn ia.rtd rfl)
  have H7 := Lib.hid (C_cmp (a := x) (b := y) (by omega) (by omega) rfl)
  rw [vx, vy] at H7
  obtain ⟨o, ho⟩ : ∃ o, cmpN (bv n1 * bv e1) (bv m1 * bv d1) = o := ⟨_, rfl⟩
  have hor := cmpN_range (bv n1 * bv e1) (bv m1 * bv d1)
  rw [ho] at hor H7
  have hsame : sgr a = sgr b → a ≠ b → s1 = t1 ∧ k = if s1 then -o else o := fun h1 h2 => by
    have hst := same_sign ia ib h1 h2
    subst hst
    exact ⟨rfl, by rw [← hk, ← ho]; exact cmp_same ia ib⟩
  have hdiff : sgr a ≠ sgr b → Lib.compareInt (sgr a) (sgr b) = k := fun h => by rw [← hk, cmp_signs a b h]
  have heq : a = b → k = 0 ∧ s1 = t1 ∧ n1 = m1 ∧ d1 = e1 := fun h => by
    subst h
    exact ⟨by rw [← hk, Rat.sub_self]; rfl, ia.eqs ib⟩
  have hnot : a ≠ b → ¬ (s1 = t1 ∧ n1 = m1 ∧ d1 = e1) := fun h ⟨q1, q2, q3⟩ => by
    subst q1 q2 q3
    exact h (ia.inj ib)
  have hwn : IntKind.i64.wrap (-o) = -o := IntWalk.i64_in _ (by omega)
  obtain ⟨ka, hka⟩ : ∃ ka, sgr a = ka := ⟨_, rfl⟩
  obtain ⟨kb, hkb⟩ : ∃ kb, sgr b = kb := ⟨_, rfl⟩
  rw [hka] at H3 hsame hdiff
  rw [hkb] at H4 hsame hdiff
  have HSAME := Lib.hid hsame
  have HDIFF := Lib.hid hdiff
  have HEQ := Lib.hid heq
  have HNOT := Lib.hid hnot
  have HOR := Lib.hid hor
  have HWN := Lib.hid hwn
  clear h1 h2 ht hn hd hm he ra rb ia ib ln ld lm le ex vx ey vy lx ly ho hor hsame hdiff heq hnot hk hka hkb hwn
  have HB := Lib.hid (Box.two w #[.bool s, S n, S d] #[.bool t, S m, S e])
  obtain ⟨B, hB⟩ : ∃ B, w.heap.size = B := ⟨_, rfl⟩
  rw [hB] at HB
  obtain ⟨a0, a1, a2, b0, b1, b2⟩ := HB.out.cells2
  go_enter Tryz.func17, Tryz.ntmps17
  go_wp2_with fail
  clear a0 a1 a2 b0 b1 b2
  have HBD := Lib.hid HB.out.drew
  clear HB
  have HB := HBD
  clear HBD
  obtain ⟨a0, a1, a2, fa0, fa1, fa2⟩ := HB.out.store0
  obtain ⟨b0, b1, b2, fb0, fb1, fb2⟩ := HB.out.store1
  go_region_with (first
    | (go_at_call 39; with_reducible refine (H1.out _ (HT.out.ch HB.out.ch)).mono ?_; rintro e wq ⟨rfl, hCq⟩; have HB2 := Lib.hid (HB.out.on hCq); clear hCq HB a0 a1 a2 b0 b1 b2 fa0 fa1 fa2 fb0 fb1 fb2; have HB := HB2; clear HB2; obtain ⟨a0, a1, a2, fa0, fa1, fa2⟩ := HB.out.store0; obtain ⟨b0, b1, b2, fb0, fb1, fb2⟩ := HB.out.store1)
    | (go_at_call 39; with_reducible refine (H2.out _ (HT.out.ch HB.out.ch)).mono ?_; rintro e wq ⟨rfl, hCq⟩; have HB2 := Lib.hid (HB.out.on hCq); clear hCq HB a0 a1 a2 b0 b1 b2 fa0 fa1 fa2 fb0 fb1 fb2; have HB := HB2; clear HB2; obtain ⟨a0, a1, a2, fa0, fa1, fa2⟩ := HB.out.store0; obtain ⟨b0, b1, b2, fb0, fb1, fb2⟩ := HB.out.store1))
  · have HN := Lib.hid (HB.out.set02 (.bool s1) (S n1) (S d1) (.bool t1) (S m1) (S e1))
    clear HB a0 a1 a2 b0 b1 b2 fa0 fa1 fa2 fb0 fb1 fb2
    obtain ⟨W3, hW3⟩ : ∃ W3, ((((((wq.setCell ⟨B, 0, none⟩ (.bool s1)).setCell ⟨B, 1, none⟩ (S n1)).setCell ⟨B, 2, none⟩ (S d1)).setCell ⟨B + 1, 0, none⟩ (.bool t1)).setCell ⟨B + 1, 1, none⟩ (S m1)).setCell ⟨B + 1, 2, none⟩ (S e1)) = W3 := ⟨_, rfl⟩
    rw [hW3] at HN ⊢
    clear hW3 wq
    have HB := HN
    clear HN
    obtain ⟨a0, a1, a2, b0, b1, b2⟩ := HB.out.cells2
    obtain ⟨z0, z1, z2⟩ := (HT.out.ch HB.out.ch).cells
    by_cases hab : a = b
    · obtain ⟨hk0, rfl, rfl, rfl⟩ := HEQ.out hab
      subst hk0
      clear hab z0 z1 z2
      go_wp2_with fail
      go_ret
      exact ⟨rfl, HB.out.ch⟩
    · have hno := HNOT.out hab
      have hthree : s1 ≠ t1 ∨ (s1 = t1 ∧ n1 ≠ m1) ∨ (s1 = t1 ∧ n1 = m1 ∧ d1 ≠ e1) := by
        by_cases q1 : s1 = t1
        · by_cases q2 : n1 = m1
          · exact .inr (.inr ⟨q1, q2, fun q3 => hno ⟨q1, q2, q3⟩⟩)
          · exact .inr (.inl ⟨q1, q2⟩)
        · exact .inl q1
      have HAB := Lib.hid hab
      clear hno hab
      rcases hthree with q1 | ⟨q1, q2⟩ | ⟨q1, q2, q3⟩
      · have r1 : (s1 == t1) = false := by simpa using q1
        clear q1
        go_wp2_with fail
        clear z0 z1 z2
        clear a0 a1 a2 b0 b1 b2
        have HBD := Lib.hid HB.out.drew
        clear HB
        have HB := HBD
        clear HBD
        go_region_held3 (fun w' => w'.cell? ⟨B, 0, none⟩ = some (.bool s1) ∧ w'.cell? ⟨B, 1, none⟩ = some (S n1) ∧ w'.cell? ⟨B, 2, none⟩ = some (S d1) ∧ w'.cell? ⟨B + 1, 0, none⟩ = some (.bool t1) ∧ w'.cell? ⟨B + 1, 1, none⟩ = some (S m1) ∧ w'.cell? ⟨B + 1, 2, none⟩ = some (S e1))
          (first
            | (with_reducible exact HB.out.cells2)
            | go_keep)
          (first
            | (go_at_call 53; with_reducible refine (H3.out _ (HT.out.ch HB.out.ch)).mono ?_; rintro e wq ⟨rfl, hCq⟩; have HB2 := Lib.hid (HB.out.on hCq); clear hCq HB; have HB := HB2; clear HB2)
            | (go_at_call 53; with_reducible refine (H4.out _ (HT.out.ch HB.out.ch)).mono ?_; rintro e wq ⟨rfl, hCq⟩; have HB2 := Lib.hid (HB.out.on hCq); clear hCq HB; have HB := HB2; clear HB2))
        obtain ⟨a0, a1, a2, b0, b1, b2⟩ := HB.out.cells2
        by_cases hkk : ka = kb
        · obtain ⟨rfl, hk0⟩ := HSAME.out hkk HAB.out
          subst hkk
          clear HAB
          have HK := Lib.hid hk0
          clear hk0
          go_wp2_with fail
          clear a0 a1 a2 b0 b1 b2
          have HBD := Lib.hid HB.out.drew
          clear HB
          have HB := HBD
          clear HBD
          go_region_held3 (fun w' => w'.cell? ⟨B, 0, none⟩ = some (.bool s1) ∧ w'.cell? ⟨B, 1, none⟩ = some (S n1) ∧ w'.cell? ⟨B, 2, none⟩ = some (S d1) ∧ w'.cell? ⟨B + 1, 0, none⟩ = some (.bool s1) ∧ w'.cell? ⟨B + 1, 1, none⟩ = some (S m1) ∧ w'.cell? ⟨B + 1, 2, none⟩ = some (S e1))
            (first
              | (with_reducible exact HB.out.cells2)
              | go_keep)
            (first
              | (go_at_call 56; with_reducible refine (H5.out _).mono ?_; rintro e wq ⟨rfl, hCq⟩; have HB2 := Lib.hid (HB.out.on hCq); clear hCq HB; have HB := HB2; clear HB2)
              | (go_at_call 56; with_reducible refine (H6.out _).mono ?_; rintro e wq ⟨rfl, hCq⟩; have HB2 := Lib.hid (HB.out.on hCq); clear hCq HB; have HB := HB2; clear HB2)
              | (go_at_call 55; with_reducible refine (H7.out _).mono ?_; rintro e wq ⟨rfl, hCq⟩; have HB2 := Lib.hid (HB.out.on hCq); clear hCq HB; have HB := HB2; clear HB2))
          obtain ⟨a0, a1, a2, b0, b1, b2⟩ := HB.out.cells2
          cases s1 with
          | true =>
            have hko : -o = k := by have := HK.out; simpa using this.symm
            have hwn := HWN.out
            rw [hko] at hwn
            clear HK
            go_wp2_with fail
            go_ret
            exact ⟨by first | rfl | rw [hko] | simp [hko], HB.out.ch⟩
          | false =>
            obtain rfl : k = o := by have := HK.out; simpa using this
            clear HK
            go_wp2_with fail
            go_ret
            exact ⟨rfl, HB.out.ch⟩
        · have hd := HDIFF.out hkk
          have hkb : (ka != kb) = true := by simpa using hkk
          clear hkk
          have HD := Lib.hid hd
          clear hd
          go_wp2_with fail
          refine (Tryz.cmp_Compare_int ka kb _).mono ?_
          rintro e w7 ⟨rfl, rfl⟩
          go_wp2_with fail
          go_ret
          exact ⟨ret_int HD.out, HB.out.ch⟩
      · have r1 : (s1 == t1) = true := by simpa using q1
        have r2 := beq_no q2
        clear q1 q2
        go_wp2_with fail
        clear z0 z1 z2
        clear a0 a1 a2 b0 b1 b2
        have HBD := Lib.hid HB.out.drew
        clear HB
        have HB := HBD
        clear HBD
        go_region_held3 (fun w' => w'.cell? ⟨B, 0, none⟩ = some (.bool s1) ∧ w'.cell? ⟨B, 1, none⟩ = some (S n1) ∧ w'.cell? ⟨B, 2, none⟩ = some (S d1) ∧ w'.cell? ⟨B + 1, 0, none⟩ = some (.bool t1) ∧ w'.cell? ⟨B + 1, 1, none⟩ = some (S m1) ∧ w'.cell? ⟨B + 1, 2, none⟩ = some (S e1))
          (first
            | (with_reducible exact HB.out.cells2)
            | go_keep)
          (first
            | (go_at_call 53; with_reducible refine (H3.out _ (HT.out.ch HB.out.ch)).mono ?_; rintro e wq ⟨rfl, hCq⟩; have HB2 := Lib.hid (HB.out.on hCq); clear hCq HB; have HB := HB2; clear HB2)
            | (go_at_call 53; with_reducible refine (H4.out _ (HT.out.ch HB.out.ch)).mono ?_; rintro e wq ⟨rfl, hCq⟩; have HB2 := Lib.hid (HB.out.on hCq); clear hCq HB; have HB := HB2; clear HB2))
        obtain ⟨a0, a1, a2, b0, b1, b2⟩ := HB.out.cells2
        by_cases hkk : ka = kb
        · obtain ⟨rfl, hk0⟩ := HSAME.out hkk HAB.out
          subst hkk
          clear HAB
          have HK := Lib.hid hk0
          clear hk0
          go_wp2_with fail
          clear a0 a1 a2 b0 b1 b2
          have HBD := Lib.hid HB.out.drew
          clear HB
          have HB := HBD
          clear HBD
          go_region_held3 (fun w' => w'.cell? ⟨B, 0, none⟩ = some (.bool s1) ∧ w'.cell? ⟨B, 1, none⟩ = some (S n1) ∧ w'.cell? ⟨B, 2, none⟩ = some (S d1) ∧ w'.cell? ⟨B + 1, 0, none⟩ = some (.bool s1) ∧ w'.cell? ⟨B + 1, 1, none⟩ = some (S m1) ∧ w'.cell? ⟨B + 1, 2, none⟩ = some (S e1))
            (first
              | (with_reducible exact HB.out.cells2)
              | go_keep)
            (first
              | (go_at_call 56; with_reducible refine (H5.out _).mono ?_; rintro e wq ⟨rfl, hCq⟩; have HB2 := Lib.hid (HB.out.on hCq); clear hCq HB; have HB := HB2; clear HB2)
              | (go_at_call 56; with_reducible refine (H6.out _).mono ?_; rintro e wq ⟨rfl, hCq⟩; have HB2 := Lib.hid (HB.out.on hCq); clear hCq HB; have HB := HB2; clear HB2)
              | (go_at_call 55; with_reducible refine (H7.out _).mono ?_; rintro e wq ⟨rfl, hCq⟩; have HB2 := Lib.hid (HB.out.on hCq); clear hCq HB; have HB := HB2; clear HB2))
          obtain ⟨a0, a1, a2, b0, b1, b2⟩ := HB.out.cells2
          cases s1 with
          | true =>
            have hko : -o = k := by have := HK.out; simpa using this.symm
            have hwn := HWN.out
            rw [hko] at hwn
            clear HK
            go_wp2_with fail
            go_ret
            exact ⟨by first | rfl | rw [hko] | simp [hko], HB.out.ch⟩
          | false =>
            obtain rfl : k = o := by have := HK.out; simpa using this
            clear HK
            go_wp2_with fail
            go_ret
            exact ⟨rfl, HB.out.ch⟩
        · have hd := HDIFF.out hkk
          have hkb : (ka != kb) = true := by simpa using hkk
          clear hkk
          have HD := Lib.hid hd
          clear hd
          go_wp2_with fail
          refine (Tryz.cmp_Compare_int ka kb _).mono ?_
          rintro e w7 ⟨rfl, rfl⟩
          go_wp2_with fail
          go_ret
          exact ⟨ret_int HD.out, HB.out.ch⟩
      · have r1 : (s1 == t1) = true := by simpa using q1
        have r2 : (n1 == m1) = true := by simpa using q2
        have r3 := beq_no q3
        clear q1 q2 q3
        go_wp2_with fail
        clear z0 z1 z2
        clear a0 a1 a2 b0 b1 b2
        have HBD := Lib.hid HB.out.drew
        clear HB
        have HB := HBD
        clear HBD
        go_region_held3 (fun w' => w'.cell? ⟨B, 0, none⟩ = some (.bool s1) ∧ w'.cell? ⟨B, 1, none⟩ = some (S n1) ∧ w'.cell? ⟨B, 2, none⟩ = some (S d1) ∧ w'.cell? ⟨B + 1, 0, none⟩ = some (.bool t1) ∧ w'.cell? ⟨B + 1, 1, none⟩ = some (S m1) ∧ w'.cell? ⟨B + 1, 2, none⟩ = some (S e1))
          (first
            | (with_reducible exact HB.out.cells2)
            | go_keep)
          (first
            | (go_at_call 53; with_reducible refine (H3.out _ (HT.out.ch HB.out.ch)).mono ?_; rintro e wq ⟨rfl, hCq⟩; have HB2 := Lib.hid (HB.out.on hCq); clear hCq HB; have HB := HB2; clear HB2)
            | (go_at_call 53; with_reducible refine (H4.out _ (HT.out.ch HB.out.ch)).mono ?_; rintro e wq ⟨rfl, hCq⟩; have HB2 := Lib.hid (HB.out.on hCq); clear hCq HB; have HB := HB2; clear HB2))
        obtain ⟨a0, a1, a2, b0, b1, b2⟩ := HB.out.cells2
        by_cases hkk : ka = kb
        · obtain ⟨rfl, hk0⟩ := HSAME.out hkk HAB.out
          subst hkk
          clear HAB
          have HK := Lib.hid hk0
          clear hk0
          go_wp2_with fail
          clear a0 a1 a2 b0 b1 b2
          have HBD := Lib.hid HB.out.drew
          clear HB
          have HB := HBD
          clear HBD
          go_region_held3 (fun w' => w'.cell? ⟨B, 0, none⟩ = some (.bool s1) ∧ w'.cell? ⟨B, 1, none⟩ = some (S n1) ∧ w'.cell? ⟨B, 2, none⟩ = some (S d1) ∧ w'.cell? ⟨B + 1, 0, none⟩ = some (.bool s1) ∧ w'.cell? ⟨B + 1, 1, none⟩ = some (S m1) ∧ w'.cell? ⟨B + 1, 2, none⟩ = some (S e1))
            (first
              | (with_reducible exact HB.out.cells2)
              | go_keep)
            (first
              | (go_at_call 56; with_reducible refine (H5.out _).mono ?_; rintro e wq ⟨rfl, hCq⟩; have HB2 := Lib.hid (HB.out.on hCq); clear hCq HB; have HB := HB2; clear HB2)
              | (go_at_call 56; with_reducible refine (H6.out _).mono ?_; rintro e wq ⟨rfl, hCq⟩; have HB2 := Lib.hid (HB.out.on hCq); clear hCq HB; have HB := HB2; clear HB2)
              | (go_at_call 55; with_reducible refine (H7.out _).mono ?_; rintro e wq ⟨rfl, hCq⟩; have HB2 := Lib.hid (HB.out.on hCq); clear hCq HB; have HB := HB2; clear HB2))
          obtain ⟨a0, a1, a2, b0, b1, b2⟩ := HB.out.cells2
          cases s1 with
          | true =>
            have hko : -o = k := by have := HK.out; simpa using this.symm
            have hwn := HWN.out
            rw [hko] at hwn
            clear HK
            go_wp2_with fail
            go_ret
            exact ⟨by first | rfl | rw [hko] | simp [hko], HB.out.ch⟩
          | false =>
            obtain rfl : k = o := by have := HK.out; simpa using this
            clear HK
            go_wp2_with fail
            go_ret
            exact ⟨rfl, HB.out.ch⟩
        · have hd := HDIFF.out hkk
          have hkb : (ka != kb) = true := by simpa using hkk
          clear hkk
          have HD := Lib.hid hd
          clear hd
          go_wp2_with fail
          refine (Tryz.cmp_Compare_int ka kb _).mono ?_
          rintro e w7 ⟨rfl, rfl⟩
          go_wp2_with fail
          go_ret
          exact ⟨ret_int HD.out, HB.out.ch⟩
  · have HN := Lib.hid (HB.out.set02 (.bool s1) (S n1) (S d1) (.bool t1) (S m1) (S e1))
    clear HB a0 a1 a2 b0 b1 b2 fa0 fa1 fa2 fb0 fb1 fb2
    obtain ⟨W3, hW3⟩ : ∃ W3, ((((((wq.setCell ⟨B, 0, none⟩ (.bool s1)).setCell ⟨B, 1, none⟩ (S n1)).setCell ⟨B, 2, none⟩ (S d1)).setCell ⟨B + 1, 0, none⟩ (.bool t1)).setCell ⟨B + 1, 1, none⟩ (S m1)).setCell ⟨B + 1, 2, none⟩ (S e1)) = W3 := ⟨_, rfl⟩
    rw [hW3] at HN ⊢
    clear hW3 wq
    have HB := HN
    clear HN
    obtain ⟨a0, a1, a2, b0, b1, b2⟩ := HB.out.cells2
    obtain ⟨z0, z1, z2⟩ := (HT.out.ch HB.out.ch).cells
    by_cases hab : a = b
    · obtain ⟨hk0, rfl, rfl, rfl⟩ := HEQ.out hab
      subst hk0
      clear hab z0 z1 z2
      go_wp2_with fail
      go_ret
      exact ⟨rfl, HB.out.ch⟩
    · have hno := HNOT.out hab
      have hthree : s1 ≠ t1 ∨ (s1 = t1 ∧ n1 ≠ m1) ∨ (s1 = t1 ∧ n1 = m1 ∧ d1 ≠ e1) := by
        by_cases q1 : s1 = t1
        · by_cases q2 : n1 = m1
          · exact .inr (.inr ⟨q1, q2, fun q3 => hno ⟨q1, q2, q3⟩⟩)
          · exact .inr (.inl ⟨q1, q2⟩)
        · exact .inl q1
      have HAB := Lib.hid hab
      clear hno hab
      rcases hthree with q1 | ⟨q1, q2⟩ | ⟨q1, q2, q3⟩
      · have r1 : (s1 == t1) = false := by simpa using q1
        clear q1
        go_wp2_with fail
        clear z0 z1 z2
        clear a0 a1 a2 b0 b1 b2
        have HBD := Lib.hid HB.out.drew
        clear HB
        have HB := HBD
        clear HBD
        go_region_held3 (fun w' => w'.cell? ⟨B, 0, none⟩ = some (.bool s1) ∧ w'.cell? ⟨B, 1, none⟩ = some (S n1) ∧ w'.cell? ⟨B, 2, none⟩ = some (S d1) ∧ w'.cell? ⟨B + 1, 0, none⟩ = some (.bool t1) ∧ w'.cell? ⟨B + 1, 1, none⟩ = some (S m1) ∧ w'.cell? ⟨B + 1, 2, none⟩ = some (S e1))
          (first
            | (with_reducible exact HB.out.cells2)
            | go_keep)
          (first
            | (go_at_call 53; with_reducible refine (H3.out _ (HT.out.ch HB.out.ch)).mono ?_; rintro e wq ⟨rfl, hCq⟩; have HB2 := Lib.hid (HB.out.on hCq); clear hCq HB; have HB := HB2; clear HB2)
            | (go_at_call 53; with_reducible refine (H4.out _ (HT.out.ch HB.out.ch)).mono ?_; rintro e wq ⟨rfl, hCq⟩; have HB2 := Lib.hid (HB.out.on hCq); clear hCq HB; have HB := HB2; clear HB2))
        obtain ⟨a0, a1, a2, b0, b1, b2⟩ := HB.out.cells2
        by_cases hkk : ka = kb
        · obtain ⟨rfl, hk0⟩ := HSAME.out hkk HAB.out
          subst hkk
          clear HAB
          have HK := Lib.hid hk0
          clear hk0
          go_wp2_with fail
          clear a0 a1 a2 b0 b1 b2
          have HBD := Lib.hid HB.out.drew
          clear HB
          have HB := HBD
          clear HBD
          go_region_held3 (fun w' => w'.cell? ⟨B, 0, none⟩ = some (.bool s1) ∧ w'.cell? ⟨B, 1, none⟩ = some (S n1) ∧ w'.cell? ⟨B, 2, none⟩ = some (S d1) ∧ w'.cell? ⟨B + 1, 0, none⟩ = some (.bool s1) ∧ w'.cell? ⟨B + 1, 1, none⟩ = some (S m1) ∧ w'.cell? ⟨B + 1, 2, none⟩ = some (S e1))
            (first
              | (with_reducible exact HB.out.cells2)
              | go_keep)
            (first
              | (go_at_call 56; with_reducible refine (H5.out _).mono ?_; rintro e wq ⟨rfl, hCq⟩; have HB2 := Lib.hid (HB.out.on hCq); clear hCq HB; have HB := HB2; clear HB2)
              | (go_at_call 56; with_reducible refine (H6.out _).mono ?_; rintro e wq ⟨rfl, hCq⟩; have HB2 := Lib.hid (HB.out.on hCq); clear hCq HB; have HB := HB2; clear HB2)
              | (go_at_call 55; with_reducible refine (H7.out _).mono ?_; rintro e wq ⟨rfl, hCq⟩; have HB2 := Lib.hid (HB.out.on hCq); clear hCq HB; have HB := HB2; clear HB2))
          obtain ⟨a0, a1, a2, b0, b1, b2⟩ := HB.out.cells2
          cases s1 with
          | true =>
            have hko : -o = k := by have := HK.out; simpa using this.symm
            have hwn := HWN.out
            rw [hko] at hwn
            clear HK
            go_wp2_with fail
            go_ret
            exact ⟨by first | rfl | rw [hko] | simp [hko], HB.out.ch⟩
          | false =>
            obtain rfl : k = o := by have := HK.out; simpa using this
            clear HK
            go_wp2_with fail
            go_ret
            exact ⟨rfl, HB.out.ch⟩
        · have hd := HDIFF.out hkk
          have hkb : (ka != kb) = true := by simpa using hkk
          clear hkk
          have HD := Lib.hid hd
          clear hd
          go_wp2_with fail
          refine (Tryz.cmp_Compare_int ka kb _).mono ?_
          rintro e w7 ⟨rfl, rfl⟩
          go_wp2_with fail
          go_ret
          exact ⟨ret_int HD.out, HB.out.ch⟩
      · have r1 : (s1 == t1) = true := by simpa using q1
        have r2 := beq_no q2
        clear q1 q2
        go_wp2_with fail
        clear z0 z1 z2
        clear a0 a1 a2 b0 b1 b2
        have HBD := Lib.hid HB.out.drew
        clear HB
        have HB := HBD
        clear HBD
        go_region_held3 (fun w' => w'.cell? ⟨B, 0, none⟩ = some (.bool s1) ∧ w'.cell? ⟨B, 1, none⟩ = some (S n1) ∧ w'.cell? ⟨B, 2, none⟩ = some (S d1) ∧ w'.cell? ⟨B + 1, 0, none⟩ = some (.bool t1) ∧ w'.cell? ⟨B + 1, 1, none⟩ = some (S m1) ∧ w'.cell? ⟨B + 1, 2, none⟩ = some (S e1))
          (first
            | (with_reducible exact HB.out.cells2)
            | go_keep)
          (first
            | (go_at_call 53; with_reducible refine (H3.out _ (HT.out.ch HB.out.ch)).mono ?_; rintro e wq ⟨rfl, hCq⟩; have HB2 := Lib.hid (HB.out.on hCq); clear hCq HB; have HB := HB2; clear HB2)
            | (go_at_call 53; with_reducible refine (H4.out _ (HT.out.ch HB.out.ch)).mono ?_; rintro e wq ⟨rfl, hCq⟩; have HB2 := Lib.hid (HB.out.on hCq); clear hCq HB; have HB := HB2; clear HB2))
        obtain ⟨a0, a1, a2, b0, b1, b2⟩ := HB.out.cells2
        by_cases hkk : ka = kb
        · obtain ⟨rfl, hk0⟩ := HSAME.out hkk HAB.out
          subst hkk
          clear HAB
          have HK := Lib.hid hk0
          clear hk0
          go_wp2_with fail
          clear a0 a1 a2 b0 b1 b2
          have HBD := Lib.hid HB.out.drew
          clear HB
          have HB := HBD
          clear HBD
          go_region_held3 (fun w' => w'.cell? ⟨B, 0, none⟩ = some (.bool s1) ∧ w'.cell? ⟨B, 1, none⟩ = some (S n1) ∧ w'.cell? ⟨B, 2, none⟩ = some (S d1) ∧ w'.cell? ⟨B + 1, 0, none⟩ = some (.bool s1) ∧ w'.cell? ⟨B + 1, 1, none⟩ = some (S m1) ∧ w'.cell? ⟨B + 1, 2, none⟩ = some (S e1))
            (first
              | (with_reducible exact HB.out.cells2)
              | go_keep)
            (first
              | (go_at_call 56; with_reducible refine (H5.out _).mono ?_; rintro e wq ⟨rfl, hCq⟩; have HB2 := Lib.hid (HB.out.on hCq); clear hCq HB; have HB := HB2; clear HB2)
              | (go_at_call 56; with_reducible refine (H6.out _).mono ?_; rintro e wq ⟨rfl, hCq⟩; have HB2 := Lib.hid (HB.out.on hCq); clear hCq HB; have HB := HB2; clear HB2)
              | (go_at_call 55; with_reducible refine (H7.out _).mono ?_; rintro e wq ⟨rfl, hCq⟩; have HB2 := Lib.hid (HB.out.on hCq); clear hCq HB; have HB := HB2; clear HB2))
          obtain ⟨a0, a1, a2, b0, b1, b2⟩ := HB.out.cells2
          cases s1 with
          | true =>
            have hko : -o = k := by have := HK.out; simpa using this.symm
            have hwn := HWN.out
            rw [hko] at hwn
            clear HK
            go_wp2_with fail
            go_ret
            exact ⟨by first | rfl | rw [hko] | simp [hko], HB.out.ch⟩
          | false =>
            obtain rfl : k = o := by have := HK.out; simpa using this
            clear HK
            go_wp2_with fail
            go_ret
            exact ⟨rfl, HB.out.ch⟩
        · have hd := HDIFF.out hkk
          have hkb : (ka != kb) = true := by simpa using hkk
          clear hkk
          have HD := Lib.hid hd
          clear hd
          go_wp2_with fail
          refine (Tryz.cmp_Compare_int ka kb _).mono ?_
          rintro e w7 ⟨rfl, rfl⟩
          go_wp2_with fail
          go_ret
          exact ⟨ret_int HD.out, HB.out.ch⟩
      · have r1 : (s1 == t1) = true := by simpa using q1
        have r2 : (n1 == m1) = true := by simpa using q2
        have r3 := beq_no q3
        clear q1 q2 q3
        go_wp2_with fail
        clear z0 z1 z2
        clear a0 a1 a2 b0 b1 b2
        have HBD := Lib.hid HB.out.drew
        clear HB
        have HB := HBD
        clear HBD
        go_region_held3 (fun w' => w'.cell? ⟨B, 0, none⟩ = some (.bool s1) ∧ w'.cell? ⟨B, 1, none⟩ = some (S n1) ∧ w'.cell? ⟨B, 2, none⟩ = some (S d1) ∧ w'.cell? ⟨B + 1, 0, none⟩ = some (.bool t1) ∧ w'.cell? ⟨B + 1, 1, none⟩ = some (S m1) ∧ w'.cell? ⟨B + 1, 2, none⟩ = some (S e1))
          (first
            | (with_reducible exact HB.out.cells2)
            | go_keep)
          (first
            | (go_at_call 53; with_reducible refine (H3.out _ (HT.out.ch HB.out.ch)).mono ?_; rintro e wq ⟨rfl, hCq⟩; have HB2 := Lib.hid (HB.out.on hCq); clear hCq HB; have HB := HB2; clear HB2)
            | (go_at_call 53; with_reducible refine (H4.out _ (HT.out.ch HB.out.ch)).mono ?_; rintro e wq ⟨rfl, hCq⟩; have HB2 := Lib.hid (HB.out.on hCq); clear hCq HB; have HB := HB2; clear HB2))
        obtain ⟨a0, a1, a2, b0, b1, b2⟩ := HB.out.cells2
        by_cases hkk : ka = kb
        · obtain ⟨rfl, hk0⟩ := HSAME.out hkk HAB.out
          subst hkk
          clear HAB
          have HK := Lib.hid hk0
          clear hk0
          go_wp2_with fail
          clear a0 a1 a2 b0 b1 b2
          have HBD := Lib.hid HB.out.drew
          clear HB
          have HB := HBD
          clear HBD
          go_region_held3 (fun w' => w'.cell? ⟨B, 0, none⟩ = some (.bool s1) ∧ w'.cell? ⟨B, 1, none⟩ = some (S n1) ∧ w'.cell? ⟨B, 2, none⟩ = some (S d1) ∧ w'.cell? ⟨B + 1, 0, none⟩ = some (.bool s1) ∧ w'.cell? ⟨B + 1, 1, none⟩ = some (S m1) ∧ w'.cell? ⟨B + 1, 2, none⟩ = some (S e1))
            (first
              | (with_reducible exact HB.out.cells2)
              | go_keep)
            (first
              | (go_at_call 56; with_reducible refine (H5.out _).mono ?_; rintro e wq ⟨rfl, hCq⟩; have HB2 := Lib.hid (HB.out.on hCq); clear hCq HB; have HB := HB2; clear HB2)
              | (go_at_call 56; with_reducible refine (H6.out _).mono ?_; rintro e wq ⟨rfl, hCq⟩; have HB2 := Lib.hid (HB.out.on hCq); clear hCq HB; have HB := HB2; clear HB2)
              | (go_at_call 55; with_reducible refine (H7.out _).mono ?_; rintro e wq ⟨rfl, hCq⟩; have HB2 := Lib.hid (HB.out.on hCq); clear hCq HB; have HB := HB2; clear HB2))
          obtain ⟨a0, a1, a2, b0, b1, b2⟩ := HB.out.cells2
          cases s1 with
          | true =>
            have hko : -o = k := by have := HK.out; simpa using this.symm
            have hwn := HWN.out
            rw [hko] at hwn
            clear HK
            go_wp2_with fail
            go_ret
            exact ⟨by first | rfl | rw [hko] | simp [hko], HB.out.ch⟩
          | false =>
            obtain rfl : k = o := by have := HK.out; simpa using this
            clear HK
            go_wp2_with fail
            go_ret
            exact ⟨rfl, HB.out.ch⟩
        · have hd := HDIFF.out hkk
          have hkb : (ka != kb) = true := by simpa using hkk
          clear hkk
          have HD := Lib.hid hd
          clear hd
          go_wp2_with fail
          refine (Tryz.cmp_Compare_int ka kb _).mono ?_
          rintro e w7 ⟨rfl, rfl⟩
          go_wp2_with fail
          go_ret
          exact ⟨ret_int HD.out, HB.out.ch⟩
  · have HN := Lib.hid (HB.out.set02 (.bool s1) (S n1) (S d1) (.bool t1) (S m1) (S e1))
    clear HB a0 a1 a2 b0 b1 b2 fa0 fa1 fa2 fb0 fb1 fb2
    obtain ⟨W3, hW3⟩ : ∃ W3, ((((((wq.setCell ⟨B, 0, none⟩ (.bool s1)).setCell ⟨B, 1, none⟩ (S n1)).setCell ⟨B, 2, none⟩ (S d1)).setCell ⟨B + 1, 0, none⟩ (.bool t1)).setCell ⟨B + 1, 1, none⟩ (S m1)).setCell ⟨B + 1, 2, none⟩ (S e1)) = W3 := ⟨_, rfl⟩
    rw [hW3] at HN ⊢
    clear hW3 wq
    have HB := HN
    clear HN
    obtain ⟨a0, a1, a2, b0, b1, b2⟩ := HB.out.cells2
    obtain ⟨z0, z1, z2⟩ := (HT.out.ch HB.out.ch).cells
    by_cases hab : a = b
    · obtain ⟨hk0, rfl, rfl, rfl⟩ := HEQ.out hab
      subst hk0
      clear hab z0 z1 z2
      go_wp2_with fail
      go_ret
      exact ⟨rfl, HB.out.ch⟩
    · have hno := HNOT.out hab
      have hthree : s1 ≠ t1 ∨ (s1 = t1 ∧ n1 ≠ m1) ∨ (s1 = t1 ∧ n1 = m1 ∧ d1 ≠ e1) := by
        by_cases q1 : s1 = t1
        · by_cases q2 : n1 = m1
          · exact .inr (.inr ⟨q1, q2, fun q3 => hno ⟨q1, q2, q3⟩⟩)
          · exact .inr (.inl ⟨q1, q2⟩)
        · exact .inl q1
      have HAB := Lib.hid hab
      clear hno hab
      rcases hthree with q1 | ⟨q1, q2⟩ | ⟨q1, q2, q3⟩
      · have r1 : (s1 == t1) = false := by simpa using q1
        clear q1
        go_wp2_with fail
        clear z0 z1 z2
        clear a0 a1 a2 b0 b1 b2
        have HBD := Lib.hid HB.out.drew
        clear HB
        have HB := HBD
        clear HBD
        go_region_held3 (fun w' => w'.cell? ⟨B, 0, none⟩ = some (.bool s1) ∧ w'.cell? ⟨B, 1, none⟩ = some (S n1) ∧ w'.cell? ⟨B, 2, none⟩ = some (S d1) ∧ w'.cell? ⟨B + 1, 0, none⟩ = some (.bool t1) ∧ w'.cell? ⟨B + 1, 1, none⟩ = some (S m1) ∧ w'.cell? ⟨B + 1, 2, none⟩ = some (S e1))
          (first
            | (with_reducible exact HB.out.cells2)
            | go_keep)
          (first
            | (go_at_call 53; with_reducible refine (H3.out _ (HT.out.ch HB.out.ch)).mono ?_; rintro e wq ⟨rfl, hCq⟩; have HB2 := Lib.hid (HB.out.on hCq); clear hCq HB; have HB := HB2; clear HB2)
            | (go_at_call 53; with_reducible refine (H4.out _ (HT.out.ch HB.out.ch)).mono ?_; rintro e wq ⟨rfl, hCq⟩; have HB2 := Lib.hid (HB.out.on hCq); clear hCq HB; have HB := HB2; clear HB2))
        obtain ⟨a0, a1, a2, b0, b1, b2⟩ := HB.out.cells2
        by_cases hkk : ka = kb
        · obtain ⟨rfl, hk0⟩ := HSAME.out hkk HAB.out
          subst hkk
          clear HAB
          have HK := Lib.hid hk0
          clear hk0
          go_wp2_with fail
          clear a0 a1 a2 b0 b1 b2
          have HBD := Lib.hid HB.out.drew
          clear HB
          have HB := HBD
          clear HBD
          go_region_held3 (fun w' => w'.cell? ⟨B, 0, none⟩ = some (.bool s1) ∧ w'.cell? ⟨B, 1, none⟩ = some (S n1) ∧ w'.cell? ⟨B, 2, none⟩ = some (S d1) ∧ w'.cell? ⟨B + 1, 0, none⟩ = some (.bool s1) ∧ w'.cell? ⟨B + 1, 1, none⟩ = some (S m1) ∧ w'.cell? ⟨B + 1, 2, none⟩ = some (S e1))
            (first
              | (with_reducible exact HB.out.cells2)
              | go_keep)
            (first
              | (go_at_call 56; with_reducible refine (H5.out _).mono ?_; rintro e wq ⟨rfl, hCq⟩; have HB2 := Lib.hid (HB.out.on hCq); clear hCq HB; have HB := HB2; clear HB2)
              | (go_at_call 56; with_reducible refine (H6.out _).mono ?_; rintro e wq ⟨rfl, hCq⟩; have HB2 := Lib.hid (HB.out.on hCq); clear hCq HB; have HB := HB2; clear HB2)
              | (go_at_call 55; with_reducible refine (H7.out _).mono ?_; rintro e wq ⟨rfl, hCq⟩; have HB2 := Lib.hid (HB.out.on hCq); clear hCq HB; have HB := HB2; clear HB2))
          obtain ⟨a0, a1, a2, b0, b1, b2⟩ := HB.out.cells2
          cases s1 with
          | true =>
            have hko : -o = k := by have := HK.out; simpa using this.symm
            have hwn := HWN.out
            rw [hko] at hwn
            clear HK
            go_wp2_with fail
            go_ret
            exact ⟨by first | rfl | rw [hko] | simp [hko], HB.out.ch⟩
          | false =>
            obtain rfl : k = o := by have := HK.out; simpa using this
            clear HK
            go_wp2_with fail
            go_ret
            exact ⟨rfl, HB.out.ch⟩
        · have hd := HDIFF.out hkk
          have hkb : (ka != kb) = true := by simpa using hkk
          clear hkk
          have HD := Lib.hid hd
          clear hd
          go_wp2_with fail
          refine (Tryz.cmp_Compare_int ka kb _).mono ?_
          rintro e w7 ⟨rfl, rfl⟩
          go_wp2_with fail
          go_ret
          exact ⟨ret_int HD.out, HB.out.ch⟩
      · have r1 : (s1 == t1) = true := by simpa using q1
        have r2 := beq_no q2
        clear q1 q2
        go_wp2_with fail
        clear z0 z1 z2
        clear a0 a1 a2 b0 b1 b2
        have HBD := Lib.hid HB.out.drew
        clear HB
        have HB := HBD
        clear HBD
        go_region_held3 (fun w' => w'.cell? ⟨B, 0, none⟩ = some (.bool s1) ∧ w'.cell? ⟨B, 1, none⟩ = some (S n1) ∧ w'.cell? ⟨B, 2, none⟩ = some (S d1) ∧ w'.cell? ⟨B + 1, 0, none⟩ = some (.bool t1) ∧ w'.cell? ⟨B + 1, 1, none⟩ = some (S m1) ∧ w'.cell? ⟨B + 1, 2, none⟩ = some (S e1))
          (first
            | (with_reducible exact HB.out.cells2)
            | go_keep)
          (first
            | (go_at_call 53; with_reducible refine (H3.out _ (HT.out.ch HB.out.ch)).mono ?_; rintro e wq ⟨rfl, hCq⟩; have HB2 := Lib.hid (HB.out.on hCq); clear hCq HB; have HB := HB2; clear HB2)
            | (go_at_call 53; with_reducible refine (H4.out _ (HT.out.ch HB.out.ch)).mono ?_; rintro e wq ⟨rfl, hCq⟩; have HB2 := Lib.hid (HB.out.on hCq); clear hCq HB; have HB := HB2; clear HB2))
        obtain ⟨a0, a1, a2, b0, b1, b2⟩ := HB.out.cells2
        by_cases hkk : ka = kb
        · obtain ⟨rfl, hk0⟩ := HSAME.out hkk HAB.out
          subst hkk
          clear HAB
          have HK := Lib.hid hk0
          clear hk0
          go_wp2_with fail
          clear a0 a1 a2 b0 b1 b2
          have HBD := Lib.hid HB.out.drew
          clear HB
          have HB := HBD
          clear HBD
          go_region_held3 (fun w' => w'.cell? ⟨B, 0, none⟩ = some (.bool s1) ∧ w'.cell? ⟨B, 1, none⟩ = some (S n1) ∧ w'.cell? ⟨B, 2, none⟩ = some (S d1) ∧ w'.cell? ⟨B + 1, 0, none⟩ = some (.bool s1) ∧ w'.cell? ⟨B + 1, 1, none⟩ = some (S m1) ∧ w'.cell? ⟨B + 1, 2, none⟩ = some (S e1))
            (first
              | (with_reducible exact HB.out.cells2)
              | go_keep)
            (first
              | (go_at_call 56; with_reducible refine (H5.out _).mono ?_; rintro e wq ⟨rfl, hCq⟩; have HB2 := Lib.hid (HB.out.on hCq); clear hCq HB; have HB := HB2; clear HB2)
              | (go_at_call 56; with_reducible refine (H6.out _).mono ?_; rintro e wq ⟨rfl, hCq⟩; have HB2 := Lib.hid (HB.out.on hCq); clear hCq HB; have HB := HB2; clear HB2)
              | (go_at_call 55; with_reducible refine (H7.out _).mono ?_; rintro e wq ⟨rfl, hCq⟩; have HB2 := Lib.hid (HB.out.on hCq); clear hCq HB; have HB := HB2; clear HB2))
          obtain ⟨a0, a1, a2, b0, b1, b2⟩ := HB.out.cells2
          cases s1 with
          | true =>
            have hko : -o = k := by have := HK.out; simpa using this.symm
            have hwn := HWN.out
            rw [hko] at hwn
            clear HK
            go_wp2_with fail
            go_ret
            exact ⟨by first | rfl | rw [hko] | simp [hko], HB.out.ch⟩
          | false =>
            obtain rfl : k = o := by have := HK.out; simpa using this
            clear HK
            go_wp2_with fail
            go_ret
            exact ⟨rfl, HB.out.ch⟩
        · have hd := HDIFF.out hkk
          have hkb : (ka != kb) = true := by simpa using hkk
          clear hkk
          have HD := Lib.hid hd
          clear hd
          go_wp2_with fail
          refine (Tryz.cmp_Compare_int ka kb _).mono ?_
          rintro e w7 ⟨rfl, rfl⟩
          go_wp2_with fail
          go_ret
          exact ⟨ret_int HD.out, HB.out.ch⟩
      · have r1 : (s1 == t1) = true := by simpa using q1
        have r2 : (n1 == m1) = true := by simpa using q2
        have r3 := beq_no q3
        clear q1 q2 q3
        go_wp2_with fail
        clear z0 z1 z2
        clear a0 a1 a2 b0 b1 b2
        have HBD := Lib.hid HB.out.drew
        clear HB
        have HB := HBD
        clear HBD
        go_region_held3 (fun w' => w'.cell? ⟨B, 0, none⟩ = some (.bool s1) ∧ w'.cell? ⟨B, 1, none⟩ = some (S n1) ∧ w'.cell? ⟨B, 2, none⟩ = some (S d1) ∧ w'.cell? ⟨B + 1, 0, none⟩ = some (.bool t1) ∧ w'.cell? ⟨B + 1, 1, none⟩ = some (S m1) ∧ w'.cell? ⟨B + 1, 2, none⟩ = some (S e1))
          (first
            | (with_reducible exact HB.out.cells2)
            | go_keep)
          (first
            | (go_at_call 53; with_reducible refine (H3.out _ (HT.out.ch HB.out.ch)).mono ?_; rintro e wq ⟨rfl, hCq⟩; have HB2 := Lib.hid (HB.out.on hCq); clear hCq HB; have HB := HB2; clear HB2)
            | (go_at_call 53; with_reducible refine (H4.out _ (HT.out.ch HB.out.ch)).mono ?_; rintro e wq ⟨rfl, hCq⟩; have HB2 := Lib.hid (HB.out.on hCq); clear hCq HB; have HB := HB2; clear HB2))
        obtain ⟨a0, a1, a2, b0, b1, b2⟩ := HB.out.cells2
        by_cases hkk : ka = kb
        · obtain ⟨rfl, hk0⟩ := HSAME.out hkk HAB.out
          subst hkk
          clear HAB
          have HK := Lib.hid hk0
          clear hk0
          go_wp2_with fail
          clear a0 a1 a2 b0 b1 b2
          have HBD := Lib.hid HB.out.drew
          clear HB
          have HB := HBD
          clear HBD
          go_region_held3 (fun w' => w'.cell? ⟨B, 0, none⟩ = some (.bool s1) ∧ w'.cell? ⟨B, 1, none⟩ = some (S n1) ∧ w'.cell? ⟨B, 2, none⟩ = some (S d1) ∧ w'.cell? ⟨B + 1, 0, none⟩ = some (.bool s1) ∧ w'.cell? ⟨B + 1, 1, none⟩ = some (S m1) ∧ w'.cell? ⟨B + 1, 2, none⟩ = some (S e1))
            (first
              | (with_reducible exact HB.out.cells2)
              | go_keep)
            (first
              | (go_at_call 56; with_reducible refine (H5.out _).mono ?_; rintro e wq ⟨rfl, hCq⟩; have HB2 := Lib.hid (HB.out.on hCq); clear hCq HB; have HB := HB2; clear HB2)
              | (go_at_call 56; with_reducible refine (H6.out _).mono ?_; rintro e wq ⟨rfl, hCq⟩; have HB2 := Lib.hid (HB.out.on hCq); clear hCq HB; have HB := HB2; clear HB2)
              | (go_at_call 55; with_reducible refine (H7.out _).mono ?_; rintro e wq ⟨rfl, hCq⟩; have HB2 := Lib.hid (HB.out.on hCq); clear hCq HB; have HB := HB2; clear HB2))
          obtain ⟨a0, a1, a2, b0, b1, b2⟩ := HB.out.cells2
          cases s1 with
          | true =>
            have hko : -o = k := by have := HK.out; simpa using this.symm
            have hwn := HWN.out
            rw [hko] at hwn
            clear HK
            go_wp2_with fail
            go_ret
            exact ⟨by first | rfl | rw [hko] | simp [hko], HB.out.ch⟩
          | false =>
            obtain rfl : k = o := by have := HK.out; simpa using this
            clear HK
            go_wp2_with fail
            go_ret
            exact ⟨rfl, HB.out.ch⟩
        · have hd := HDIFF.out hkk
          have hkb : (ka != kb) = true := by simpa using hkk
          clear hkk
          have HD := Lib.hid hd
          clear hd
          go_wp2_with fail
          refine (Tryz.cmp_Compare_int ka kb _).mono ?_
          rintro e w7 ⟨rfl, rfl⟩
          go_wp2_with fail
          go_ret
          exact ⟨ret_int HD.out, HB.out.ch⟩
end Go.Proofs.YtggphkpnjnpbaaaGreatDoor
