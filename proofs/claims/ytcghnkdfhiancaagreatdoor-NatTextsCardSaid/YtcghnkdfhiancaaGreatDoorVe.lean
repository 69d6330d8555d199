/- The reference implementation's Parse. -/
import Derived.Test.YtcghnkdfhiancaaGreatDoorVd
import Derived.Test.YtcghnkdfhiancaaGreatDoorUn
namespace Go.Proofs.YtcghnkdfhiancaaGreatDoor
open Go.RowKit
set_option maxRecDepth 100000 in
set_option maxHeartbeats 1600000 in
theorem rparse_rest (b : UInt8) (m : List UInt8) (w : World) (hl : (b :: m).length ≤ 999) (hb : b = 48 → m = []) :
    Calls Tryz.prog 17 #[S (b :: m)] w (Yld w (.tuple #[S (if decB (b :: m) then nb (dcv (b :: m)) else []), .bool (decB (b :: m))])) := by
  have hdec : decB (b :: m) = (b :: m).all isDig := decB_loop (by simp) (fun c t e => by
    have h1 := (List.cons.inj e).1
    have h2 := (List.cons.inj e).2
    rw [hb h1] at h2
    cases h2)
  have hg0 : ∀ h', (ByteArray.mk (b :: m).toArray)[0]'h' = b := fun _ => rfl
  have hb0 : 1 < (b :: m).length → ((b.toNat : Int) == 48) = false := by
    intro hlen
    rw [beq_eq_false_iff_ne]
    intro h
    have h48 : (48 : UInt8).toNat = 48 := rfl
    have := hb (UInt8.toNat_inj.1 (show b.toNat = (48 : UInt8).toNat from by omega))
    subst this
    simp at hlen
  have hpos : 0 < (b :: m).length := by simp
  obtain ⟨l, hll⟩ : ∃ l, b :: m = l := ⟨_, rfl⟩
  rw [hll] at hdec hl hg0 hpos hb0 ⊢
  rw [hdec]
  clear hdec hll hb
  obtain ⟨r, hr⟩ : ∃ r, l.all isDig = r := ⟨_, rfl⟩
  rw [hr]
  obtain ⟨o, ho⟩ : ∃ o, (if r = true then nb (dcv l) else []) = o := ⟨_, rfl⟩
  rw [ho]
  have HR := Lib.hid hr
  have HO := Lib.hid ho
  clear hr ho
  have hz : ((l.length : Int) == 0) = false := by rw [beq_eq_false_iff_ne]; omega
  have hlen : ∀ k, (nb (dcv (l.take k))).length ≤ 1000 → True := fun _ _ => trivial
  clear hlen
  have h10 : Ans 9 #[.int .i64 10] (S [10]) := fun w => (refOf_any 10 w (by decide) (by decide)).mono fun _ _ ⟨he, hC⟩ => ⟨by rw [he, nb_is [10] _ (by decide) (by decide)], hC⟩
  have H10 := Lib.hid h10
  clear h10
  have HCO := Lib.hid (Ch.refl w.heap.size none1 w)
  have hcase : ((1 < l.length) ∧ ((b.toNat : Int) == 48) = false) ∨ l.length = 1 := by
    by_cases h1 : 1 < l.length
    · exact .inl ⟨h1, hb0 h1⟩
    · exact .inr (by omega)
  clear hb0
  rcases hcase with ⟨h1, hb0⟩ | h1
  · have hone : ((1 : Int) < (l.length : Int)) := by omega
    go_enter Tryz.func17, Tryz.ntmps17
    go_wp2_with fail
    clear hb0
    go_loopg [4, 5] (l.length) (fun gh a i wr => ∃ k : Nat, k ≤ l.length ∧ gh = l.length - k ∧ i = .int .i64 (k : Int) ∧ a = S (nb (dcv (l.take k))) ∧ (l.take k).all isDig = true ∧ Ch w.heap.size none1 w wr)
    case atStart => exact ⟨0, Nat.zero_le _, rfl, rfl, by rw [List.take_zero, show dcv [] = 0 from rfl, nb_zero], rfl, Ch.refl _ _ _⟩
    case round =>
      obtain ⟨k, hk, rfl, rfl, rfl, hall, hC⟩ := hrel
      have HA := Lib.hid hall
      have HC := Lib.hid hC
      clear hall hC HCO
      by_cases hlt : k < l.length
      · have hst : (l.take (k + 1)).all isDig = ((l.take k).all isDig && isDig l[k]) := by
          rw [List.take_succ_eq_append_getElem hlt, List.all_append]; simp
        have hno : isDig l[k] = false → l.all isDig = false := fun h => by
          rw [← List.take_append_drop k l, List.all_append, List.drop_eq_getElem_cons hlt, List.all_cons, h]; simp
        have hdv : dcv (l.take (k + 1)) = dcv (l.take k) * 10 + (l[k].toNat - 48) := by rw [List.take_succ_eq_append_getElem hlt, dcv_snoc]
        have hal := dcv_lt (l.take k) HA.out
        have hal2 : dcv (l.take k) < 256 ^ l.length := Nat.lt_of_lt_of_le hal (Nat.le_trans (Nat.pow_le_pow_left (by omega) _) (Nat.pow_le_pow_right (by omega) (by rw [List.length_take]; omega)))
        have hal3 : (nb (dcv (l.take k))).length ≤ 1000 := Nat.le_trans ((nb_len _ l.length).2 hal2) (by omega)
        have hal4 : dcv (l.take k) * 10 < 256 ^ (l.length + 1) := by rw [Nat.pow_succ]; omega
        obtain ⟨c, hc⟩ : ∃ c, l[k] = c := ⟨_, rfl⟩
        rw [hc] at hst hno hdv
        have hg : ∀ h', (ByteArray.mk l.toArray)[k]'h' = c := fun _ => hc
        have HST := Lib.hid hst
        have HNO := Lib.hid hno
        have HDV := Lib.hid hdv
        obtain ⟨A, hA⟩ : ∃ A, dcv (l.take k) = A := ⟨_, rfl⟩
        rw [hA] at hal3 hal4 HDV ⊢
        obtain ⟨a, ha⟩ : ∃ a, nb A = a := ⟨_, rfl⟩
        rw [ha] at hal3 ⊢
        have hbv : bv a = A := by rw [← ha, bv_nb]
        obtain ⟨a2, ha2⟩ : ∃ a2, nb (A * 10) = a2 := ⟨_, rfl⟩
        have hl2 : a2.length ≤ 1000 := by rw [← ha2]; exact Nat.le_trans ((nb_len _ (l.length + 1)).2 hal4) (by omega)
        have hbv2 : bv a2 = A * 10 := by rw [← ha2, bv_nb]
        clear hst hno hdv hal hal2 hal4 hA ha hc
        by_cases h1 : c.toNat < 48
        · have hd : isDig c = false := by simp [isDig]; omega
          have HD := Lib.hid hd
          clear hd
          go_wp2_with fail
          go_ret2
          obtain rfl : r = false := by rw [← HR.out]; exact HNO.out HD.out
          obtain rfl : o = [] := HO.out.symm
          exact ⟨rfl, HC.out⟩
        · by_cases h2 : 57 < c.toNat
          · have hd : isDig c = false := by simp [isDig]; omega
            have HD := Lib.hid hd
            clear hd
            go_wp2_with fail
            go_ret2
            obtain rfl : r = false := by rw [← HR.out]; exact HNO.out HD.out
            obtain rfl : o = [] := HO.out.symm
            exact ⟨rfl, HC.out⟩
          · have hd : isDig c = true := by simp [isDig]; omega
            have HD := Lib.hid hd
            clear hd
            obtain ⟨dd, hdd⟩ : ∃ dd, nb (c.toNat - 48) = dd := ⟨_, rfl⟩
            have hddl : dd.length ≤ 1000 := by rw [← hdd]; exact Nat.le_trans ((nb_len _ 1).2 (by omega)) (by decide)
            have hddv : bv dd = c.toNat - 48 := by rw [← hdd, bv_nb]
            have g1 := C_rmul (a := a) (b := [10]) ha2 hal3 (by decide) (by rw [hbv]; rfl)
            have g2 : ∀ z : Int, z = (c.toNat : Int) - 48 → Ans 9 #[.int .i64 z] (S dd) := fun z hz w => (refOf_any z w (by omega) (by omega)).mono fun _ _ ⟨he, hC⟩ => ⟨by rw [he, ← hdd, show z.toNat = c.toNat - 48 by omega], hC⟩
            have g3 := C_radd (a := a2) (b := dd) (l := nb (A * 10 + (c.toNat - 48))) rfl hl2 hddl (by rw [hbv2, hddv])
            have G1 := Lib.hid g1
            have G2 := Lib.hid g2
            have G3 := Lib.hid g3
            have hw : IntKind.u8.wrap ((c.toNat : Int) - 48) = (c.toNat : Int) - 48 := by simp [IntKind.wrap, IntKind.bits, IntKind.signed]; omega
            clear g1 g2 g3 hdd hddl hddv hal3 hbv ha2 hl2 hbv2
            go_wp2_with fail
            have HX := Lib.hid (Ch.refl wr.drew.heap.size none1 wr.drew)
            go_region_held3 (fun _ => True)
              (first | trivial | go_keep)
              (first
              | (go_at_call 9; with_reducible refine (H10.out _).mono ?_; rintro e wq ⟨rfl, hCq⟩; have HX2 := Lib.hid (HX.out.step0 hCq (Nat.le_refl _)); clear hCq HX; have HX := HX2; clear HX2)
              | (go_at_call 8; with_reducible refine (G1.out _).mono ?_; rintro e wq ⟨rfl, hCq⟩; have HX2 := Lib.hid (HX.out.step0 hCq (Nat.le_refl _)); clear hCq HX; have HX := HX2; clear HX2)
              | (go_at_call 9; with_reducible refine (G2.out _ (by first | rfl | (simp only [IntKind.wrap, IntKind.bits, IntKind.signed]; omega) | (simp [IntKind.wrap, IntKind.bits, IntKind.signed]; omega)) _).mono ?_; rintro e wq ⟨rfl, hCq⟩; have HX2 := Lib.hid (HX.out.step0 hCq (Nat.le_refl _)); clear hCq HX; have HX := HX2; clear HX2)
              | (go_at_call 7; with_reducible refine (G3.out _).mono ?_; rintro e wq ⟨rfl, hCq⟩; have HX2 := Lib.hid (HX.out.step0 hCq (Nat.le_refl _)); clear hCq HX; have HX := HX2; clear HX2))
            all_goals go_wp2_with fail
            all_goals go_roundg (l.length - (k + 1))
            all_goals first
              | (show (_ : Nat) < _; omega)
              | exact ⟨k + 1, by omega, rfl, by go_num, by rw [HDV.out], by rw [HST.out, HA.out, HD.out]; rfl, (HC.out.drew).step0 HX.out (Nat.le_refl _)⟩
      · have hke : k = l.length := by omega
        have hfin : l.all isDig = true := by have h := HA.out; rwa [hke, List.take_length] at h
        have hft : l.take k = l := by rw [hke, List.take_length]
        have HF := Lib.hid hfin
        rw [hft]
        clear hfin hke hft
        go_wp2_with fail
        go_ret2
        obtain rfl : r = true := by rw [← HR.out]; exact HF.out
        obtain rfl : o = nb (dcv l) := HO.out.symm
        exact ⟨rfl, HC.out⟩
  · have hone : ¬ ((1 : Int) < (l.length : Int)) := by omega
    clear h1
    go_enter Tryz.func17, Tryz.ntmps17
    go_wp2_with fail
    go_loopg [4, 5] (l.length) (fun gh a i wr => ∃ k : Nat, k ≤ l.length ∧ gh = l.length - k ∧ i = .int .i64 (k : Int) ∧ a = S (nb (dcv (l.take k))) ∧ (l.take k).all isDig = true ∧ Ch w.heap.size none1 w wr)
    case atStart => exact ⟨0, Nat.zero_le _, rfl, rfl, by rw [List.take_zero, show dcv [] = 0 from rfl, nb_zero], rfl, Ch.refl _ _ _⟩
    case round =>
      obtain ⟨k, hk, rfl, rfl, rfl, hall, hC⟩ := hrel
      have HA := Lib.hid hall
      have HC := Lib.hid hC
      clear hall hC HCO
      by_cases hlt : k < l.length
      · have hst : (l.take (k + 1)).all isDig = ((l.take k).all isDig && isDig l[k]) := by
          rw [List.take_succ_eq_append_getElem hlt, List.all_append]; simp
        have hno : isDig l[k] = false → l.all isDig = false := fun h => by
          rw [← List.take_append_drop k l, List.all_append, List.drop_eq_getElem_cons hlt, List.all_cons, h]; simp
        have hdv : dcv (l.take (k + 1)) = dcv (l.take k) * 10 + (l[k].toNat - 48) := by rw [List.take_succ_eq_append_getElem hlt, dcv_snoc]
        have hal := dcv_lt (l.take k) HA.out
        have hal2 : dcv (l.take k) < 256 ^ l.length := Nat.lt_of_lt_of_le hal (Nat.le_trans (Nat.pow_le_pow_left (by omega) _) (Nat.pow_le_pow_right (by omega) (by rw [List.length_take]; omega)))
        have hal3 : (nb (dcv (l.take k))).length ≤ 1000 := Nat.le_trans ((nb_len _ l.length).2 hal2) (by omega)
        have hal4 : dcv (l.take k) * 10 < 256 ^ (l.length + 1) := by rw [Nat.pow_succ]; omega
        obtain ⟨c, hc⟩ : ∃ c, l[k] = c := ⟨_, rfl⟩
        rw [hc] at hst hno hdv
        have hg : ∀ h', (ByteArray.mk l.toArray)[k]'h' = c := fun _ => hc
        have HST := Lib.hid hst
        have HNO := Lib.hid hno
        have HDV := Lib.hid hdv
        obtain ⟨A, hA⟩ : ∃ A, dcv (l.take k) = A := ⟨_, rfl⟩
        rw [hA] at hal3 hal4 HDV ⊢
        obtain ⟨a, ha⟩ : ∃ a, nb A = a := ⟨_, rfl⟩
        rw [ha] at hal3 ⊢
        have hbv : bv a = A := by rw [← ha, bv_nb]
        obtain ⟨a2, ha2⟩ : ∃ a2, nb (A * 10) = a2 := ⟨_, rfl⟩
        have hl2 : a2.length ≤ 1000 := by rw [← ha2]; exact Nat.le_trans ((nb_len _ (l.length + 1)).2 hal4) (by omega)
        have hbv2 : bv a2 = A * 10 := by rw [← ha2, bv_nb]
        clear hst hno hdv hal hal2 hal4 hA ha hc
        by_cases h1 : c.toNat < 48
        · have hd : isDig c = false := by simp [isDig]; omega
          have HD := Lib.hid hd
          clear hd
          go_wp2_with fail
          go_ret2
          obtain rfl : r = false := by rw [← HR.out]; exact HNO.out HD.out
          obtain rfl : o = [] := HO.out.symm
          exact ⟨rfl, HC.out⟩
        · by_cases h2 : 57 < c.toNat
          · have hd : isDig c = false := by simp [isDig]; omega
            have HD := Lib.hid hd
            clear hd
            go_wp2_with fail
            go_ret2
            obtain rfl : r = false := by rw [← HR.out]; exact HNO.out HD.out
            obtain rfl : o = [] := HO.out.symm
            exact ⟨rfl, HC.out⟩
          · have hd : isDig c = true := by simp [isDig]; omega
            have HD := Lib.hid hd
            clear hd
            obtain ⟨dd, hdd⟩ : ∃ dd, nb (c.toNat - 48) = dd := ⟨_, rfl⟩
            have hddl : dd.length ≤ 1000 := by rw [← hdd]; exact Nat.le_trans ((nb_len _ 1).2 (by omega)) (by decide)
            have hddv : bv dd = c.toNat - 48 := by rw [← hdd, bv_nb]
            have g1 := C_rmul (a := a) (b := [10]) ha2 hal3 (by decide) (by rw [hbv]; rfl)
            have g2 : ∀ z : Int, z = (c.toNat : Int) - 48 → Ans 9 #[.int .i64 z] (S dd) := fun z hz w => (refOf_any z w (by omega) (by omega)).mono fun _ _ ⟨he, hC⟩ => ⟨by rw [he, ← hdd, show z.toNat = c.toNat - 48 by omega], hC⟩
            have g3 := C_radd (a := a2) (b := dd) (l := nb (A * 10 + (c.toNat - 48))) rfl hl2 hddl (by rw [hbv2, hddv])
            have G1 := Lib.hid g1
            have G2 := Lib.hid g2
            have G3 := Lib.hid g3
            have hw : IntKind.u8.wrap ((c.toNat : Int) - 48) = (c.toNat : Int) - 48 := by simp [IntKind.wrap, IntKind.bits, IntKind.signed]; omega
            clear g1 g2 g3 hdd hddl hddv hal3 hbv ha2 hl2 hbv2
            go_wp2_with fail
            have HX := Lib.hid (Ch.refl wr.drew.heap.size none1 wr.drew)
            go_region_held3 (fun _ => True)
              (first | trivial | go_keep)
              (first
              | (go_at_call 9; with_reducible refine (H10.out _).mono ?_; rintro e wq ⟨rfl, hCq⟩; have HX2 := Lib.hid (HX.out.step0 hCq (Nat.le_refl _)); clear hCq HX; have HX := HX2; clear HX2)
              | (go_at_call 8; with_reducible refine (G1.out _).mono ?_; rintro e wq ⟨rfl, hCq⟩; have HX2 := Lib.hid (HX.out.step0 hCq (Nat.le_refl _)); clear hCq HX; have HX := HX2; clear HX2)
              | (go_at_call 9; with_reducible refine (G2.out _ (by first | rfl | (simp only [IntKind.wrap, IntKind.bits, IntKind.signed]; omega) | (simp [IntKind.wrap, IntKind.bits, IntKind.signed]; omega)) _).mono ?_; rintro e wq ⟨rfl, hCq⟩; have HX2 := Lib.hid (HX.out.step0 hCq (Nat.le_refl _)); clear hCq HX; have HX := HX2; clear HX2)
              | (go_at_call 7; with_reducible refine (G3.out _).mono ?_; rintro e wq ⟨rfl, hCq⟩; have HX2 := Lib.hid (HX.out.step0 hCq (Nat.le_refl _)); clear hCq HX; have HX := HX2; clear HX2))
            all_goals go_wp2_with fail
            all_goals go_roundg (l.length - (k + 1))
            all_goals first
              | (show (_ : Nat) < _; omega)
              | exact ⟨k + 1, by omega, rfl, by go_num, by rw [HDV.out], by rw [HST.out, HA.out, HD.out]; rfl, (HC.out.drew).step0 HX.out (Nat.le_refl _)⟩
      · have hke : k = l.length := by omega
        have hfin : l.all isDig = true := by have h := HA.out; rwa [hke, List.take_length] at h
        have hft : l.take k = l := by rw [hke, List.take_length]
        have HF := Lib.hid hfin
        rw [hft]
        clear hfin hke hft
        go_wp2_with fail
        go_ret2
        obtain rfl : r = true := by rw [← HR.out]; exact HF.out
        obtain rfl : o = nb (dcv l) := HO.out.symm
        exact ⟨rfl, HC.out⟩
set_option maxHeartbeats 1600000 in
theorem rparse_nought (c : UInt8) (m : List UInt8) (w : World) (hl : (48 :: c :: m).length ≤ 999) :
    Calls Tryz.prog 17 #[S (48 :: c :: m)] w (Yld w (.tuple #[S [], .bool false])) := by
  have hg0 : ∀ h', (ByteArray.mk (48 :: c :: m).toArray)[0]'h' = 48 := fun _ => rfl
  have hb0 : (((48 : UInt8).toNat : Int) == 48) = true := rfl
  have hpos : 1 < (48 :: c :: m).length := by simp
  obtain ⟨l, hll⟩ : ∃ l, (48 : UInt8) :: c :: m = l := ⟨_, rfl⟩
  rw [hll] at hl hg0 hpos ⊢
  clear hll
  obtain ⟨b, hb⟩ : ∃ b : UInt8, 48 = b := ⟨_, rfl⟩
  rw [hb] at hg0 hb0
  clear hb
  have hz : ((l.length : Int) == 0) = false := by rw [beq_eq_false_iff_ne]; omega
  have hone : ((1 : Int) < (l.length : Int)) := by omega
  go_enter Tryz.func17, Tryz.ntmps17
  go_wp2_with fail
  go_ret2
  exact ⟨rfl, Ch.refl _ _ _⟩
theorem rparse_any (l : List UInt8) (w : World) (hl : l.length ≤ 999) :
    Calls Tryz.prog 17 #[S l] w (Yld w (.tuple #[S (if decB l then nb (dcv l) else []), .bool (decB l)])) := by
  rcases l with _ | ⟨b, m⟩
  · go_enter Tryz.func17, Tryz.ntmps17
    go_wp2_with fail
    go_ret2
    exact ⟨rfl, Ch.refl _ _ _⟩
  · by_cases hb : b = 48
    · rcases m with _ | ⟨c, m⟩
      · exact rparse_rest b [] w hl (fun _ => rfl)
      · subst hb
        have hd : decB (48 :: c :: m) = false := rfl
        rw [hd]
        exact rparse_nought c m w hl
    · exact rparse_rest b m w hl (fun h => absurd h hb)
/-- Parse of both packages answers alike. -/
theorem C_parse_both {l : List UInt8} (hl : l.length ≤ 999) : ∃ (o : List UInt8) (ok : Bool), Ans 14 #[S l] (.tuple #[S o, .bool ok]) ∧ Ans 17 #[S l] (.tuple #[S o, .bool ok]) := by
  refine ⟨if decB l then nb (dcv l) else [], decB l, fun w => ?_, fun w => rparse_any l w hl⟩
  by_cases h : decB l = true
  · rw [if_pos h, h]
    exact parse_yes l w (by omega) h
  · rw [if_neg h, Bool.eq_false_iff.2 h]
    exact parse_no l w (by omega) (Bool.eq_false_iff.2 h)
theorem C_parse_dec {n : Nat} {t l : List UInt8} (ht : Lib.decDigits n = t) (hl : nb n = l) (hn : t.length ≤ 999) : Ans 14 #[S t] (.tuple #[S l, .bool true]) := fun w => by
  have h := parse_yes t w (by omega) (by rw [← ht]; exact decB_dec n)
  rw [← ht, dcv_dec, hl, ht] at h
  exact h
end Go.Proofs.YtcghnkdfhiancaaGreatDoor
