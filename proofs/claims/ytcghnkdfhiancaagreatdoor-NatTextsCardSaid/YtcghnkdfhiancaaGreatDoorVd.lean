/- Parse of both packages; the reference implementation's Text. -/
import Derived.Test.YtcghnkdfhiancaaGreatDoorVc
import Derived.Test.YtcghnkdfhiancaaGreatDoorUj
namespace Go.Proofs.YtcghnkdfhiancaaGreatDoor
open Go.RowKit
theorem parse_yes (l : List UInt8) (w : World) (hl : l.length ≤ 1000000) (hd : decB l = true) :
    Calls Tryz.prog 14 #[S l] w (Yld w (.tuple #[S (nb (dcv l)), .bool true])) := by
  have h1 := fun w => isDecimal_any l w (by omega)
  rw [hd] at h1
  have hall := decB_all hd
  have hdl := ds_dec_len hall
  have h2 := fun w => digitsOfDecimal_any l w hl hall
  have H1 := Lib.hid h1
  have H2 := Lib.hid h2
  clear h1 h2 hd hall
  go_enter Tryz.func14, Tryz.ntmps14
  go_wp2_with fail
  refine (H1.out _).mono ?_
  rintro e w' ⟨rfl, rfl⟩
  go_wp2_with fail
  refine (H2.out _).mono ?_
  rintro e w2 ⟨v, rfl, hown, hC⟩
  obtain ⟨p, cap, rfl, hd, _, _, _⟩ := hown.dg
  clear hown
  go_wp2_with fail
  refine (natural_any p _ cap _ _ hd (by omega)).mono ?_
  rintro e w3 ⟨rfl, hC2⟩
  go_wp2_with fail
  go_ret2
  exact ⟨by rw [dv_ds]; rfl, hC.step0 hC2 (Nat.le_refl _)⟩
theorem parse_no (l : List UInt8) (w : World) (hl : l.length ≤ 1000000) (hd : decB l = false) :
    Calls Tryz.prog 14 #[S l] w (Yld w (.tuple #[S [], .bool false])) := by
  have h1 := fun w => isDecimal_any l w (by omega)
  rw [hd] at h1
  have H1 := Lib.hid h1
  clear h1 hd
  go_enter Tryz.func14, Tryz.ntmps14
  go_wp2_with fail
  refine (H1.out _).mono ?_
  rintro e w' ⟨rfl, rfl⟩
  go_wp2_with fail
  go_ret2
  exact ⟨rfl, Ch.refl _ _ _⟩
theorem cat1 (b : UInt8) (t : List UInt8) : (ByteArray.mk [b].toArray) ++ (ByteArray.mk t.toArray) = ⟨(b :: t).toArray⟩ := by
  apply ByteArray.ext
  simp [ByteArray.data_append]
theorem conv1 (W : World) (b : UInt8) : (convert 22 9 (.slice (some ⟨W.heap.size, 0, none⟩) 1 1)).run Tryz.prog (W.alloc (.cells #[Y b] 5 (0, 0))) = .ok (S [b]) (W.alloc (.cells #[Y b] 5 (0, 0))) :=
  run_convert_blk _ _ _ 5 Tryz.underlying22 Tryz.underlying5 Tryz.underlying9 _ 0 1 1 [b] 5 [Y b] (Blk.new W #[Y b] _) rfl (fun i hi => by
    obtain rfl : i = 0 := by simp at hi; omega
    rfl)
theorem dec_round (M : Nat) (t : List UInt8) (h : 0 < M) : (if M / 10 = 0 then UInt8.ofNat (48 + M % 10) :: t else Lib.decDigits (M / 10) ++ UInt8.ofNat (48 + M % 10) :: t) = Lib.decDigits M ++ t := by
  by_cases h1 : M < 10
  · rw [if_pos (by omega), dec_lt h1, Nat.mod_eq_of_lt h1]; rfl
  · rw [if_neg (by omega), dec_ge h1, List.append_assoc]; rfl
theorem dec_len (k : Nat) : ∀ n, n < 10 ^ (k + 1) → (Lib.decDigits n).length ≤ k + 1 := by
  induction k with
  | zero => intro n h; rw [dec_lt (by simpa using h)]; simp
  | succ k ih =>
    intro n h
    by_cases h1 : n < 10
    · rw [dec_lt h1]; simp
    · rw [dec_ge h1, List.length_append]
      have := ih (n / 10) (by rw [Nat.div_lt_iff_lt_mul (by omega)]; rw [Nat.pow_succ] at h; exact h)
      simp only [List.length_cons, List.length_nil]
      omega
theorem dec_bytes (x : List UInt8) : (Lib.decDigits (bv x)).length ≤ 3 * x.length + 1 := by
  apply dec_len
  have h1 := bv_lt x
  have h2 : 256 ^ x.length ≤ 1000 ^ x.length := Nat.pow_le_pow_left (by omega) _
  have h3 : 10 ^ (3 * x.length) = 1000 ^ x.length := by rw [Nat.pow_mul]
  rw [Nat.pow_succ]
  omega
set_option maxRecDepth 100000 in
set_option maxHeartbeats 1600000 in
theorem refText_any (x : List UInt8) (w : World) (hx : x.length ≤ 1000) :
    Calls Tryz.prog 15 #[S x] w (Yld w (S (Lib.decDigits (bv x)))) := by
  have h1 : Ans 16 #[S x] (S (nb (bv x))) := C_canon rfl (by omega) rfl
  have h2 : Ans 9 #[.int .i64 10] (S [10]) := fun w => (refOf_any 10 w (by decide) (by decide)).mono fun _ _ ⟨he, hC⟩ => ⟨by rw [he, nb_is [10] _ (by decide) (by decide)], hC⟩
  have hlen : ∀ M, M ≤ bv x → (nb M).length ≤ 1000 := fun M hM => Nat.le_trans ((nb_len M x.length).2 (Nat.lt_of_le_of_lt hM (bv_lt x))) hx
  have h3 : ∀ M, M ≤ bv x → Ans 12 #[S (nb M), S [10]] (.tuple #[S (nb (M / 10)), S (nb (M % 10)), .bool true]) := fun M hM w =>
    (rquo_any (nb M) [10] w (hlen M hM) (by decide) (by decide)).mono fun _ _ ⟨he, hC⟩ => ⟨by rw [he, bv_nb]; rfl, hC⟩
  have h4 : ∀ M, Ans 42 #[S (nb (M % 10))] (.tuple #[.int .i64 ((M % 10 : Nat) : Int), .bool true]) := fun M w =>
    (refInt_yes (nb (M % 10)) w (Nat.le_trans ((nb_len (M % 10) 1).2 (by omega)) (by decide)) (by rw [bv_nb]; omega)).mono fun _ _ ⟨he, hC⟩ => ⟨by rw [he, bv_nb], ch_same hC⟩
  have H1 := Lib.hid h1
  have H2 := Lib.hid h2
  have H3 := Lib.hid h3
  have H4 := Lib.hid h4
  have hdl : (Lib.decDigits (bv x)).length ≤ 3001 := Nat.le_trans (dec_bytes x) (by omega)
  clear h1 h2 h3 h4 hlen hx
  obtain ⟨A, hA⟩ : ∃ A, bv x = A := ⟨_, rfl⟩
  rw [hA] at H1 H3 hdl ⊢
  clear hA
  have HC := Lib.hid (Ch.refl w.heap.size none1 w)
  go_enter Tryz.func15, Tryz.ntmps15
  go_wp2_with fail
  refine (H1.out _).mono ?_
  rintro e w1 ⟨rfl, hC1⟩
  rcases Nat.eq_zero_or_pos A with h0 | hpos
  · subst h0
    rw [nb_zero]
    go_wp2_with fail
    go_ret
    exact ⟨by rw [dec_lt (by omega)]; rfl, hC1⟩
  · have hl0 : 0 < (nb A).length := by
      rcases Nat.eq_zero_or_pos (nb A).length with h | h
      · have := (nb_len A 0).1 (by omega); simp at this; omega
      · exact h
    have HC1 := Lib.hid hC1
    clear hC1 HC
    obtain ⟨a, ha⟩ : ∃ a, nb A = a := ⟨_, rfl⟩
    rw [ha] at hl0 ⊢
    have HA := Lib.hid ha
    clear ha
    have hz : ((a.length : Int) == 0) = false := by rw [beq_eq_false_iff_ne]; omega
    go_wp2_with fail
    go_loopg [0, 3] A (fun gh s t wr => ∃ (M : Nat) (u : List UInt8), M ≤ A ∧ gh = M + 0 ∧ s = S (nb M) ∧ t = S u ∧ (if M = 0 then u else Lib.decDigits M ++ u) = Lib.decDigits A ∧ Ch w.heap.size none1 w wr)
    case atStart => exact ⟨A, [], Nat.le_refl _, rfl, by rw [HA.out], rfl, by rw [if_neg (by omega), List.append_nil], HC1.out⟩
    case round =>
      obtain ⟨M, u, hM, hgh, rfl, rfl, hu, hC⟩ := hrel
      have HU := Lib.hid hu
      have HC := Lib.hid hC
      clear hu hC HC1
      rcases Nat.eq_zero_or_pos M with h0 | hMp
      · subst h0
        rw [nb_zero]
        have hf := HU.out
        rw [if_pos rfl] at hf
        have HF := Lib.hid hf
        clear hf
        go_wp2_with fail
        go_ret
        exact ⟨by rw [← HF.out]; rfl, HC.out⟩
      · have hl1 : 0 < (nb M).length := by
          rcases Nat.eq_zero_or_pos (nb M).length with h | h
          · have := (nb_len M 0).1 (by omega); simp at this; omega
          · exact h
        have g3 := H3.out M hM
        have g4 := H4.out M
        have hr := dec_round M u hMp
        have hmod : M % 10 < 10 := Nat.mod_lt _ (by omega)
        have hbt := dig_toNat hmod
        obtain ⟨b, hb⟩ : ∃ b, UInt8.ofNat (48 + M % 10) = b := ⟨_, rfl⟩
        rw [hb] at hr hbt
        have hu2 := HU.out
        rw [if_neg (by omega)] at hu2
        have hul : u.length ≤ 3001 := by have h := congrArg List.length hu2; rw [List.length_append] at h; omega
        rw [hu2] at hr
        have HR := Lib.hid hr
        obtain ⟨q, hq⟩ : ∃ q, M / 10 = q := ⟨_, rfl⟩
        have hql : q < M := by omega
        rw [hq] at g3 HR
        obtain ⟨d, hdd⟩ : ∃ d, M % 10 = d := ⟨_, rfl⟩
        rw [hdd] at g3 g4 hmod hbt
        have hbv : (48 + (d : Int)) = (b.toNat : Int) := by omega
        obtain ⟨m, hm⟩ : ∃ m, nb M = m := ⟨_, rfl⟩
        rw [hm] at hl1 g3 ⊢
        obtain ⟨c, hc⟩ : ∃ c, nb d = c := ⟨_, rfl⟩
        rw [hc] at g3 g4
        obtain ⟨qs, hqs⟩ : ∃ qs, nb q = qs := ⟨_, rfl⟩
        rw [hqs] at g3
        have hcv := fun W => conv1 W b
        have G3 := Lib.hid g3
        have G4 := Lib.hid g4
        have HQS := Lib.hid hqs
        have hbl : b.toNat ≤ 57 := by omega
        clear g3 g4 hqs hc hm hdd hq hu2 hr hb hbt hmod
        go_wp2_with (first
          | (go_at_call 9; with_reducible refine (H2.out _).mono ?_; rintro e w' ⟨rfl, hC⟩; have HC2 := Lib.hid (HC.out.trans (hC.mono HC.out.size (fun _ _ q => q))); clear hC HC; have HC := HC2; clear HC2)
          | (go_at_call 12; with_reducible refine (G3.out _).mono ?_; rintro e w' ⟨rfl, hC⟩; have HC2 := Lib.hid (HC.out.trans (hC.mono HC.out.size (fun _ _ q => q))); clear hC HC; have HC := HC2; clear HC2)
          | (go_at_call 42; with_reducible refine (G4.out _).mono ?_; rintro e w' ⟨rfl, hC⟩; have HC2 := Lib.hid (HC.out.trans (hC.mono HC.out.size (fun _ _ q => q))); clear hC HC; have HC := HC2; clear HC2))
        go_roundg (q + 0)
        case measure => omega
        case rel => exact ⟨q, b :: u, by omega, rfl, by rw [HQS.out], by rw [cat1], HR.out, (HC.out.alloc HC.out.size _)⟩
end Go.Proofs.YtcghnkdfhiancaaGreatDoor
