/- The reference implementation's Pow. -/
import Derived.Test.YtcghnkdfhiancaaDoorUj
import Derived.Deep.LoopGhost
namespace Go.Proofs.YtcghnkdfhiancaaDoor
open Go.RowKit
theorem C_rquo {a b l m : List UInt8} {n k : Nat} (hl : nb n = l) (hm : nb k = m) (ha : a.length ≤ 1000) (hb : b.length ≤ 1000) (h0 : 0 < bv b) (hn : bv a / bv b = n) (hk : bv a % bv b = k) : Ans 55 #[S a, S b] (.tuple #[S l, S m, .bool true]) := fun w =>
  (rquo_any a b w ha hb h0).mono fun _ _ ⟨he, hC⟩ => ⟨by rw [he, hn, hk, hl, hm], hC⟩
theorem C_rquo_no {a b : List UInt8} (hb : b.length ≤ 1000) (h0 : bv b = 0) : Ans 55 #[S a, S b] (.tuple #[S [], S [], .bool false]) := fun w => rquo_no a b w hb h0
theorem pow_sq (X E M P : Nat) (hP : P = X ^ E % M) : P * P % M = X ^ (2 * E) % M := by
  subst hP
  rw [← Nat.mul_mod, ← Nat.pow_add]; congr 2; omega
theorem pow_sq1 (X E M P : Nat) (hP : P = X ^ (2 * E) % M) : P * (X % M) % M = X ^ (2 * E + 1) % M := by
  subst hP
  rw [← Nat.mul_mod, ← Nat.pow_succ]
theorem len_mul {a b l : List UInt8} {p q : Nat} (ha : a.length ≤ p) (hb : b.length ≤ q) (h : nb (bv a * bv b) = l) : l.length ≤ p + q := by
  rw [← h]; exact (nb_len _ _).2 (mulb (bv_b ha) (bv_b hb))
theorem bit_at (b p c : Nat) (hb : b < 256) (h : b / p % 2 = c) : bits BinOp.and IntKind.u8 ((b : Int) / (p : Int)) 1 = (c : Int) := by
  have h1 := u8_and1 (b / p) (Nat.lt_of_le_of_lt (Nat.div_le_self _ _) hb)
  rw [h, Int.natCast_ediv] at h1
  exact h1
theorem bit_at1 (b c : Nat) (hb : b < 256) (h : b % 2 = c) : bits BinOp.and IntKind.u8 (b : Int) 1 = (c : Int) := by
  have h1 := u8_and1 b hb
  rwa [h] at h1
/-- One more bit of the exponent: what Pow's round reckons. -/
theorem pow_step (X M E : Nat) (m o x : List UInt8) (hm : m.length ≤ 400) (hM : bv m = M) (h0 : 0 < M) (ho : nb (X ^ E % M) = o) (hx : nb (X % M) = x) :
    ∃ oo q1 o1 : List UInt8, Ans 22 #[S o, S o] (S oo) ∧ Ans 55 #[S oo, S m] (.tuple #[S q1, S o1, .bool true]) ∧ nb (X ^ (2 * E) % M) = o1 ∧
      ∃ ox q2 o2 : List UInt8, Ans 22 #[S o1, S x] (S ox) ∧ Ans 55 #[S ox, S m] (.tuple #[S q2, S o2, .bool true]) ∧ nb (X ^ (2 * E + 1) % M) = o2 := by
  have bm := bv_b hm
  rw [hM] at bm
  have lt1 : ∀ n, n % M < 256 ^ 400 := fun n => Nat.lt_trans (Nat.mod_lt _ h0) bm
  have vo : bv o = X ^ E % M := by rw [← ho, bv_nb]
  have vx : bv x = X % M := by rw [← hx, bv_nb]
  have lo : o.length ≤ 400 := by rw [← ho]; exact (nb_len _ _).2 (lt1 _)
  have lx : x.length ≤ 400 := by rw [← hx]; exact (nb_len _ _).2 (lt1 _)
  obtain ⟨oo, eoo, voo⟩ := has_nb (bv o * bv o)
  have loo : oo.length ≤ 400 + 400 := len_mul lo lo eoo
  obtain ⟨q1, eq1, _⟩ := has_nb (bv oo / bv m)
  obtain ⟨o1, eo1, vo1⟩ := has_nb (bv oo % bv m)
  have e1 : bv oo % bv m = X ^ (2 * E) % M := by rw [voo, hM]; exact pow_sq X E M _ vo
  have lo1 : o1.length ≤ 400 := by rw [← eo1, e1]; exact (nb_len _ _).2 (lt1 _)
  obtain ⟨ox, eox, vox⟩ := has_nb (bv o1 * bv x)
  have lox : ox.length ≤ 400 + 400 := len_mul lo1 lx eox
  obtain ⟨q2, eq2, _⟩ := has_nb (bv ox / bv m)
  obtain ⟨o2, eo2, vo2⟩ := has_nb (bv ox % bv m)
  have e2 : bv ox % bv m = X ^ (2 * E + 1) % M := by rw [vox, vx, hM]; exact pow_sq1 X E M _ (by rw [vo1, e1])
  rw [← hM] at h0
  exact ⟨oo, q1, o1, C_rmul eoo (by omega) (by omega) rfl, C_rquo eq1 eo1 (by omega) (by omega) h0 rfl rfl, by rw [← e1]; exact eo1,
    ox, q2, o2, C_rmul eox (by omega) (by omega) rfl, C_rquo eq2 eo2 (by omega) (by omega) h0 rfl rfl, by rw [← e2]; exact eo2⟩
set_option maxRecDepth 100000 in
set_option maxHeartbeats 6400000 in
theorem rpow_yes (a e m : List UInt8) (w : World) (ha : a.length ≤ 400) (he : e.length ≤ 400) (hm : m.length ≤ 400) (h0 : 0 < bv m) :
    Calls Tryd.prog 26 #[S a, S e, S m] w (Yld w (.tuple #[S (nb (bv a ^ bv e % bv m)), .bool true])) := by
  obtain ⟨X, hX⟩ : ∃ X, bv a = X := ⟨_, rfl⟩
  obtain ⟨M, hM⟩ : ∃ M, bv m = M := ⟨_, rfl⟩
  obtain ⟨x, ex, vx⟩ := has_nb (X % M)
  obtain ⟨q0, eq0, _⟩ := has_nb (X / M)
  obtain ⟨o1, eo1, vo1⟩ := has_nb (1 % M)
  obtain ⟨q1, eq1, _⟩ := has_nb (1 / M)
  have g1 := C_rquo (a := a) (b := m) eq0 ex (by omega) (by omega) h0 (by rw [hX, hM]) (by rw [hX, hM])
  have g2 : Ans 29 #[.int .i64 1] (S [1]) := fun w => (refOf_any 1 w (by decide) (by decide)).mono fun _ _ ⟨he, hC⟩ => ⟨by rw [he, nb_is [1] _ (by decide) (by decide)], hC⟩
  have g3 := C_rquo (a := [1]) (b := m) eq1 eo1 (by decide) (by omega) h0 (by rw [hM]; rfl) (by rw [hM]; rfl)
  have hst : ∀ E o, nb (X ^ E % M) = o → _ := fun E o ho => pow_step X M E m o x hm hM (by rw [← hM]; exact h0) ho ex
  rw [hX, hM]
  have hstart : nb (X ^ bv (e.take 0) % M) = o1 := by rw [List.take_zero, bv_nil, Nat.pow_zero]; exact eo1
  have G1 := Lib.hid g1
  have G2 := Lib.hid g2
  have G3 := Lib.hid g3
  have HST := Lib.hid hst
  have HSTART := Lib.hid hstart
  clear g1 g2 g3 hst hstart ex vx eq0 eo1 vo1 eq1 hX hM ha hm h0
  have HC := Lib.hid (Ch.refl w.heap.size none1 w)
  go_enter Tryd.func26, Tryd.ntmps26
  go_wp2_with (first
    | (go_at_call 55; with_reducible refine (G1.out _).mono ?_; rintro e w' ⟨rfl, hC⟩; have HC2 := Lib.hid (HC.out.trans (hC.mono HC.out.size (fun _ _ q => q))); clear hC HC; have HC := HC2; clear HC2)
    | (go_at_call 29; with_reducible refine (G2.out _).mono ?_; rintro e w' ⟨rfl, hC⟩; have HC2 := Lib.hid (HC.out.trans (hC.mono HC.out.size (fun _ _ q => q))); clear hC HC; have HC := HC2; clear HC2)
    | (go_at_call 55; with_reducible refine (G3.out _).mono ?_; rintro e w' ⟨rfl, hC⟩; have HC2 := Lib.hid (HC.out.trans (hC.mono HC.out.size (fun _ _ q => q))); clear hC HC; have HC := HC2; clear HC2))
  rw [← HSTART.out]
  go_loopg [12, 14] (e.length) (fun gh o i wr => ∃ k : Nat, k ≤ e.length ∧ gh = e.length - k ∧ i = I k ∧ o = S (nb (X ^ bv (e.take k) % M)) ∧ Ch w.heap.size none1 w wr)
  case atStart => exact ⟨0, Nat.zero_le _, rfl, rfl, rfl, HC.out⟩
  case round =>
    clear HC HSTART
    obtain ⟨k, hk, rfl, rfl, rfl, hC⟩ := hrel
    have HC := Lib.hid hC
    clear hC
    by_cases hlt : k < e.length
    · have hsn : bv (e.take (k + 1)) = bv (e.take k) * 256 + e[k].toNat := by rw [List.take_succ_eq_append_getElem hlt, bv_snoc]
      obtain ⟨b, hb⟩ : ∃ b, e[k] = b := ⟨_, rfl⟩
      rw [hb] at hsn
      have hbb := u8_lt b
      have hg : ∀ h', (ByteArray.mk e.toArray)[k]'h' = b := fun _ => hb
      obtain ⟨E0, hE0⟩ : ∃ E0, bv (e.take k) = E0 := ⟨_, rfl⟩
      rw [hE0] at hsn ⊢
      have HSN := Lib.hid hsn
      clear hsn hb hE0
      go_wp2_with fail
      go_loopg [12, 15] 8 (fun gh o i wi => ∃ j : Nat, j ≤ 8 ∧ gh = j + 0 ∧ i = .int .i64 ((j : Int) - 1) ∧ o = S (nb (X ^ (E0 * 2 ^ (8 - j) + b.toNat / 2 ^ j) % M)) ∧ Ch w.heap.size none1 w wi)
      case atStart => exact ⟨8, Nat.le_refl _, rfl, rfl, by rw [Nat.sub_self, Nat.pow_zero, Nat.mul_one, Nat.div_eq_of_lt hbb, Nat.add_zero], HC.out⟩
      case round =>
        clear HC
        obtain ⟨j, hj, hgh, rfl, rfl, hC⟩ := hrel
        have HC := Lib.hid hC
        clear hC
        rcases j with _ | j
        · have hfin : E0 * 2 ^ (8 - 0) + b.toNat / 2 ^ 0 = bv (e.take (k + 1)) := by rw [HSN.out]; simp
          rw [hfin]
          clear hfin
          go_wp2_with fail
          go_roundg (e.length - (k + 1))
          case measure => omega
          case rel => exact ⟨k + 1, by omega, rfl, by go_num, rfl, HC.out⟩
        · have hE : E0 * 2 ^ (8 - j) + b.toNat / 2 ^ j = 2 * (E0 * 2 ^ (8 - (j + 1)) + b.toNat / 2 ^ (j + 1)) + b.toNat / 2 ^ j % 2 := by
            rw [show 8 - j = (8 - (j + 1)) + 1 from by omega, Nat.pow_succ, Nat.pow_succ, ← Nat.div_div_eq_div_mul]
            have := Nat.mod_add_div (b.toNat / 2 ^ j) 2
            rw [Nat.mul_add, ← Nat.mul_assoc E0, Nat.mul_comm _ 2]
            omega
          obtain ⟨E1, hE1⟩ : ∃ E1, E0 * 2 ^ (8 - (j + 1)) + b.toNat / 2 ^ (j + 1) = E1 := ⟨_, rfl⟩
          obtain ⟨o, ho⟩ : ∃ o, nb (X ^ E1 % M) = o := ⟨_, rfl⟩
          rw [hE1] at hE ⊢
          rw [ho]
          obtain ⟨oo, p1, r1, f1, f2, f3, ox, p2, r2, f4, f5, f6⟩ := HST.out E1 o ho
          have F1 := Lib.hid f1
          have F2 := Lib.hid f2
          have F3 := Lib.hid f3
          have F4 := Lib.hid f4
          have F5 := Lib.hid f5
          have F6 := Lib.hid f6
          have HE := Lib.hid hE
          clear f1 f2 f3 f4 f5 f6 hE1 ho hE
          have hj8 : j = 0 ∨ j = 1 ∨ j = 2 ∨ j = 3 ∨ j = 4 ∨ j = 5 ∨ j = 6 ∨ j = 7 := by omega
          by_cases hbit : b.toNat / 2 ^ j % 2 = 1
          · have hfin : nb (X ^ (E0 * 2 ^ (8 - j) + b.toNat / 2 ^ j) % M) = r2 := by rw [HE.out, hbit]; exact F6.out
            have HFIN := Lib.hid hfin
            clear hfin
            rcases hj8 with rfl | rfl | rfl | rfl | rfl | rfl | rfl | rfl
            · have hband : bits BinOp.and IntKind.u8 (b.toNat : Int) 1 = 1 := bit_at1 b.toNat 1 hbb (by simpa using hbit)
              clear hbit
              go_wp2_with (first
                | (go_at_call 22; with_reducible refine (F1.out _).mono ?_; rintro e w' ⟨rfl, hC⟩; have HC2 := Lib.hid (HC.out.trans (hC.mono HC.out.size (fun _ _ q => q))); clear hC HC; have HC := HC2; clear HC2)
                | (go_at_call 55; with_reducible refine (F2.out _).mono ?_; rintro e w' ⟨rfl, hC⟩; have HC2 := Lib.hid (HC.out.trans (hC.mono HC.out.size (fun _ _ q => q))); clear hC HC; have HC := HC2; clear HC2)
                | (go_at_call 22; with_reducible refine (F4.out _).mono ?_; rintro e w' ⟨rfl, hC⟩; have HC2 := Lib.hid (HC.out.trans (hC.mono HC.out.size (fun _ _ q => q))); clear hC HC; have HC := HC2; clear HC2)
                | (go_at_call 55; with_reducible refine (F5.out _).mono ?_; rintro e w' ⟨rfl, hC⟩; have HC2 := Lib.hid (HC.out.trans (hC.mono HC.out.size (fun _ _ q => q))); clear hC HC; have HC := HC2; clear HC2))
              go_roundg 0
              case measure => omega
              case rel => exact ⟨0, by omega, rfl, rfl, by rw [HFIN.out], HC.out⟩
            · have hband : bits BinOp.and IntKind.u8 ((b.toNat : Int) / 2) 1 = 1 := bit_at b.toNat 2 1 hbb hbit
              clear hbit
              go_wp2_with (first
                | (go_at_call 22; with_reducible refine (F1.out _).mono ?_; rintro e w' ⟨rfl, hC⟩; have HC2 := Lib.hid (HC.out.trans (hC.mono HC.out.size (fun _ _ q => q))); clear hC HC; have HC := HC2; clear HC2)
                | (go_at_call 55; with_reducible refine (F2.out _).mono ?_; rintro e w' ⟨rfl, hC⟩; have HC2 := Lib.hid (HC.out.trans (hC.mono HC.out.size (fun _ _ q => q))); clear hC HC; have HC := HC2; clear HC2)
                | (go_at_call 22; with_reducible refine (F4.out _).mono ?_; rintro e w' ⟨rfl, hC⟩; have HC2 := Lib.hid (HC.out.trans (hC.mono HC.out.size (fun _ _ q => q))); clear hC HC; have HC := HC2; clear HC2)
                | (go_at_call 55; with_reducible refine (F5.out _).mono ?_; rintro e w' ⟨rfl, hC⟩; have HC2 := Lib.hid (HC.out.trans (hC.mono HC.out.size (fun _ _ q => q))); clear hC HC; have HC := HC2; clear HC2))
              go_roundg 1
              case measure => omega
              case rel => exact ⟨1, by omega, rfl, rfl, by rw [HFIN.out], HC.out⟩
            · have hband : bits BinOp.and IntKind.u8 ((b.toNat : Int) / 4) 1 = 1 := bit_at b.toNat 4 1 hbb hbit
              clear hbit
              go_wp2_with (first
                | (go_at_call 22; with_reducible refine (F1.out _).mono ?_; rintro e w' ⟨rfl, hC⟩; have HC2 := Lib.hid (HC.out.trans (hC.mono HC.out.size (fun _ _ q => q))); clear hC HC; have HC := HC2; clear HC2)
                | (go_at_call 55; with_reducible refine (F2.out _).mono ?_; rintro e w' ⟨rfl, hC⟩; have HC2 := Lib.hid (HC.out.trans (hC.mono HC.out.size (fun _ _ q => q))); clear hC HC; have HC := HC2; clear HC2)
                | (go_at_call 22; with_reducible refine (F4.out _).mono ?_; rintro e w' ⟨rfl, hC⟩; have HC2 := Lib.hid (HC.out.trans (hC.mono HC.out.size (fun _ _ q => q))); clear hC HC; have HC := HC2; clear HC2)
                | (go_at_call 55; with_reducible refine (F5.out _).mono ?_; rintro e w' ⟨rfl, hC⟩; have HC2 := Lib.hid (HC.out.trans (hC.mono HC.out.size (fun _ _ q => q))); clear hC HC; have HC := HC2; clear HC2))
              go_roundg 2
              case measure => omega
              case rel => exact ⟨2, by omega, rfl, rfl, by rw [HFIN.out], HC.out⟩
            · have hband : bits BinOp.and IntKind.u8 ((b.toNat : Int) / 8) 1 = 1 := bit_at b.toNat 8 1 hbb hbit
              clear hbit
              go_wp2_with (first
                | (go_at_call 22; with_reducible refine (F1.out _).mono ?_; rintro e w' ⟨rfl, hC⟩; have HC2 := Lib.hid (HC.out.trans (hC.mono HC.out.size (fun _ _ q => q))); clear hC HC; have HC := HC2; clear HC2)
                | (go_at_call 55; with_reducible refine (F2.out _).mono ?_; rintro e w' ⟨rfl, hC⟩; have HC2 := Lib.hid (HC.out.trans (hC.mono HC.out.size (fun _ _ q => q))); clear hC HC; have HC := HC2; clear HC2)
                | (go_at_call 22; with_reducible refine (F4.out _).mono ?_; rintro e w' ⟨rfl, hC⟩; have HC2 := Lib.hid (HC.out.trans (hC.mono HC.out.size (fun _ _ q => q))); clear hC HC; have HC := HC2; clear HC2)
                | (go_at_call 55; with_reducible refine (F5.out _).mono ?_; rintro e w' ⟨rfl, hC⟩; have HC2 := Lib.hid (HC.out.trans (hC.mono HC.out.size (fun _ _ q => q))); clear hC HC; have HC := HC2; clear HC2))
              go_roundg 3
              case measure => omega
              case rel => exact ⟨3, by omega, rfl, rfl, by rw [HFIN.out], HC.out⟩
            · have hband : bits BinOp.and IntKind.u8 ((b.toNat : Int) / 16) 1 = 1 := bit_at b.toNat 16 1 hbb hbit
              clear hbit
              go_wp2_with (first
                | (go_at_call 22; with_reducible refine (F1.out _).mono ?_; rintro e w' ⟨rfl, hC⟩; have HC2 := Lib.hid (HC.out.trans (hC.mono HC.out.size (fun _ _ q => q))); clear hC HC; have HC := HC2; clear HC2)
                | (go_at_call 55; with_reducible refine (F2.out _).mono ?_; rintro e w' ⟨rfl, hC⟩; have HC2 := Lib.hid (HC.out.trans (hC.mono HC.out.size (fun _ _ q => q))); clear hC HC; have HC := HC2; clear HC2)
                | (go_at_call 22; with_reducible refine (F4.out _).mono ?_; rintro e w' ⟨rfl, hC⟩; have HC2 := Lib.hid (HC.out.trans (hC.mono HC.out.size (fun _ _ q => q))); clear hC HC; have HC := HC2; clear HC2)
                | (go_at_call 55; with_reducible refine (F5.out _).mono ?_; rintro e w' ⟨rfl, hC⟩; have HC2 := Lib.hid (HC.out.trans (hC.mono HC.out.size (fun _ _ q => q))); clear hC HC; have HC := HC2; clear HC2))
              go_roundg 4
              case measure => omega
              case rel => exact ⟨4, by omega, rfl, rfl, by rw [HFIN.out], HC.out⟩
            · have hband : bits BinOp.and IntKind.u8 ((b.toNat : Int) / 32) 1 = 1 := bit_at b.toNat 32 1 hbb hbit
              clear hbit
              go_wp2_with (first
                | (go_at_call 22; with_reducible refine (F1.out _).mono ?_; rintro e w' ⟨rfl, hC⟩; have HC2 := Lib.hid (HC.out.trans (hC.mono HC.out.size (fun _ _ q => q))); clear hC HC; have HC := HC2; clear HC2)
                | (go_at_call 55; with_reducible refine (F2.out _).mono ?_; rintro e w' ⟨rfl, hC⟩; have HC2 := Lib.hid (HC.out.trans (hC.mono HC.out.size (fun _ _ q => q))); clear hC HC; have HC := HC2; clear HC2)
                | (go_at_call 22; with_reducible refine (F4.out _).mono ?_; rintro e w' ⟨rfl, hC⟩; have HC2 := Lib.hid (HC.out.trans (hC.mono HC.out.size (fun _ _ q => q))); clear hC HC; have HC := HC2; clear HC2)
                | (go_at_call 55; with_reducible refine (F5.out _).mono ?_; rintro e w' ⟨rfl, hC⟩; have HC2 := Lib.hid (HC.out.trans (hC.mono HC.out.size (fun _ _ q => q))); clear hC HC; have HC := HC2; clear HC2))
              go_roundg 5
              case measure => omega
              case rel => exact ⟨5, by omega, rfl, rfl, by rw [HFIN.out], HC.out⟩
            · have hband : bits BinOp.and IntKind.u8 ((b.toNat : Int) / 64) 1 = 1 := bit_at b.toNat 64 1 hbb hbit
              clear hbit
              go_wp2_with (first
                | (go_at_call 22; with_reducible refine (F1.out _).mono ?_; rintro e w' ⟨rfl, hC⟩; have HC2 := Lib.hid (HC.out.trans (hC.mono HC.out.size (fun _ _ q => q))); clear hC HC; have HC := HC2; clear HC2)
                | (go_at_call 55; with_reducible refine (F2.out _).mono ?_; rintro e w' ⟨rfl, hC⟩; have HC2 := Lib.hid (HC.out.trans (hC.mono HC.out.size (fun _ _ q => q))); clear hC HC; have HC := HC2; clear HC2)
                | (go_at_call 22; with_reducible refine (F4.out _).mono ?_; rintro e w' ⟨rfl, hC⟩; have HC2 := Lib.hid (HC.out.trans (hC.mono HC.out.size (fun _ _ q => q))); clear hC HC; have HC := HC2; clear HC2)
                | (go_at_call 55; with_reducible refine (F5.out _).mono ?_; rintro e w' ⟨rfl, hC⟩; have HC2 := Lib.hid (HC.out.trans (hC.mono HC.out.size (fun _ _ q => q))); clear hC HC; have HC := HC2; clear HC2))
              go_roundg 6
              case measure => omega
              case rel => exact ⟨6, by omega, rfl, rfl, by rw [HFIN.out], HC.out⟩
            · have hband : bits BinOp.and IntKind.u8 ((b.toNat : Int) / 128) 1 = 1 := bit_at b.toNat 128 1 hbb hbit
              clear hbit
              go_wp2_with (first
                | (go_at_call 22; with_reducible refine (F1.out _).mono ?_; rintro e w' ⟨rfl, hC⟩; have HC2 := Lib.hid (HC.out.trans (hC.mono HC.out.size (fun _ _ q => q))); clear hC HC; have HC := HC2; clear HC2)
                | (go_at_call 55; with_reducible refine (F2.out _).mono ?_; rintro e w' ⟨rfl, hC⟩; have HC2 := Lib.hid (HC.out.trans (hC.mono HC.out.size (fun _ _ q => q))); clear hC HC; have HC := HC2; clear HC2)
                | (go_at_call 22; with_reducible refine (F4.out _).mono ?_; rintro e w' ⟨rfl, hC⟩; have HC2 := Lib.hid (HC.out.trans (hC.mono HC.out.size (fun _ _ q => q))); clear hC HC; have HC := HC2; clear HC2)
                | (go_at_call 55; with_reducible refine (F5.out _).mono ?_; rintro e w' ⟨rfl, hC⟩; have HC2 := Lib.hid (HC.out.trans (hC.mono HC.out.size (fun _ _ q => q))); clear hC HC; have HC := HC2; clear HC2))
              go_roundg 7
              case measure => omega
              case rel => exact ⟨7, by omega, rfl, rfl, by rw [HFIN.out], HC.out⟩
          · have hbit0 : b.toNat / 2 ^ j % 2 = 0 := by omega
            have hfin : nb (X ^ (E0 * 2 ^ (8 - j) + b.toNat / 2 ^ j) % M) = r1 := by rw [HE.out, hbit0]; exact F3.out
            clear hbit
            have hbit := hbit0
            clear hbit0
            have HFIN := Lib.hid hfin
            clear hfin
            rcases hj8 with rfl | rfl | rfl | rfl | rfl | rfl | rfl | rfl
            · have hband : bits BinOp.and IntKind.u8 (b.toNat : Int) 1 = 0 := bit_at1 b.toNat 0 hbb (by simpa using hbit)
              clear hbit
              go_wp2_with (first
                | (go_at_call 22; with_reducible refine (F1.out _).mono ?_; rintro e w' ⟨rfl, hC⟩; have HC2 := Lib.hid (HC.out.trans (hC.mono HC.out.size (fun _ _ q => q))); clear hC HC; have HC := HC2; clear HC2)
                | (go_at_call 55; with_reducible refine (F2.out _).mono ?_; rintro e w' ⟨rfl, hC⟩; have HC2 := Lib.hid (HC.out.trans (hC.mono HC.out.size (fun _ _ q => q))); clear hC HC; have HC := HC2; clear HC2))
              go_roundg 0
              case measure => omega
              case rel => exact ⟨0, by omega, rfl, rfl, by rw [HFIN.out], HC.out⟩
            · have hband : bits BinOp.and IntKind.u8 ((b.toNat : Int) / 2) 1 = 0 := bit_at b.toNat 2 0 hbb hbit
              clear hbit
              go_wp2_with (first
                | (go_at_call 22; with_reducible refine (F1.out _).mono ?_; rintro e w' ⟨rfl, hC⟩; have HC2 := Lib.hid (HC.out.trans (hC.mono HC.out.size (fun _ _ q => q))); clear hC HC; have HC := HC2; clear HC2)
                | (go_at_call 55; with_reducible refine (F2.out _).mono ?_; rintro e w' ⟨rfl, hC⟩; have HC2 := Lib.hid (HC.out.trans (hC.mono HC.out.size (fun _ _ q => q))); clear hC HC; have HC := HC2; clear HC2))
              go_roundg 1
              case measure => omega
              case rel => exact ⟨1, by omega, rfl, rfl, by rw [HFIN.out], HC.out⟩
            · have hband : bits BinOp.and IntKind.u8 ((b.toNat : Int) / 4) 1 = 0 := bit_at b.toNat 4 0 hbb hbit
              clear hbit
              go_wp2_with (first
                | (go_at_call 22; with_reducible refine (F1.out _).mono ?_; rintro e w' ⟨rfl, hC⟩; have HC2 := Lib.hid (HC.out.trans (hC.mono HC.out.size (fun _ _ q => q))); clear hC HC; have HC := HC2; clear HC2)
                | (go_at_call 55; with_reducible refine (F2.out _).mono ?_; rintro e w' ⟨rfl, hC⟩; have HC2 := Lib.hid (HC.out.trans (hC.mono HC.out.size (fun _ _ q => q))); clear hC HC; have HC := HC2; clear HC2))
              go_roundg 2
              case measure => omega
              case rel => exact ⟨2, by omega, rfl, rfl, by rw [HFIN.out], HC.out⟩
            · have hband : bits BinOp.and IntKind.u8 ((b.toNat : Int) / 8) 1 = 0 := bit_at b.toNat 8 0 hbb hbit
              clear hbit
              go_wp2_with (first
                | (go_at_call 22; with_reducible refine (F1.out _).mono ?_; rintro e w' ⟨rfl, hC⟩; have HC2 := Lib.hid (HC.out.trans (hC.mono HC.out.size (fun _ _ q => q))); clear hC HC; have HC := HC2; clear HC2)
                | (go_at_call 55; with_reducible refine (F2.out _).mono ?_; rintro e w' ⟨rfl, hC⟩; have HC2 := Lib.hid (HC.out.trans (hC.mono HC.out.size (fun _ _ q => q))); clear hC HC; have HC := HC2; clear HC2))
              go_roundg 3
              case measure => omega
              case rel => exact ⟨3, by omega, rfl, rfl, by rw [HFIN.out], HC.out⟩
            · have hband : bits BinOp.and IntKind.u8 ((b.toNat : Int) / 16) 1 = 0 := bit_at b.toNat 16 0 hbb hbit
              clear hbit
              go_wp2_with (first
                | (go_at_call 22; with_reducible refine (F1.out _).mono ?_; rintro e w' ⟨rfl, hC⟩; have HC2 := Lib.hid (HC.out.trans (hC.mono HC.out.size (fun _ _ q => q))); clear hC HC; have HC := HC2; clear HC2)
                | (go_at_call 55; with_reducible refine (F2.out _).mono ?_; rintro e w' ⟨rfl, hC⟩; have HC2 := Lib.hid (HC.out.trans (hC.mono HC.out.size (fun _ _ q => q))); clear hC HC; have HC := HC2; clear HC2))
              go_roundg 4
              case measure => omega
              case rel => exact ⟨4, by omega, rfl, rfl, by rw [HFIN.out], HC.out⟩
            · have hband : bits BinOp.and IntKind.u8 ((b.toNat : Int) / 32) 1 = 0 := bit_at b.toNat 32 0 hbb hbit
              clear hbit
              go_wp2_with (first
                | (go_at_call 22; with_reducible refine (F1.out _).mono ?_; rintro e w' ⟨rfl, hC⟩; have HC2 := Lib.hid (HC.out.trans (hC.mono HC.out.size (fun _ _ q => q))); clear hC HC; have HC := HC2; clear HC2)
                | (go_at_call 55; with_reducible refine (F2.out _).mono ?_; rintro e w' ⟨rfl, hC⟩; have HC2 := Lib.hid (HC.out.trans (hC.mono HC.out.size (fun _ _ q => q))); clear hC HC; have HC := HC2; clear HC2))
              go_roundg 5
              case measure => omega
              case rel => exact ⟨5, by omega, rfl, rfl, by rw [HFIN.out], HC.out⟩
            · have hband : bits BinOp.and IntKind.u8 ((b.toNat : Int) / 64) 1 = 0 := bit_at b.toNat 64 0 hbb hbit
              clear hbit
              go_wp2_with (first
                | (go_at_call 22; with_reducible refine (F1.out _).mono ?_; rintro e w' ⟨rfl, hC⟩; have HC2 := Lib.hid (HC.out.trans (hC.mono HC.out.size (fun _ _ q => q))); clear hC HC; have HC := HC2; clear HC2)
                | (go_at_call 55; with_reducible refine (F2.out _).mono ?_; rintro e w' ⟨rfl, hC⟩; have HC2 := Lib.hid (HC.out.trans (hC.mono HC.out.size (fun _ _ q => q))); clear hC HC; have HC := HC2; clear HC2))
              go_roundg 6
              case measure => omega
              case rel => exact ⟨6, by omega, rfl, rfl, by rw [HFIN.out], HC.out⟩
            · have hband : bits BinOp.and IntKind.u8 ((b.toNat : Int) / 128) 1 = 0 := bit_at b.toNat 128 0 hbb hbit
              clear hbit
              go_wp2_with (first
                | (go_at_call 22; with_reducible refine (F1.out _).mono ?_; rintro e w' ⟨rfl, hC⟩; have HC2 := Lib.hid (HC.out.trans (hC.mono HC.out.size (fun _ _ q => q))); clear hC HC; have HC := HC2; clear HC2)
                | (go_at_call 55; with_reducible refine (F2.out _).mono ?_; rintro e w' ⟨rfl, hC⟩; have HC2 := Lib.hid (HC.out.trans (hC.mono HC.out.size (fun _ _ q => q))); clear hC HC; have HC := HC2; clear HC2))
              go_roundg 7
              case measure => omega
              case rel => exact ⟨7, by omega, rfl, rfl, by rw [HFIN.out], HC.out⟩
    · obtain rfl : k = e.length := by omega
      rw [List.take_length]
      go_wp2_with fail
      go_ret2
      exact ⟨rfl, HC.out⟩
end Go.Proofs.YtcghnkdfhiancaaDoor
