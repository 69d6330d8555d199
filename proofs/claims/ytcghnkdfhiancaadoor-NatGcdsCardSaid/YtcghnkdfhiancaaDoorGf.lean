/- The reference implementation's Gcd. -/
import Derived.Test.YtcghnkdfhiancaaDoorGe
import Derived.Test.YtcghnkdfhiancaaDoorUp
namespace Go.Proofs.YtcghnkdfhiancaaDoor
open Go.RowKit
theorem len_room (K : Nat) : ∃ M, ∀ n, n < M ↔ (nb n).length ≤ K := ⟨256 ^ K, fun n => (nb_len n K).symm⟩
theorem gcd_lt {A B M : Nat} (hA : A < M) (hB : B < M) : Nat.gcd A B < M := by
  rcases Nat.eq_zero_or_pos A with h | h
  · rw [h, Nat.gcd_zero_left]; exact hB
  · exact Nat.lt_of_le_of_lt (Nat.gcd_le_left _ h) hA
set_option maxRecDepth 100000 in
set_option maxHeartbeats 1600000 in
theorem rgcd_any (a b : List UInt8) (w : World) (ha : a.length ≤ 1000) (hb : b.length ≤ 1000) :
    Calls Tryd.prog 24 #[S a, S b] w (Yld w (S (nb (Nat.gcd (bv a) (bv b))))) := by
  have h1 : Ans 33 #[S a] (S (nb (bv a))) := C_canon rfl (by omega) rfl
  have h2 : Ans 33 #[S b] (S (nb (bv b))) := C_canon rfl (by omega) rfl
  obtain ⟨M, hM⟩ := len_room 1000
  have hA : bv a < M := (hM _).2 (by rw [nb_bv]; exact Nat.le_trans (trimL_len a) ha)
  have hB : bv b < M := (hM _).2 (by rw [nb_bv]; exact Nat.le_trans (trimL_len b) hb)
  have hlen : ∀ n, n < M → (nb n).length ≤ 1000 := fun n h => (hM n).1 h
  have HLEN := Lib.hid hlen
  have H1 := Lib.hid h1
  have H2 := Lib.hid h2
  have HA := Lib.hid hA
  have HB := Lib.hid hB
  clear h1 h2 hA hB hM hlen
  obtain ⟨A, hA⟩ : ∃ A, bv a = A := ⟨_, rfl⟩
  obtain ⟨B, hB⟩ : ∃ B, bv b = B := ⟨_, rfl⟩
  rw [hA] at H1 HA ⊢
  rw [hB] at H2 HB ⊢
  clear hA hB ha hb
  have HC := Lib.hid (Ch.refl w.heap.size none1 w)
  go_enter Tryd.func24, Tryd.ntmps24
  go_wp2_with (first
    | (go_at_call 33; with_reducible refine (H1.out _).mono ?_; rintro e w' ⟨rfl, hC⟩; have HC2 := Lib.hid (HC.out.trans (hC.mono HC.out.size (fun _ _ q => q))); clear hC HC; have HC := HC2; clear HC2)
    | (go_at_call 33; with_reducible refine (H2.out _).mono ?_; rintro e w' ⟨rfl, hC⟩; have HC2 := Lib.hid (HC.out.trans (hC.mono HC.out.size (fun _ _ q => q))); clear hC HC; have HC := HC2; clear HC2))
  go_loopg [0, 1] (B + 0) (fun gh x y wr => ∃ X Y : Nat, gh = Y + 0 ∧ x = S (nb X) ∧ y = S (nb Y) ∧ X < M ∧ Y < M ∧ Nat.gcd X Y = Nat.gcd A B ∧ Ch w.heap.size none1 w wr)
  case atStart => exact ⟨A, B, rfl, rfl, rfl, HA.out, HB.out, rfl, HC.out⟩
  case round =>
    clear HC HA HB H1 H2
    obtain ⟨X, Y, hgh, rfl, rfl, hX, hY, hg, hC⟩ := hrel
    have HG := Lib.hid hg
    have HC := Lib.hid hC
    have HGH := Lib.hid hgh
    clear hg hC hgh
    rcases Nat.eq_zero_or_pos Y with h0 | h0
    · subst h0
      have HGG := Lib.hid (show nb X = nb (Nat.gcd A B) by rw [← HG.out, Nat.gcd_zero_right])
      obtain ⟨x, hx⟩ : ∃ x, nb X = x := ⟨_, rfl⟩
      rw [hx] at HGG ⊢
      rw [nb_zero]
      clear hx HG
      go_wp2_with fail
      go_ret
      exact ⟨ret_S HGG.out, HC.out⟩
    · obtain ⟨x, ex, vx⟩ := has_nb X
      obtain ⟨y, ey, vy⟩ := has_nb Y
      have hlx : x.length ≤ 1000 := by rw [← ex]; exact HLEN.out X hX
      have hly : y.length ≤ 1000 := by rw [← ey]; exact HLEN.out Y hY
      have hy0 : 0 < y.length := by
        rcases Nat.eq_zero_or_pos y.length with h | h
        · rw [List.eq_nil_of_length_eq_zero h, bv_nil] at vy; omega
        · exact h
      have hq : Ans 55 #[S x, S y] (.tuple #[S (nb (X / Y)), S (nb (X % Y)), .bool true]) := C_rquo rfl rfl hlx hly (by omega) (by rw [vx, vy]) (by rw [vx, vy])
      have HQ := Lib.hid hq
      have hm := Nat.mod_lt X h0
      have HR := Lib.hid (show X % Y < M by omega)
      have HGN := Lib.hid (show Nat.gcd Y (X % Y) = Nat.gcd A B by rw [Nat.gcd_comm, ← Nat.gcd_rec, Nat.gcd_comm]; exact HG.out)
      have HM := Lib.hid hm
      have HEY := Lib.hid ey
      rw [ex, ey]
      clear ex ey vx vy hq hm hlx hly HG
      obtain ⟨q, hq⟩ : ∃ q, nb (X / Y) = q := ⟨_, rfl⟩
      obtain ⟨R, hR⟩ : ∃ R, X % Y = R := ⟨_, rfl⟩
      rw [hR] at HQ HR HGN HM
      rw [hq] at HQ
      clear hq hR
      go_wp2_with (first
        | (go_at_call 55; with_reducible refine (HQ.out _).mono ?_; rintro e w' ⟨rfl, hC⟩; have HC2 := Lib.hid (HC.out.trans (hC.mono HC.out.size (fun _ _ q => q))); clear hC HC; have HC := HC2; clear HC2))
      go_roundg (R + 0)
      case measure => have := HGH.out; have := HM.out; omega
      case rel => exact ⟨Y, R, rfl, by rw [HEY.out], rfl, hY, HR.out, HGN.out, HC.out⟩
theorem C_gcd {a b l : List UInt8} {n : Nat} (hl : nb n = l) (ha : a.length ≤ 10000) (hb : b.length ≤ 10000) (hn : Nat.gcd (bv a) (bv b) = n) : Ans 23 #[S a, S b] (S l) := fun w =>
  (Gcd_any a b w (lim_k ha) (lim_k hb)).mono fun _ _ ⟨he, hC⟩ => ⟨by rw [he, hn, hl], hC⟩
theorem C_rgcd {a b l : List UInt8} {n : Nat} (hl : nb n = l) (ha : a.length ≤ 1000) (hb : b.length ≤ 1000) (hn : Nat.gcd (bv a) (bv b) = n) : Ans 24 #[S a, S b] (S l) := fun w =>
  (rgcd_any a b w ha hb).mono fun _ _ ⟨he, hC⟩ => ⟨by rw [he, hn, hl], hC⟩
end Go.Proofs.YtcghnkdfhiancaaDoor
