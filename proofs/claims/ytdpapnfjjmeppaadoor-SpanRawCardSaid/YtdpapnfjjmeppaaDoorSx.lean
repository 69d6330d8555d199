/- Package tithingref05: Days. -/
import Derived.Test.YtdpapnfjjmeppaaDoorSv
import Derived.BigQuiet
namespace Go.Proofs.YtdpapnfjjmeppaaDoor
open Go.RowKit Go.Shelf
set_option maxRecDepth 100000 in
set_option maxHeartbeats 3200000 in
theorem sdays_any (a : List Spn.Sp) (pa : Option Addr) (na ca : Nat) (w : World) (ha : Rd spc 2 w pa na a) (hna : na ≤ 1000) :
    Calls Tryd.prog 31 #[.slice pa na ca] w (Ya w (iz (Spn.days (Spn.nf (Spn.has a))))) := by
  have H1 := Lib.hid (refNorm_any a pa na ca w ha hna)
  have HN := Lib.hid (Spn.nf_spec (Spn.dom_has a)).1
  obtain ⟨L, hL⟩ : ∃ L, Spn.nf (Spn.has a) = L := ⟨_, rfl⟩
  rw [hL] at H1 HN ⊢
  have HL := Lib.hid (show L.length ≤ 4000000 by rw [← hL]; exact nf_len (Spn.dom_has a))
  clear ha hL
  go_enter Tryd.func31, Tryd.ntmps31
  go_wp2_with fail
  refine H1.out.mono ?_
  rintro e w1 ⟨p, m, c, rfl, hr, hC⟩
  have HR := Lib.hid hr
  have HC := Lib.hid hC
  have hm : m ≤ 4000000 := by rw [← hr.len]; exact HL.out
  clear hr hC
  go_wp2_with fail
  go_loopw [4, 5] (fun v i wr => ∃ (k : Nat) (D : Int), k ≤ m ∧ i = .int .i64 k ∧ v = iz D ∧ Spn.days (L.take k) = D ∧ Ch w1.heap.size none1 w1 wr) (fun _ i _ => m - (intOf i).toNat)
  case atStart => exact ⟨0, 0, Nat.zero_le _, rfl, rfl, rfl, Ch.refl _ _ _⟩
  case round =>
    obtain ⟨k, D, hk, rfl, rfl, hD, hC2⟩ := hrel
    have HC2 := Lib.hid hC2
    have hb := Spn.days_range (HN.out.take k)
    rw [hD] at hb
    have HDD := Lib.hid hD
    clear hC2 hD
    by_cases hlt : k < m
    · obtain ⟨g, o, rfl, hg⟩ := HR.out.addr (by omega)
      obtain ⟨⟨x, y⟩, ht⟩ : ∃ t, L[k]? = some t := ⟨L[k]'(by rw [HR.out.len]; exact hlt), List.getElem?_eq_getElem _⟩
      obtain ⟨c0, c1⟩ := (HR.out.ch HC2.out).sp ht
      have HD := Lib.hid (show Spn.days (L.take (k + 1)) = D + y - x by rw [days_take ht, HDD.out]; show D + (y - x) = D + y - x; omega)
      have hr := Spn.rt_iff.1 (HN.out.1 _ (List.mem_of_getElem? ht))
      simp only at hr
      obtain ⟨r0, r1, r2⟩ := hr
      clear ht
      go_wp2_with fail
      go_quiet (fail)
      go_wp2_with fail
      go_roundw
      case rel => exact ⟨k + 1, D + y - x, by omega, by go_num, by go_num, HD.out, HC2.out.drewN nq⟩
      case measure => simp [intOf]; omega
    · obtain rfl : k = m := by omega
      have HF := Lib.hid (show D = Spn.days L by rw [← HDD.out, ← HR.out.len, List.take_length])
      go_wp2_with fail
      go_ret
      exact ⟨by rw [HF.out]; rfl, HC.out.step0 HC2.out (Nat.le_refl _)⟩
end Go.Proofs.YtdpapnfjjmeppaaDoor
