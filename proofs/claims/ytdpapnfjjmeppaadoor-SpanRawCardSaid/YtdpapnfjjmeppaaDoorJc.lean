/- SpanCounts: mathematics and the walk. -/
import Derived.Test.YtdpapnfjjmeppaaDoorJm
import Derived.Test.YtdpapnfjjmeppaaDoorSv
namespace Go.Proofs.YtdpapnfjjmeppaaDoor
open Go.RowKit Go.Shelf
theorem counts_far {xs : List (Int × Int)} {s n d : Int} (h : Spn.Ends (Spn.has (made xs)) s n d) (h0 : 0 ≤ s) (hs : s < 100 ∨ 3652000 ≤ s) (hn : n ≤ 58) : d ≤ s + 200 := by
  have hi := h.hi
  rcases hs with hs | hs
  rotate_left
  · omega
  by_cases hd : d ≤ s + 200
  · exact hd
  exfalso
  have h1 := h.lt (d := s + 200) (by omega) (by omega)
  have h2 : ∀ k, s + 71 ≤ k → k < s + 200 → Spn.has (made xs) k = false := fun k h2 h3 => Spn.has_not.2 fun t ht _ h4 => by
    rcases made_ends ht with q | q <;> omega
  rw [Spn.cnt_split _ (show s ≤ s + 71 by omega) (show s + 71 ≤ s + 200 by omega), Spn.cnt_all (s := s + 71) (fun k h3 h4 => by rw [h2 k h3 (by omega)]; rfl)] at h1
  have := (Spn.cnt_nonneg (fun k => !Spn.has (made xs) k) s (s + 71 - s).toNat).1
  omega
theorem counts_step (p : Int → Bool) {s k : Int} (h : s ≤ k) : Spn.cnt (fun k => !p k) s (k + 1 - s).toNat = Spn.cnt (fun k => !p k) s (k - s).toNat + if p k then 0 else 1 := by
  rw [show (k + 1 - s).toNat = (k - s).toNat + 1 by omega, Spn.cnt_succ, show s + ((k - s).toNat : Int) = k by omega]
  cases p k <;> rfl
theorem Count_as {a : List Spn.Sp} {pa : Option Addr} {na ca : Nat} {s n : Int} {w : World} {V : Value} (ha : Rd spc 2 w pa na a) (hna : na ≤ 8) (hs : 0 ≤ s ∧ s ≤ 3652058) (hn : -1 ≤ n ∧ n ≤ 100) (h : cenV (Spn.has a) s n = V) :
    Calls Tryd.prog 26 #[.slice pa na ca, iz s, iz n] w (Ya w V) := by
  have := Count_any a pa na ca s n w ha (by omega) (by omega) (by omega)
  rwa [h] at this
theorem refCount_as {a : List Spn.Sp} {pa : Option Addr} {na ca : Nat} {s n : Int} {w : World} {V : Value} (ha : Rd spc 2 w pa na a) (hna : na ≤ 8) (hs : 0 ≤ s ∧ s ≤ 3652058) (hn : -1 ≤ n ∧ n ≤ 100) (h : cenV (Spn.has a) s n = V) :
    Calls Tryd.prog 27 #[.slice pa na ca, iz s, iz n] w (Ya w V) := by
  have := refCount_any a pa na ca s n w ha (by omega) (by omega) (by omega)
  rwa [h] at this
set_option maxRecDepth 100000 in
set_option maxHeartbeats 8000000 in
theorem counts_core (xs : List (Int × Int)) (px : Option Addr) (nx cx : Nat) (a0 b0 : Int) (w : World) (hx : Ra w px nx xs) (hnx : nx ≤ 9223372036854775807) (ha0 : -9223372036854775808 ≤ a0 ∧ a0 ≤ 9223372036854775807) (hb0 : -9223372036854775808 ≤ b0 ∧ b0 ≤ 9223372036854775807) (ht : LenIs w) :
    Calls Tryd.prog 9 #[.slice px nx cx, iz a0, iz b0] w (Ya w (.bool true)) := by
  have HX := Lib.hid hx
  have HT := Lib.hid ht
  have HK := Lib.hid (Kr.nil w)
  obtain ⟨ha1, ha2⟩ := ha0
  obtain ⟨hb1, hb2⟩ := hb0
  clear hx ht
  by_cases h0 : 0 ≤ a0
  · obtain ⟨s, hs⟩ : ∃ s, Int.tmod a0 100 = s := ⟨_, rfl⟩
    have hsr : 0 ≤ s ∧ s < 100 := by rw [← hs]; exact ⟨Int.tmod_nonneg 100 h0, Int.tmod_lt_of_pos a0 (by decide)⟩
    have HSR := Lib.hid (show s < 100 ∨ 3652000 ≤ s from .inl hsr.2)
    have hsb : 0 ≤ s ∧ s ≤ 3652058 := by omega
    have HM60 := Lib.hid (fun W => Mod_any b0 60 (by omega) (by omega) W)
    have r60 : 0 ≤ b0 % 60 ∧ b0 % 60 < 60 := by omega
    obtain ⟨q2, hq2⟩ : ∃ q, b0 % 60 = q := ⟨_, rfl⟩
    rw [hq2] at HM60 r60
    clear hq2
    obtain ⟨n, hn⟩ : ∃ n, q2 - 1 = n := ⟨_, rfl⟩
    have hnr : -1 ≤ n ∧ n ≤ 58 := by omega
    go_enter Tryd.func9, Tryd.ntmps9
    go_wp2_with fail
    refine (sanity_any _ (len_ch HT.out HK.out.ch)).mono ?_
    rintro e w1 ⟨rfl, hC⟩
    have HK2 := Lib.hid (HK.out.on hC)
    clear hC HK
    have HK := HK2
    clear HK2
    go_wp2_with fail
    refine (Made_any xs _ _ _ _ (HX.out.ch HK.out.ch) hnx).mono ?_
    rintro e w2 ⟨p2, n2, c2, rfl, hr, hC⟩
    have HK2 := Lib.hid (HK.out.res hC hr)
    clear hC hr HK
    have HK := HK2
    clear HK2
    go_wp2_with fail
    have ha : n2 ≤ 8 := by have h1 := (show Rd spc 2 w2 (p2) n2 (made xs) from HK.out.rd (p2, n2, (made xs)) (.head _)).len; have h2 := made_len xs; omega
    refine (HM60.out _).mono ?_
    rintro e wq2 ⟨rfl, rfl⟩
    go_wp2_with fail
    by_cases hd : ∃ d, Spn.Ends (Spn.has (made xs)) s n d
    rotate_left
    · have HE := Lib.hid (cenV_none (p := Spn.has (made xs)) (s := s) (n := n) fun _ d h => hd ⟨d, h⟩)
      clear hd
      refine (Count_as (show Rd spc 2 w2 (p2) n2 (made xs) from HK.out.rd (p2, n2, (made xs)) (.head _)) ha (by omega) (by omega) HE.out).mono ?_
      rintro e w3 ⟨rfl, hC⟩
      have HK2 := Lib.hid (HK.out.on hC)
      clear hC HK
      have HK := HK2
      clear HK2
      go_wp2_with fail
      refine (refCount_as (show Rd spc 2 w3 (p2) n2 (made xs) from HK.out.rd (p2, n2, (made xs)) (.head _)) ha (by omega) (by omega) HE.out).mono ?_
      rintro e w4 ⟨rfl, hC⟩
      have HK2 := Lib.hid (HK.out.on hC)
      clear hC HK
      have HK := HK2
      clear HK2
      go_wp2_with fail
      go_ret
      exact ⟨rfl, HK.out.ch⟩
    obtain ⟨d, hE⟩ := hd
    have HE := Lib.hid (cenV_some hsb.1 hE)
    have HFR := Lib.hid hE.free
    have HLA := Lib.hid hE.last
    have hdl := hE.lo
    have hdh := hE.hi
    have hfar := counts_far hE hsb.1 HSR.out (by omega)
    clear hE
    refine (Count_as (show Rd spc 2 w2 (p2) n2 (made xs) from HK.out.rd (p2, n2, (made xs)) (.head _)) ha (by omega) (by omega) HE.out).mono ?_
    rintro e w3 ⟨rfl, hC⟩
    have HK2 := Lib.hid (HK.out.on hC)
    clear hC HK
    have HK := HK2
    clear HK2
    go_wp2_with fail
    refine (refCount_as (show Rd spc 2 w3 (p2) n2 (made xs) from HK.out.rd (p2, n2, (made xs)) (.head _)) ha (by omega) (by omega) HE.out).mono ?_
    rintro e w4 ⟨rfl, hC⟩
    have HK2 := Lib.hid (HK.out.on hC)
    clear hC HK
    have HK := HK2
    clear HK2
    go_wp2_with fail
    go_loopw [13, 14] (fun v i wr => ∃ (k r : Int), (s ≤ k ∧ k ≤ d) ∧ i = iz k ∧ v = iz r ∧ (0 ≤ r ∧ r ≤ 300) ∧ Spn.cnt (fun k => !Spn.has (made xs) k) s (k - s).toNat = r ∧ Ch w4.heap.size none1 w4 wr) (fun _ i _ => (d - intOf i).toNat)
    case atStart => exact ⟨s, 0, by omega, rfl, rfl, by omega, by rw [Int.sub_self]; rfl, Ch.refl _ _ _⟩
    case round =>
      obtain ⟨k, r, ⟨hk0, hk1⟩, rfl, rfl, hr, hR, hC⟩ := hrel
      have hrk : r ≤ k - s := by
        have h1 := (Spn.cnt_nonneg (fun k => !Spn.has (made xs) k) s (k - s).toNat).2
        omega
      have HR := Lib.hid hR
      have HC0 := Lib.hid hC
      have HK3 := Lib.hid (HK.out.on hC)
      clear hR hC
      by_cases hlt : k < d
      · have hlt2 : k < s + 200 := by omega
        have HST := counts_step (Spn.has (made xs)) hk0
        obtain ⟨b, hb⟩ : ∃ b, Spn.has (made xs) k = b := ⟨_, rfl⟩
        rw [hb, HR.out] at HST
        have HB := Lib.hid hb
        clear hb
        rcases b with _ | _
        · have HS3 := Lib.hid (show Spn.cnt (fun k => !Spn.has (made xs) k) s (k + 1 - s).toNat = r + 1 by rw [HST]; simp)
          clear HST
          go_wp2_with fail
          refine (Has_as (show Rd spc 2 wr (p2) n2 (made xs) from HK3.out.rd (p2, n2, (made xs)) (.head _)) (by omega) HB.out).mono ?_
          rintro e wa ⟨rfl, hC⟩
          have HCa := Lib.hid (HC0.out.step0 hC (Nat.le_refl _))
          clear hC
          go_wp2_with fail
          go_roundw
          case rel => exact ⟨k + 1, r + 1, by omega, by go_num, by go_num, by omega, HS3.out, HCa.out⟩
          case measure => simp [intOf] <;> omega
        · have HS3 := Lib.hid (show Spn.cnt (fun k => !Spn.has (made xs) k) s (k + 1 - s).toNat = r by rw [HST]; simp)
          clear HST
          go_wp2_with fail
          refine (Has_as (show Rd spc 2 wr (p2) n2 (made xs) from HK3.out.rd (p2, n2, (made xs)) (.head _)) (by omega) HB.out).mono ?_
          rintro e wa ⟨rfl, hC⟩
          have HCa := Lib.hid (HC0.out.step0 hC (Nat.le_refl _))
          clear hC
          go_wp2_with fail
          go_roundw
          case rel => exact ⟨k + 1, r, by omega, by go_num, by go_num, by omega, HS3.out, HCa.out⟩
          case measure => simp [intOf] <;> omega
      · obtain rfl : k = d := by omega
        obtain rfl : r = n := by rw [← HR.out, HFR.out]
        clear HK
        have HK := HK3
        clear HK3 HR HC0 HFR hlt
        by_cases hds : k = s
        · subst hds
          go_wp2_with fail
          go_ret
          exact ⟨rfl, HK.out.ch⟩
        · have HL2 := Lib.hid (show Spn.has (made xs) (k - 1) = false by rcases HLA.out with q | q; exact absurd q hds; exact q)
          obtain ⟨f, hf⟩ : ∃ f, k - 1 = f := ⟨_, rfl⟩
          have hfr : -1 ≤ f ∧ f ≤ 3652058 := by omega
          have HL3 := Lib.hid (show Spn.has (made xs) f = false by rw [← hf]; exact HL2.out)
          have hbe : (k == s) = false := beq_eq_false_iff_ne.2 hds
          clear HL2
          go_wp2_with fail
          refine (Has_as (show Rd spc 2 wr (p2) n2 (made xs) from HK.out.rd (p2, n2, (made xs)) (.head _)) (by omega) HL3.out).mono ?_
          rintro e w71 ⟨rfl, hC⟩
          have HK2 := Lib.hid (HK.out.on hC)
          clear hC HK
          have HK := HK2
          clear HK2
          go_wp2_with fail
          go_ret
          exact ⟨rfl, HK.out.ch⟩
  · have HM40 := Lib.hid (fun W => Mod_any a0 40 (by omega) (by omega) W)
    have r40 : 0 ≤ a0 % 40 ∧ a0 % 40 < 40 := by omega
    obtain ⟨q, hq⟩ : ∃ q, a0 % 40 = q := ⟨_, rfl⟩
    rw [hq] at HM40 r40
    clear hq
    obtain ⟨s, hs⟩ : ∃ s, 3652058 - q = s := ⟨_, rfl⟩
    have hsr : 3652018 ≤ s ∧ s ≤ 3652058 := by omega
    have HSR := Lib.hid (show s < 100 ∨ 3652000 ≤ s from .inr (by omega))
    have hsb : 0 ≤ s ∧ s ≤ 3652058 := by omega
    have HM60 := Lib.hid (fun W => Mod_any b0 60 (by omega) (by omega) W)
    have r60 : 0 ≤ b0 % 60 ∧ b0 % 60 < 60 := by omega
    obtain ⟨q2, hq2⟩ : ∃ q, b0 % 60 = q := ⟨_, rfl⟩
    rw [hq2] at HM60 r60
    clear hq2
    obtain ⟨n, hn⟩ : ∃ n, q2 - 1 = n := ⟨_, rfl⟩
    have hnr : -1 ≤ n ∧ n ≤ 58 := by omega
    go_enter Tryd.func9, Tryd.ntmps9
    go_wp2_with fail
    refine (sanity_any _ (len_ch HT.out HK.out.ch)).mono ?_
    rintro e w1 ⟨rfl, hC⟩
    have HK2 := Lib.hid (HK.out.on hC)
    clear hC HK
    have HK := HK2
    clear HK2
    go_wp2_with fail
    refine (Made_any xs _ _ _ _ (HX.out.ch HK.out.ch) hnx).mono ?_
    rintro e w2 ⟨p2, n2, c2, rfl, hr, hC⟩
    have HK2 := Lib.hid (HK.out.res hC hr)
    clear hC hr HK
    have HK := HK2
    clear HK2
    go_wp2_with fail
    have ha : n2 ≤ 8 := by have h1 := (show Rd spc 2 w2 (p2) n2 (made xs) from HK.out.rd (p2, n2, (made xs)) (.head _)).len; have h2 := made_len xs; omega
    refine (HM40.out _).mono ?_
    rintro e wq ⟨rfl, rfl⟩
    go_wp2_with fail
    refine (HM60.out _).mono ?_
    rintro e wq2 ⟨rfl, rfl⟩
    go_wp2_with fail
    by_cases hd : ∃ d, Spn.Ends (Spn.has (made xs)) s n d
    rotate_left
    · have HE := Lib.hid (cenV_none (p := Spn.has (made xs)) (s := s) (n := n) fun _ d h => hd ⟨d, h⟩)
      clear hd
      refine (Count_as (show Rd spc 2 w2 (p2) n2 (made xs) from HK.out.rd (p2, n2, (made xs)) (.head _)) ha (by omega) (by omega) HE.out).mono ?_
      rintro e w3 ⟨rfl, hC⟩
      have HK2 := Lib.hid (HK.out.on hC)
      clear hC HK
      have HK := HK2
      clear HK2
      go_wp2_with fail
      refine (refCount_as (show Rd spc 2 w3 (p2) n2 (made xs) from HK.out.rd (p2, n2, (made xs)) (.head _)) ha (by omega) (by omega) HE.out).mono ?_
      rintro e w4 ⟨rfl, hC⟩
      have HK2 := Lib.hid (HK.out.on hC)
      clear hC HK
      have HK := HK2
      clear HK2
      go_wp2_with fail
      go_ret
      exact ⟨rfl, HK.out.ch⟩
    obtain ⟨d, hE⟩ := hd
    have HE := Lib.hid (cenV_some hsb.1 hE)
    have HFR := Lib.hid hE.free
    have HLA := Lib.hid hE.last
    have hdl := hE.lo
    have hdh := hE.hi
    have hfar := counts_far hE hsb.1 HSR.out (by omega)
    clear hE
    refine (Count_as (show Rd spc 2 w2 (p2) n2 (made xs) from HK.out.rd (p2, n2, (made xs)) (.head _)) ha (by omega) (by omega) HE.out).mono ?_
    rintro e w3 ⟨rfl, hC⟩
    have HK2 := Lib.hid (HK.out.on hC)
    clear hC HK
    have HK := HK2
    clear HK2
    go_wp2_with fail
    refine (refCount_as (show Rd spc 2 w3 (p2) n2 (made xs) from HK.out.rd (p2, n2, (made xs)) (.head _)) ha (by omega) (by omega) HE.out).mono ?_
    rintro e w4 ⟨rfl, hC⟩
    have HK2 := Lib.hid (HK.out.on hC)
    clear hC HK
    have HK := HK2
    clear HK2
    go_wp2_with fail
    go_loopw [13, 14] (fun v i wr => ∃ (k r : Int), (s ≤ k ∧ k ≤ d) ∧ i = iz k ∧ v = iz r ∧ (0 ≤ r ∧ r ≤ 300) ∧ Spn.cnt (fun k => !Spn.has (made xs) k) s (k - s).toNat = r ∧ Ch w4.heap.size none1 w4 wr) (fun _ i _ => (d - intOf i).toNat)
    case atStart => exact ⟨s, 0, by omega, rfl, rfl, by omega, by rw [Int.sub_self]; rfl, Ch.refl _ _ _⟩
    case round =>
      obtain ⟨k, r, ⟨hk0, hk1⟩, rfl, rfl, hr, hR, hC⟩ := hrel
      have hrk : r ≤ k - s := by
        have h1 := (Spn.cnt_nonneg (fun k => !Spn.has (made xs) k) s (k - s).toNat).2
        omega
      have HR := Lib.hid hR
      have HC0 := Lib.hid hC
      have HK3 := Lib.hid (HK.out.on hC)
      clear hR hC
      by_cases hlt : k < d
      · have hlt2 : k < s + 200 := by omega
        have HST := counts_step (Spn.has (made xs)) hk0
        obtain ⟨b, hb⟩ : ∃ b, Spn.has (made xs) k = b := ⟨_, rfl⟩
        rw [hb, HR.out] at HST
        have HB := Lib.hid hb
        clear hb
        rcases b with _ | _
        · have HS3 := Lib.hid (show Spn.cnt (fun k => !Spn.has (made xs) k) s (k + 1 - s).toNat = r + 1 by rw [HST]; simp)
          clear HST
          go_wp2_with fail
          refine (Has_as (show Rd spc 2 wr (p2) n2 (made xs) from HK3.out.rd (p2, n2, (made xs)) (.head _)) (by omega) HB.out).mono ?_
          rintro e wa ⟨rfl, hC⟩
          have HCa := Lib.hid (HC0.out.step0 hC (Nat.le_refl _))
          clear hC
          go_wp2_with fail
          go_roundw
          case rel => exact ⟨k + 1, r + 1, by omega, by go_num, by go_num, by omega, HS3.out, HCa.out⟩
          case measure => simp [intOf] <;> omega
        · have HS3 := Lib.hid (show Spn.cnt (fun k => !Spn.has (made xs) k) s (k + 1 - s).toNat = r by rw [HST]; simp)
          clear HST
          go_wp2_with fail
          refine (Has_as (show Rd spc 2 wr (p2) n2 (made xs) from HK3.out.rd (p2, n2, (made xs)) (.head _)) (by omega) HB.out).mono ?_
          rintro e wa ⟨rfl, hC⟩
          have HCa := Lib.hid (HC0.out.step0 hC (Nat.le_refl _))
          clear hC
          go_wp2_with fail
          go_roundw
          case rel => exact ⟨k + 1, r, by omega, by go_num, by go_num, by omega, HS3.out, HCa.out⟩
          case measure => simp [intOf] <;> omega
      · obtain rfl : k = d := by omega
        obtain rfl : r = n := by rw [← HR.out, HFR.out]
        clear HK
        have HK := HK3
        clear HK3 HR HC0 HFR hlt
        by_cases hds : k = s
        · subst hds
          go_wp2_with fail
          go_ret
          exact ⟨rfl, HK.out.ch⟩
        · have HL2 := Lib.hid (show Spn.has (made xs) (k - 1) = false by rcases HLA.out with q | q; exact absurd q hds; exact q)
          obtain ⟨f, hf⟩ : ∃ f, k - 1 = f := ⟨_, rfl⟩
          have hfr : -1 ≤ f ∧ f ≤ 3652058 := by omega
          have HL3 := Lib.hid (show Spn.has (made xs) f = false by rw [← hf]; exact HL2.out)
          have hbe : (k == s) = false := beq_eq_false_iff_ne.2 hds
          clear HL2
          go_wp2_with fail
          refine (Has_as (show Rd spc 2 wr (p2) n2 (made xs) from HK.out.rd (p2, n2, (made xs)) (.head _)) (by omega) HL3.out).mono ?_
          rintro e w71 ⟨rfl, hC⟩
          have HK2 := Lib.hid (HK.out.on hC)
          clear hC HK
          have HK := HK2
          clear HK2
          go_wp2_with fail
          go_ret
          exact ⟨rfl, HK.out.ch⟩
end Go.Proofs.YtdpapnfjjmeppaaDoor
