/- NatPows: the walks. -/
import Derived.Test.YtcghnkdfhiancaaDoorUp
import Derived.Test.YtcghnkdfhiancaaDoorUn
import Derived.Test.YtcghnkdfhiancaaDoorTf
namespace Go.Proofs.YtcghnkdfhiancaaDoor
open Go.RowKit
set_option maxRecDepth 100000 in
theorem rpow_no (a e m : List UInt8) (w : World) (hm : m.length ≤ 1000) (h0 : bv m = 0) :
    Calls Tryd.prog 26 #[S a, S e, S m] w (Yld w (.tuple #[S [], .bool false])) := by
  have G1 := Lib.hid (C_rquo_no (a := a) hm h0)
  clear hm h0
  have HC := Lib.hid (Ch.refl w.heap.size none1 w)
  go_enter Tryd.func26, Tryd.ntmps26
  go_wp2_with (first
    | (go_at_call 55; with_reducible refine (G1.out _).mono ?_; rintro e w' ⟨rfl, hC⟩; have HC2 := Lib.hid (HC.out.trans (hC.mono HC.out.size (fun _ _ q => q))); clear hC HC; have HC := HC2; clear HC2))
  go_ret2
  exact ⟨rfl, HC.out⟩
/-- Pow of both packages answers alike. -/
theorem C_pow_both {a e m : List UInt8} (ha : a.length ≤ 400) (he : e.length ≤ 400) (hm : m.length ≤ 400) :
    ∃ (l : List UInt8) (ok : Bool), Ans 25 #[S a, S e, S m] (.tuple #[S l, .bool ok]) ∧ Ans 26 #[S a, S e, S m] (.tuple #[S l, .bool ok]) := by
  rcases Nat.eq_zero_or_pos (bv m) with h | h
  · exact ⟨[], false, C_pow_no (by omega) h, fun w => rpow_no a e m w (by omega) h⟩
  · exact ⟨_, true, C_pow rfl (by omega) (by omega) (by omega) h rfl, fun w => rpow_yes a e m w ha he hm h⟩
set_option maxRecDepth 100000 in
set_option maxHeartbeats 3200000 in
theorem pows_sss (xa : Addr) (na ca : Nat) (h1a : na ≤ ca) (h2a : ca ≤ 9223372036854775807) (sa : List UInt8) (ka : sa.length ≤ 24) (xn : Addr) (nn cn : Nat) (h1n : nn ≤ cn) (h2n : cn ≤ 9223372036854775807) (sn : List UInt8) (kn : sn.length ≤ 24) (xz : Addr) (nz cz : Nat) (h1z : nz ≤ cz) (h2z : cz ≤ 9223372036854775807) (sz : List UInt8) (kz : sz.length ≤ 24) (w : World) (ht : pow10Is w)
    (hcva : ∀ w', Ch w.heap.size none1 w w' → (convert 22 24 (.slice (some xa) (min (na : Int) 24).toNat ca)).run Tryd.prog w' = .ok (S sa) w')
    (hcvn : ∀ w', Ch w.heap.size none1 w w' → (convert 22 24 (.slice (some xn) (min (nn : Int) 12).toNat cn)).run Tryd.prog w' = .ok (S sn) w')
    (hcvz : ∀ w', Ch w.heap.size none1 w w' → (convert 22 24 (.slice (some xz) (min (nz : Int) 24).toNat cz)).run Tryd.prog w' = .ok (S sz) w') :
    Calls Tryd.prog 6 #[.slice (some xa) na ca, .slice (some xn) nn cn, .slice (some xz) nz cz] w (Yld w (.bool true)) := by
  have HVa := Lib.hid hcva
  clear hcva
  have HVn := Lib.hid hcvn
  clear hcvn
  have HVz := Lib.hid hcvz
  clear hcvz
  obtain ⟨l1, el1, vl1⟩ := has_nb (bv sz + 1)
  have ll1 : l1.length ≤ 25 := by rw [← el1]; exact (nb_len _ 25).2 (add_bound (m := 24) (bv_b kz) (by decide))
  have H1 := Lib.hid (C_radd (a := sz) (b := [1]) el1 (by omega) (by decide) rfl)
  have HS := Lib.hid (sanity_all w ht)
  have HC := Lib.hid (Ch.refl w.heap.size none1 w)
  have KA := Lib.hid ka
  have KN := Lib.hid kn
  have KZ := Lib.hid kz
  have KL := Lib.hid ll1
  clear ht el1 vl1 ll1 ka kn kz
  go_enter Tryd.func6, Tryd.ntmps6
  go_wp2_with (first
    | (go_at_call 11; with_reducible refine (HS.out _ HC.out).mono ?_; rintro e w' ⟨rfl, hC⟩; have HC2 := Lib.hid (HC.out.trans (hC.mono HC.out.size (fun _ _ q => q))); clear hC HC; have HC := HC2; clear HC2))
  have ea := fun n => HVa.out _ (HC.out.drewN n)
  have m1a : (0 : Int) ≤ min (na : Int) 24 := by omega
  have m2a : min (na : Int) 24 ≤ (ca : Int) := by omega
  have en := fun n => HVn.out _ (HC.out.drewN n)
  have m1n : (0 : Int) ≤ min (nn : Int) 12 := by omega
  have m2n : min (nn : Int) 12 ≤ (cn : Int) := by omega
  have ez := fun n => HVz.out _ (HC.out.drewN n)
  have m1z : (0 : Int) ≤ min (nz : Int) 24 := by omega
  have m2z : min (nz : Int) 24 ≤ (cz : Int) := by omega
  go_quiet (fail)
  clear ea en ez m1a m2a HVa m1n m2n HVn m1z m2z HVz HS
  have HC2 := Lib.hid (HC.out.drewN nq)
  clear HC
  have HC := HC2
  clear HC2
  go_wp2_with (first
    | (go_at_call 16; with_reducible refine (H1.out _).mono ?_; rintro e w' ⟨rfl, hC⟩; have HC2 := Lib.hid (HC.out.trans (hC.mono HC.out.size (fun _ _ q => q))); clear hC HC; have HC := HC2; clear HC2))
  obtain ⟨ws, hws⟩ : ∃ ws : List (List UInt8), ws = [sz, l1, [138, 0, 176, 218, 162, 135, 68, 214, 164, 195, 198, 36, 84, 110, 75, 89]] := ⟨_, rfl⟩
  have hbl : ws.length = 3 := by subst hws; rfl
  have hka := KA.out
  have hkn := KN.out
  have hkz := KZ.out
  have hkl := KL.out
  have hall : ∀ k (h : k < ws.length), (ws[k]).length ≤ 400 := by
    subst hws
    intro k h
    have : k = 0 ∨ k = 1 ∨ k = 2 := by simp at h; omega
    rcases this with rfl | rfl | rfl
    · exact Nat.le_trans hkz (by decide)
    · exact Nat.le_trans hkl (by decide)
    · show ([138, 0, 176, 218, 162, 135, 68, 214, 164, 195, 198, 36, 84, 110, 75, 89] : List UInt8).length ≤ 400
      decide
  have hblk := Blk.new w' #[S sz, S l1, .string ⟨#[138, 0, 176, 218, 162, 135, 68, 214, 164, 195, 198, 36, 84, 110, 75, 89]⟩] 24
  have hblk2 : Blk (w'.alloc (.cells #[S sz, S l1, .string ⟨#[138, 0, 176, 218, 162, 135, 68, 214, 164, 195, 198, 36, 84, 110, 75, 89]⟩] 24 (0, 0))) w'.heap.size 24 (ws.map S) := by subst hws; exact hblk
  have hch2 := HC.out.alloc HC.out.size (.cells #[S sz, S l1, .string ⟨#[138, 0, 176, 218, 162, 135, 68, 214, 164, 195, 198, 36, 84, 110, 75, 89]⟩] 24 (0, 0))
  obtain ⟨W1, hW1⟩ : ∃ W, w'.alloc (.cells #[S sz, S l1, .string ⟨#[138, 0, 176, 218, 162, 135, 68, 214, 164, 195, 198, 36, 84, 110, 75, 89]⟩] 24 (0, 0)) = W := ⟨_, rfl⟩
  rw [hW1] at hblk2 hch2 ⊢
  obtain ⟨B, hB⟩ : ∃ B, w'.heap.size = B := ⟨_, rfl⟩
  rw [hB] at hblk2 ⊢
  have HALL := Lib.hid hall
  have HBL := Lib.hid hbl
  have HPB := Lib.hid (fun (m : List UInt8) (h : m.length ≤ 400) => C_pow_both (a := sa) (e := sn) (m := m) (Nat.le_trans hka (by decide)) (Nat.le_trans hkn (by decide)) h)
  clear hblk hW1 hB hall hbl hws HC hka hkn hkz hkl KA KN KZ KL H1
  go_loopw [41] (fun i wr => ∃ k : Nat, k ≤ 3 ∧ i = I k ∧ Ch w.heap.size none1 w wr ∧ Blk wr B 24 (ws.map S)) (fun i _ => 3 - (intOf i).toNat)
  case atStart => exact ⟨0, Nat.zero_le _, rfl, hch2, hblk2⟩
  case round =>
    clear hch2 hblk2
    obtain ⟨k, hk, rfl, hC, hB'⟩ := hrel
    have HB := Lib.hid hB'
    have HC := Lib.hid hC
    clear hC hB'
    by_cases hlt : k < 3
    · have hkm : k < ws.length := by rw [HBL.out]; exact hlt
      have hb := HALL.out k hkm
      have hc : wr.cell? ⟨B, k, none⟩ = some (S ws[k]) := by
        rw [HB.out.cell k, List.getElem?_map, List.getElem?_eq_getElem hkm]; rfl
      obtain ⟨m, hm⟩ : ∃ m, ws[k] = m := ⟨_, rfl⟩
      rw [hm] at hb hc
      clear hm
      obtain ⟨l, ok, g1, g2⟩ := HPB.out m hb
      have G1 := Lib.hid g1
      have G2 := Lib.hid g2
      clear g1 g2 hb
      go_wp2_with (first
        | (go_at_call 25; with_reducible refine (G1.out _).mono ?_; rintro e w' ⟨rfl, hC⟩; have HC2 := Lib.hid (HC.out.trans (hC.mono HC.out.size (fun _ _ q => q))); have HB2 := Lib.hid (hC.blk HB.out (Blk.lt HB.out) (fun q => q)); clear hC HC HB; have HC := HC2; have HB := HB2; clear HC2 HB2)
        | (go_at_call 26; with_reducible refine (G2.out _).mono ?_; rintro e w' ⟨rfl, hC⟩; have HC2 := Lib.hid (HC.out.trans (hC.mono HC.out.size (fun _ _ q => q))); have HB2 := Lib.hid (hC.blk HB.out (Blk.lt HB.out) (fun q => q)); clear hC HC HB; have HC := HC2; have HB := HB2; clear HC2 HB2))
      go_roundw
      case rel => exact ⟨k + 1, by omega, by go_num, HC.out, HB.out⟩
      case measure => simp [intOf]; omega
    · obtain rfl : k = 3 := by omega
      go_wp2_with fail
      go_ret
      exact ⟨rfl, HC.out⟩
set_option maxRecDepth 100000 in
set_option maxHeartbeats 3200000 in
theorem pows_ssn (xa : Addr) (na ca : Nat) (h1a : na ≤ ca) (h2a : ca ≤ 9223372036854775807) (sa : List UInt8) (ka : sa.length ≤ 24) (xn : Addr) (nn cn : Nat) (h1n : nn ≤ cn) (h2n : cn ≤ 9223372036854775807) (sn : List UInt8) (kn : sn.length ≤ 24) (w : World) (ht : pow10Is w)
    (hcva : ∀ w', Ch w.heap.size none1 w w' → (convert 22 24 (.slice (some xa) (min (na : Int) 24).toNat ca)).run Tryd.prog w' = .ok (S sa) w')
    (hcvn : ∀ w', Ch w.heap.size none1 w w' → (convert 22 24 (.slice (some xn) (min (nn : Int) 12).toNat cn)).run Tryd.prog w' = .ok (S sn) w') :
    Calls Tryd.prog 6 #[.slice (some xa) na ca, .slice (some xn) nn cn, .slice none 0 0] w (Yld w (.bool true)) := by
  have HVa := Lib.hid hcva
  clear hcva
  have HVn := Lib.hid hcvn
  clear hcvn
  have kz : ([] : List UInt8).length ≤ 24 := by decide
  obtain ⟨l1, el1, vl1⟩ := has_nb (bv ([] : List UInt8) + 1)
  have ll1 : l1.length ≤ 25 := by rw [← el1]; exact (nb_len _ 25).2 (add_bound (m := 24) (bv_b kz) (by decide))
  have H1 := Lib.hid (C_radd (a := ([] : List UInt8)) (b := [1]) el1 (by omega) (by decide) rfl)
  have HS := Lib.hid (sanity_all w ht)
  have HC := Lib.hid (Ch.refl w.heap.size none1 w)
  have KA := Lib.hid ka
  have KN := Lib.hid kn
  have KZ := Lib.hid kz
  have KL := Lib.hid ll1
  clear ht el1 vl1 ll1 ka kn kz
  go_enter Tryd.func6, Tryd.ntmps6
  go_wp2_with (first
    | (go_at_call 11; with_reducible refine (HS.out _ HC.out).mono ?_; rintro e w' ⟨rfl, hC⟩; have HC2 := Lib.hid (HC.out.trans (hC.mono HC.out.size (fun _ _ q => q))); clear hC HC; have HC := HC2; clear HC2))
  have ea := fun n => HVa.out _ (HC.out.drewN n)
  have m1a : (0 : Int) ≤ min (na : Int) 24 := by omega
  have m2a : min (na : Int) 24 ≤ (ca : Int) := by omega
  have en := fun n => HVn.out _ (HC.out.drewN n)
  have m1n : (0 : Int) ≤ min (nn : Int) 12 := by omega
  have m2n : min (nn : Int) 12 ≤ (cn : Int) := by omega
  have ez : ∀ n, (convert 22 24 (.slice none (min (0 : Int) 24).toNat 0)).run Tryd.prog (w'.drewN n) = .ok (.string ⟨#[]⟩) (w'.drewN n) := fun n => by kernel_rfl
  go_quiet (fail)
  clear ea en ez m1a m2a HVa m1n m2n HVn HS
  have HC2 := Lib.hid (HC.out.drewN nq)
  clear HC
  have HC := HC2
  clear HC2
  go_wp2_with (first
    | (go_at_call 16; with_reducible refine (H1.out _).mono ?_; rintro e w' ⟨rfl, hC⟩; have HC2 := Lib.hid (HC.out.trans (hC.mono HC.out.size (fun _ _ q => q))); clear hC HC; have HC := HC2; clear HC2))
  obtain ⟨ws, hws⟩ : ∃ ws : List (List UInt8), ws = [([] : List UInt8), l1, [138, 0, 176, 218, 162, 135, 68, 214, 164, 195, 198, 36, 84, 110, 75, 89]] := ⟨_, rfl⟩
  have hbl : ws.length = 3 := by subst hws; rfl
  have hka := KA.out
  have hkn := KN.out
  have hkz := KZ.out
  have hkl := KL.out
  have hall : ∀ k (h : k < ws.length), (ws[k]).length ≤ 400 := by
    subst hws
    intro k h
    have : k = 0 ∨ k = 1 ∨ k = 2 := by simp at h; omega
    rcases this with rfl | rfl | rfl
    · exact Nat.le_trans hkz (by decide)
    · exact Nat.le_trans hkl (by decide)
    · show ([138, 0, 176, 218, 162, 135, 68, 214, 164, 195, 198, 36, 84, 110, 75, 89] : List UInt8).length ≤ 400
      decide
  have hblk := Blk.new w' #[.string ⟨#[]⟩, S l1, .string ⟨#[138, 0, 176, 218, 162, 135, 68, 214, 164, 195, 198, 36, 84, 110, 75, 89]⟩] 24
  have hblk2 : Blk (w'.alloc (.cells #[.string ⟨#[]⟩, S l1, .string ⟨#[138, 0, 176, 218, 162, 135, 68, 214, 164, 195, 198, 36, 84, 110, 75, 89]⟩] 24 (0, 0))) w'.heap.size 24 (ws.map S) := by subst hws; exact hblk
  have hch2 := HC.out.alloc HC.out.size (.cells #[.string ⟨#[]⟩, S l1, .string ⟨#[138, 0, 176, 218, 162, 135, 68, 214, 164, 195, 198, 36, 84, 110, 75, 89]⟩] 24 (0, 0))
  obtain ⟨W1, hW1⟩ : ∃ W, w'.alloc (.cells #[.string ⟨#[]⟩, S l1, .string ⟨#[138, 0, 176, 218, 162, 135, 68, 214, 164, 195, 198, 36, 84, 110, 75, 89]⟩] 24 (0, 0)) = W := ⟨_, rfl⟩
  rw [hW1] at hblk2 hch2 ⊢
  obtain ⟨B, hB⟩ : ∃ B, w'.heap.size = B := ⟨_, rfl⟩
  rw [hB] at hblk2 ⊢
  have HALL := Lib.hid hall
  have HBL := Lib.hid hbl
  have HPB := Lib.hid (fun (m : List UInt8) (h : m.length ≤ 400) => C_pow_both (a := sa) (e := sn) (m := m) (Nat.le_trans hka (by decide)) (Nat.le_trans hkn (by decide)) h)
  clear hblk hW1 hB hall hbl hws HC hka hkn hkz hkl KA KN KZ KL H1
  go_loopw [41] (fun i wr => ∃ k : Nat, k ≤ 3 ∧ i = I k ∧ Ch w.heap.size none1 w wr ∧ Blk wr B 24 (ws.map S)) (fun i _ => 3 - (intOf i).toNat)
  case atStart => exact ⟨0, Nat.zero_le _, rfl, hch2, hblk2⟩
  case round =>
    clear hch2 hblk2
    obtain ⟨k, hk, rfl, hC, hB'⟩ := hrel
    have HB := Lib.hid hB'
    have HC := Lib.hid hC
    clear hC hB'
    by_cases hlt : k < 3
    · have hkm : k < ws.length := by rw [HBL.out]; exact hlt
      have hb := HALL.out k hkm
      have hc : wr.cell? ⟨B, k, none⟩ = some (S ws[k]) := by
        rw [HB.out.cell k, List.getElem?_map, List.getElem?_eq_getElem hkm]; rfl
      obtain ⟨m, hm⟩ : ∃ m, ws[k] = m := ⟨_, rfl⟩
      rw [hm] at hb hc
      clear hm
      obtain ⟨l, ok, g1, g2⟩ := HPB.out m hb
      have G1 := Lib.hid g1
      have G2 := Lib.hid g2
      clear g1 g2 hb
      go_wp2_with (first
        | (go_at_call 25; with_reducible refine (G1.out _).mono ?_; rintro e w' ⟨rfl, hC⟩; have HC2 := Lib.hid (HC.out.trans (hC.mono HC.out.size (fun _ _ q => q))); have HB2 := Lib.hid (hC.blk HB.out (Blk.lt HB.out) (fun q => q)); clear hC HC HB; have HC := HC2; have HB := HB2; clear HC2 HB2)
        | (go_at_call 26; with_reducible refine (G2.out _).mono ?_; rintro e w' ⟨rfl, hC⟩; have HC2 := Lib.hid (HC.out.trans (hC.mono HC.out.size (fun _ _ q => q))); have HB2 := Lib.hid (hC.blk HB.out (Blk.lt HB.out) (fun q => q)); clear hC HC HB; have HC := HC2; have HB := HB2; clear HC2 HB2))
      go_roundw
      case rel => exact ⟨k + 1, by omega, by go_num, HC.out, HB.out⟩
      case measure => simp [intOf]; omega
    · obtain rfl : k = 3 := by omega
      go_wp2_with fail
      go_ret
      exact ⟨rfl, HC.out⟩
set_option maxRecDepth 100000 in
set_option maxHeartbeats 3200000 in
theorem pows_sns (xa : Addr) (na ca : Nat) (h1a : na ≤ ca) (h2a : ca ≤ 9223372036854775807) (sa : List UInt8) (ka : sa.length ≤ 24) (xz : Addr) (nz cz : Nat) (h1z : nz ≤ cz) (h2z : cz ≤ 9223372036854775807) (sz : List UInt8) (kz : sz.length ≤ 24) (w : World) (ht : pow10Is w)
    (hcva : ∀ w', Ch w.heap.size none1 w w' → (convert 22 24 (.slice (some xa) (min (na : Int) 24).toNat ca)).run Tryd.prog w' = .ok (S sa) w')
    (hcvz : ∀ w', Ch w.heap.size none1 w w' → (convert 22 24 (.slice (some xz) (min (nz : Int) 24).toNat cz)).run Tryd.prog w' = .ok (S sz) w') :
    Calls Tryd.prog 6 #[.slice (some xa) na ca, .slice none 0 0, .slice (some xz) nz cz] w (Yld w (.bool true)) := by
  have HVa := Lib.hid hcva
  clear hcva
  have kn : ([] : List UInt8).length ≤ 24 := by decide
  have HVz := Lib.hid hcvz
  clear hcvz
  obtain ⟨l1, el1, vl1⟩ := has_nb (bv sz + 1)
  have ll1 : l1.length ≤ 25 := by rw [← el1]; exact (nb_len _ 25).2 (add_bound (m := 24) (bv_b kz) (by decide))
  have H1 := Lib.hid (C_radd (a := sz) (b := [1]) el1 (by omega) (by decide) rfl)
  have HS := Lib.hid (sanity_all w ht)
  have HC := Lib.hid (Ch.refl w.heap.size none1 w)
  have KA := Lib.hid ka
  have KN := Lib.hid kn
  have KZ := Lib.hid kz
  have KL := Lib.hid ll1
  clear ht el1 vl1 ll1 ka kn kz
  go_enter Tryd.func6, Tryd.ntmps6
  go_wp2_with (first
    | (go_at_call 11; with_reducible refine (HS.out _ HC.out).mono ?_; rintro e w' ⟨rfl, hC⟩; have HC2 := Lib.hid (HC.out.trans (hC.mono HC.out.size (fun _ _ q => q))); clear hC HC; have HC := HC2; clear HC2))
  have ea := fun n => HVa.out _ (HC.out.drewN n)
  have m1a : (0 : Int) ≤ min (na : Int) 24 := by omega
  have m2a : min (na : Int) 24 ≤ (ca : Int) := by omega
  have en : ∀ n, (convert 22 24 (.slice none (min (0 : Int) 12).toNat 0)).run Tryd.prog (w'.drewN n) = .ok (.string ⟨#[]⟩) (w'.drewN n) := fun n => by kernel_rfl
  have ez := fun n => HVz.out _ (HC.out.drewN n)
  have m1z : (0 : Int) ≤ min (nz : Int) 24 := by omega
  have m2z : min (nz : Int) 24 ≤ (cz : Int) := by omega
  go_quiet (fail)
  clear ea en ez m1a m2a HVa m1z m2z HVz HS
  have HC2 := Lib.hid (HC.out.drewN nq)
  clear HC
  have HC := HC2
  clear HC2
  go_wp2_with (first
    | (go_at_call 16; with_reducible refine (H1.out _).mono ?_; rintro e w' ⟨rfl, hC⟩; have HC2 := Lib.hid (HC.out.trans (hC.mono HC.out.size (fun _ _ q => q))); clear hC HC; have HC := HC2; clear HC2))
  obtain ⟨ws, hws⟩ : ∃ ws : List (List UInt8), ws = [sz, l1, [138, 0, 176, 218, 162, 135, 68, 214, 164, 195, 198, 36, 84, 110, 75, 89]] := ⟨_, rfl⟩
  have hbl : ws.length = 3 := by subst hws; rfl
  have hka := KA.out
  have hkn := KN.out
  have hkz := KZ.out
  have hkl := KL.out
  have hall : ∀ k (h : k < ws.length), (ws[k]).length ≤ 400 := by
    subst hws
    intro k h
    have : k = 0 ∨ k = 1 ∨ k = 2 := by simp at h; omega
    rcases this with rfl | rfl | rfl
    · exact Nat.le_trans hkz (by decide)
    · exact Nat.le_trans hkl (by decide)
    · show ([138, 0, 176, 218, 162, 135, 68, 214, 164, 195, 198, 36, 84, 110, 75, 89] : List UInt8).length ≤ 400
      decide
  have hblk := Blk.new w' #[S sz, S l1, .string ⟨#[138, 0, 176, 218, 162, 135, 68, 214, 164, 195, 198, 36, 84, 110, 75, 89]⟩] 24
  have hblk2 : Blk (w'.alloc (.cells #[S sz, S l1, .string ⟨#[138, 0, 176, 218, 162, 135, 68, 214, 164, 195, 198, 36, 84, 110, 75, 89]⟩] 24 (0, 0))) w'.heap.size 24 (ws.map S) := by subst hws; exact hblk
  have hch2 := HC.out.alloc HC.out.size (.cells #[S sz, S l1, .string ⟨#[138, 0, 176, 218, 162, 135, 68, 214, 164, 195, 198, 36, 84, 110, 75, 89]⟩] 24 (0, 0))
  obtain ⟨W1, hW1⟩ : ∃ W, w'.alloc (.cells #[S sz, S l1, .string ⟨#[138, 0, 176, 218, 162, 135, 68, 214, 164, 195, 198, 36, 84, 110, 75, 89]⟩] 24 (0, 0)) = W := ⟨_, rfl⟩
  rw [hW1] at hblk2 hch2 ⊢
  obtain ⟨B, hB⟩ : ∃ B, w'.heap.size = B := ⟨_, rfl⟩
  rw [hB] at hblk2 ⊢
  have HALL := Lib.hid hall
  have HBL := Lib.hid hbl
  have HPB := Lib.hid (fun (m : List UInt8) (h : m.length ≤ 400) => C_pow_both (a := sa) (e := ([] : List UInt8)) (m := m) (Nat.le_trans hka (by decide)) (Nat.le_trans hkn (by decide)) h)
  clear hblk hW1 hB hall hbl hws HC hka hkn hkz hkl KA KN KZ KL H1
  go_loopw [41] (fun i wr => ∃ k : Nat, k ≤ 3 ∧ i = I k ∧ Ch w.heap.size none1 w wr ∧ Blk wr B 24 (ws.map S)) (fun i _ => 3 - (intOf i).toNat)
  case atStart => exact ⟨0, Nat.zero_le _, rfl, hch2, hblk2⟩
  case round =>
    clear hch2 hblk2
    obtain ⟨k, hk, rfl, hC, hB'⟩ := hrel
    have HB := Lib.hid hB'
    have HC := Lib.hid hC
    clear hC hB'
    by_cases hlt : k < 3
    · have hkm : k < ws.length := by rw [HBL.out]; exact hlt
      have hb := HALL.out k hkm
      have hc : wr.cell? ⟨B, k, none⟩ = some (S ws[k]) := by
        rw [HB.out.cell k, List.getElem?_map, List.getElem?_eq_getElem hkm]; rfl
      obtain ⟨m, hm⟩ : ∃ m, ws[k] = m := ⟨_, rfl⟩
      rw [hm] at hb hc
      clear hm
      obtain ⟨l, ok, g1, g2⟩ := HPB.out m hb
      have G1 := Lib.hid g1
      have G2 := Lib.hid g2
      clear g1 g2 hb
      go_wp2_with (first
        | (go_at_call 25; with_reducible refine (G1.out _).mono ?_; rintro e w' ⟨rfl, hC⟩; have HC2 := Lib.hid (HC.out.trans (hC.mono HC.out.size (fun _ _ q => q))); have HB2 := Lib.hid (hC.blk HB.out (Blk.lt HB.out) (fun q => q)); clear hC HC HB; have HC := HC2; have HB := HB2; clear HC2 HB2)
        | (go_at_call 26; with_reducible refine (G2.out _).mono ?_; rintro e w' ⟨rfl, hC⟩; have HC2 := Lib.hid (HC.out.trans (hC.mono HC.out.size (fun _ _ q => q))); have HB2 := Lib.hid (hC.blk HB.out (Blk.lt HB.out) (fun q => q)); clear hC HC HB; have HC := HC2; have HB := HB2; clear HC2 HB2))
      go_roundw
      case rel => exact ⟨k + 1, by omega, by go_num, HC.out, HB.out⟩
      case measure => simp [intOf]; omega
    · obtain rfl : k = 3 := by omega
      go_wp2_with fail
      go_ret
      exact ⟨rfl, HC.out⟩
set_option maxRecDepth 100000 in
set_option maxHeartbeats 3200000 in
theorem pows_snn (xa : Addr) (na ca : Nat) (h1a : na ≤ ca) (h2a : ca ≤ 9223372036854775807) (sa : List UInt8) (ka : sa.length ≤ 24) (w : World) (ht : pow10Is w)
    (hcva : ∀ w', Ch w.heap.size none1 w w' → (convert 22 24 (.slice (some xa) (min (na : Int) 24).toNat ca)).run Tryd.prog w' = .ok (S sa) w') :
    Calls Tryd.prog 6 #[.slice (some xa) na ca, .slice none 0 0, .slice none 0 0] w (Yld w (.bool true)) := by
  have HVa := Lib.hid hcva
  clear hcva
  have kn : ([] : List UInt8).length ≤ 24 := by decide
  have kz : ([] : List UInt8).length ≤ 24 := by decide
  obtain ⟨l1, el1, vl1⟩ := has_nb (bv ([] : List UInt8) + 1)
  have ll1 : l1.length ≤ 25 := by rw [← el1]; exact (nb_len _ 25).2 (add_bound (m := 24) (bv_b kz) (by decide))
  have H1 := Lib.hid (C_radd (a := ([] : List UInt8)) (b := [1]) el1 (by omega) (by decide) rfl)
  have HS := Lib.hid (sanity_all w ht)
  have HC := Lib.hid (Ch.refl w.heap.size none1 w)
  have KA := Lib.hid ka
  have KN := Lib.hid kn
  have KZ := Lib.hid kz
  have KL := Lib.hid ll1
  clear ht el1 vl1 ll1 ka kn kz
  go_enter Tryd.func6, Tryd.ntmps6
  go_wp2_with (first
    | (go_at_call 11; with_reducible refine (HS.out _ HC.out).mono ?_; rintro e w' ⟨rfl, hC⟩; have HC2 := Lib.hid (HC.out.trans (hC.mono HC.out.size (fun _ _ q => q))); clear hC HC; have HC := HC2; clear HC2))
  have ea := fun n => HVa.out _ (HC.out.drewN n)
  have m1a : (0 : Int) ≤ min (na : Int) 24 := by omega
  have m2a : min (na : Int) 24 ≤ (ca : Int) := by omega
  have en : ∀ n, (convert 22 24 (.slice none (min (0 : Int) 12).toNat 0)).run Tryd.prog (w'.drewN n) = .ok (.string ⟨#[]⟩) (w'.drewN n) := fun n => by kernel_rfl
  have ez : ∀ n, (convert 22 24 (.slice none (min (0 : Int) 24).toNat 0)).run Tryd.prog (w'.drewN n) = .ok (.string ⟨#[]⟩) (w'.drewN n) := fun n => by kernel_rfl
  go_quiet (fail)
  clear ea en ez m1a m2a HVa HS
  have HC2 := Lib.hid (HC.out.drewN nq)
  clear HC
  have HC := HC2
  clear HC2
  go_wp2_with (first
    | (go_at_call 16; with_reducible refine (H1.out _).mono ?_; rintro e w' ⟨rfl, hC⟩; have HC2 := Lib.hid (HC.out.trans (hC.mono HC.out.size (fun _ _ q => q))); clear hC HC; have HC := HC2; clear HC2))
  obtain ⟨ws, hws⟩ : ∃ ws : List (List UInt8), ws = [([] : List UInt8), l1, [138, 0, 176, 218, 162, 135, 68, 214, 164, 195, 198, 36, 84, 110, 75, 89]] := ⟨_, rfl⟩
  have hbl : ws.length = 3 := by subst hws; rfl
  have hka := KA.out
  have hkn := KN.out
  have hkz := KZ.out
  have hkl := KL.out
  have hall : ∀ k (h : k < ws.length), (ws[k]).length ≤ 400 := by
    subst hws
    intro k h
    have : k = 0 ∨ k = 1 ∨ k = 2 := by simp at h; omega
    rcases this with rfl | rfl | rfl
    · exact Nat.le_trans hkz (by decide)
    · exact Nat.le_trans hkl (by decide)
    · show ([138, 0, 176, 218, 162, 135, 68, 214, 164, 195, 198, 36, 84, 110, 75, 89] : List UInt8).length ≤ 400
      decide
  have hblk := Blk.new w' #[.string ⟨#[]⟩, S l1, .string ⟨#[138, 0, 176, 218, 162, 135, 68, 214, 164, 195, 198, 36, 84, 110, 75, 89]⟩] 24
  have hblk2 : Blk (w'.alloc (.cells #[.string ⟨#[]⟩, S l1, .string ⟨#[138, 0, 176, 218, 162, 135, 68, 214, 164, 195, 198, 36, 84, 110, 75, 89]⟩] 24 (0, 0))) w'.heap.size 24 (ws.map S) := by subst hws; exact hblk
  have hch2 := HC.out.alloc HC.out.size (.cells #[.string ⟨#[]⟩, S l1, .string ⟨#[138, 0, 176, 218, 162, 135, 68, 214, 164, 195, 198, 36, 84, 110, 75, 89]⟩] 24 (0, 0))
  obtain ⟨W1, hW1⟩ : ∃ W, w'.alloc (.cells #[.string ⟨#[]⟩, S l1, .string ⟨#[138, 0, 176, 218, 162, 135, 68, 214, 164, 195, 198, 36, 84, 110, 75, 89]⟩] 24 (0, 0)) = W := ⟨_, rfl⟩
  rw [hW1] at hblk2 hch2 ⊢
  obtain ⟨B, hB⟩ : ∃ B, w'.heap.size = B := ⟨_, rfl⟩
  rw [hB] at hblk2 ⊢
  have HALL := Lib.hid hall
  have HBL := Lib.hid hbl
  have HPB := Lib.hid (fun (m : List UInt8) (h : m.length ≤ 400) => C_pow_both (a := sa) (e := ([] : List UInt8)) (m := m) (Nat.le_trans hka (by decide)) (Nat.le_trans hkn (by decide)) h)
  clear hblk hW1 hB hall hbl hws HC hka hkn hkz hkl KA KN KZ KL H1
  go_loopw [41] (fun i wr => ∃ k : Nat, k ≤ 3 ∧ i = I k ∧ Ch w.heap.size none1 w wr ∧ Blk wr B 24 (ws.map S)) (fun i _ => 3 - (intOf i).toNat)
  case atStart => exact ⟨0, Nat.zero_le _, rfl, hch2, hblk2⟩
  case round =>
    clear hch2 hblk2
    obtain ⟨k, hk, rfl, hC, hB'⟩ := hrel
    have HB := Lib.hid hB'
    have HC := Lib.hid hC
    clear hC hB'
    by_cases hlt : k < 3
    · have hkm : k < ws.length := by rw [HBL.out]; exact hlt
      have hb := HALL.out k hkm
      have hc : wr.cell? ⟨B, k, none⟩ = some (S ws[k]) := by
        rw [HB.out.cell k, List.getElem?_map, List.getElem?_eq_getElem hkm]; rfl
      obtain ⟨m, hm⟩ : ∃ m, ws[k] = m := ⟨_, rfl⟩
      rw [hm] at hb hc
      clear hm
      obtain ⟨l, ok, g1, g2⟩ := HPB.out m hb
      have G1 := Lib.hid g1
      have G2 := Lib.hid g2
      clear g1 g2 hb
      go_wp2_with (first
        | (go_at_call 25; with_reducible refine (G1.out _).mono ?_; rintro e w' ⟨rfl, hC⟩; have HC2 := Lib.hid (HC.out.trans (hC.mono HC.out.size (fun _ _ q => q))); have HB2 := Lib.hid (hC.blk HB.out (Blk.lt HB.out) (fun q => q)); clear hC HC HB; have HC := HC2; have HB := HB2; clear HC2 HB2)
        | (go_at_call 26; with_reducible refine (G2.out _).mono ?_; rintro e w' ⟨rfl, hC⟩; have HC2 := Lib.hid (HC.out.trans (hC.mono HC.out.size (fun _ _ q => q))); have HB2 := Lib.hid (hC.blk HB.out (Blk.lt HB.out) (fun q => q)); clear hC HC HB; have HC := HC2; have HB := HB2; clear HC2 HB2))
      go_roundw
      case rel => exact ⟨k + 1, by omega, by go_num, HC.out, HB.out⟩
      case measure => simp [intOf]; omega
    · obtain rfl : k = 3 := by omega
      go_wp2_with fail
      go_ret
      exact ⟨rfl, HC.out⟩
set_option maxRecDepth 100000 in
set_option maxHeartbeats 3200000 in
theorem pows_nss (xn : Addr) (nn cn : Nat) (h1n : nn ≤ cn) (h2n : cn ≤ 9223372036854775807) (sn : List UInt8) (kn : sn.length ≤ 24) (xz : Addr) (nz cz : Nat) (h1z : nz ≤ cz) (h2z : cz ≤ 9223372036854775807) (sz : List UInt8) (kz : sz.length ≤ 24) (w : World) (ht : pow10Is w)
    (hcvn : ∀ w', Ch w.heap.size none1 w w' → (convert 22 24 (.slice (some xn) (min (nn : Int) 12).toNat cn)).run Tryd.prog w' = .ok (S sn) w')
    (hcvz : ∀ w', Ch w.heap.size none1 w w' → (convert 22 24 (.slice (some xz) (min (nz : Int) 24).toNat cz)).run Tryd.prog w' = .ok (S sz) w') :
    Calls Tryd.prog 6 #[.slice none 0 0, .slice (some xn) nn cn, .slice (some xz) nz cz] w (Yld w (.bool true)) := by
  have ka : ([] : List UInt8).length ≤ 24 := by decide
  have HVn := Lib.hid hcvn
  clear hcvn
  have HVz := Lib.hid hcvz
  clear hcvz
  obtain ⟨l1, el1, vl1⟩ := has_nb (bv sz + 1)
  have ll1 : l1.length ≤ 25 := by rw [← el1]; exact (nb_len _ 25).2 (add_bound (m := 24) (bv_b kz) (by decide))
  have H1 := Lib.hid (C_radd (a := sz) (b := [1]) el1 (by omega) (by decide) rfl)
  have HS := Lib.hid (sanity_all w ht)
  have HC := Lib.hid (Ch.refl w.heap.size none1 w)
  have KA := Lib.hid ka
  have KN := Lib.hid kn
  have KZ := Lib.hid kz
  have KL := Lib.hid ll1
  clear ht el1 vl1 ll1 ka kn kz
  go_enter Tryd.func6, Tryd.ntmps6
  go_wp2_with (first
    | (go_at_call 11; with_reducible refine (HS.out _ HC.out).mono ?_; rintro e w' ⟨rfl, hC⟩; have HC2 := Lib.hid (HC.out.trans (hC.mono HC.out.size (fun _ _ q => q))); clear hC HC; have HC := HC2; clear HC2))
  have ea : ∀ n, (convert 22 24 (.slice none (min (0 : Int) 24).toNat 0)).run Tryd.prog (w'.drewN n) = .ok (.string ⟨#[]⟩) (w'.drewN n) := fun n => by kernel_rfl
  have en := fun n => HVn.out _ (HC.out.drewN n)
  have m1n : (0 : Int) ≤ min (nn : Int) 12 := by omega
  have m2n : min (nn : Int) 12 ≤ (cn : Int) := by omega
  have ez := fun n => HVz.out _ (HC.out.drewN n)
  have m1z : (0 : Int) ≤ min (nz : Int) 24 := by omega
  have m2z : min (nz : Int) 24 ≤ (cz : Int) := by omega
  go_quiet (fail)
  clear ea en ez m1n m2n HVn m1z m2z HVz HS
  have HC2 := Lib.hid (HC.out.drewN nq)
  clear HC
  have HC := HC2
  clear HC2
  go_wp2_with (first
    | (go_at_call 16; with_reducible refine (H1.out _).mono ?_; rintro e w' ⟨rfl, hC⟩; have HC2 := Lib.hid (HC.out.trans (hC.mono HC.out.size (fun _ _ q => q))); clear hC HC; have HC := HC2; clear HC2))
  obtain ⟨ws, hws⟩ : ∃ ws : List (List UInt8), ws = [sz, l1, [138, 0, 176, 218, 162, 135, 68, 214, 164, 195, 198, 36, 84, 110, 75, 89]] := ⟨_, rfl⟩
  have hbl : ws.length = 3 := by subst hws; rfl
  have hka := KA.out
  have hkn := KN.out
  have hkz := KZ.out
  have hkl := KL.out
  have hall : ∀ k (h : k < ws.length), (ws[k]).length ≤ 400 := by
    subst hws
    intro k h
    have : k = 0 ∨ k = 1 ∨ k = 2 := by simp at h; omega
    rcases this with rfl | rfl | rfl
    · exact Nat.le_trans hkz (by decide)
    · exact Nat.le_trans hkl (by decide)
    · show ([138, 0, 176, 218, 162, 135, 68, 214, 164, 195, 198, 36, 84, 110, 75, 89] : List UInt8).length ≤ 400
      decide
  have hblk := Blk.new w' #[S sz, S l1, .string ⟨#[138, 0, 176, 218, 162, 135, 68, 214, 164, 195, 198, 36, 84, 110, 75, 89]⟩] 24
  have hblk2 : Blk (w'.alloc (.cells #[S sz, S l1, .string ⟨#[138, 0, 176, 218, 162, 135, 68, 214, 164, 195, 198, 36, 84, 110, 75, 89]⟩] 24 (0, 0))) w'.heap.size 24 (ws.map S) := by subst hws; exact hblk
  have hch2 := HC.out.alloc HC.out.size (.cells #[S sz, S l1, .string ⟨#[138, 0, 176, 218, 162, 135, 68, 214, 164, 195, 198, 36, 84, 110, 75, 89]⟩] 24 (0, 0))
  obtain ⟨W1, hW1⟩ : ∃ W, w'.alloc (.cells #[S sz, S l1, .string ⟨#[138, 0, 176, 218, 162, 135, 68, 214, 164, 195, 198, 36, 84, 110, 75, 89]⟩] 24 (0, 0)) = W := ⟨_, rfl⟩
  rw [hW1] at hblk2 hch2 ⊢
  obtain ⟨B, hB⟩ : ∃ B, w'.heap.size = B := ⟨_, rfl⟩
  rw [hB] at hblk2 ⊢
  have HALL := Lib.hid hall
  have HBL := Lib.hid hbl
  have HPB := Lib.hid (fun (m : List UInt8) (h : m.length ≤ 400) => C_pow_both (a := ([] : List UInt8)) (e := sn) (m := m) (Nat.le_trans hka (by decide)) (Nat.le_trans hkn (by decide)) h)
  clear hblk hW1 hB hall hbl hws HC hka hkn hkz hkl KA KN KZ KL H1
  go_loopw [41] (fun i wr => ∃ k : Nat, k ≤ 3 ∧ i = I k ∧ Ch w.heap.size none1 w wr ∧ Blk wr B 24 (ws.map S)) (fun i _ => 3 - (intOf i).toNat)
  case atStart => exact ⟨0, Nat.zero_le _, rfl, hch2, hblk2⟩
  case round =>
    clear hch2 hblk2
    obtain ⟨k, hk, rfl, hC, hB'⟩ := hrel
    have HB := Lib.hid hB'
    have HC := Lib.hid hC
    clear hC hB'
    by_cases hlt : k < 3
    · have hkm : k < ws.length := by rw [HBL.out]; exact hlt
      have hb := HALL.out k hkm
      have hc : wr.cell? ⟨B, k, none⟩ = some (S ws[k]) := by
        rw [HB.out.cell k, List.getElem?_map, List.getElem?_eq_getElem hkm]; rfl
      obtain ⟨m, hm⟩ : ∃ m, ws[k] = m := ⟨_, rfl⟩
      rw [hm] at hb hc
      clear hm
      obtain ⟨l, ok, g1, g2⟩ := HPB.out m hb
      have G1 := Lib.hid g1
      have G2 := Lib.hid g2
      clear g1 g2 hb
      go_wp2_with (first
        | (go_at_call 25; with_reducible refine (G1.out _).mono ?_; rintro e w' ⟨rfl, hC⟩; have HC2 := Lib.hid (HC.out.trans (hC.mono HC.out.size (fun _ _ q => q))); have HB2 := Lib.hid (hC.blk HB.out (Blk.lt HB.out) (fun q => q)); clear hC HC HB; have HC := HC2; have HB := HB2; clear HC2 HB2)
        | (go_at_call 26; with_reducible refine (G2.out _).mono ?_; rintro e w' ⟨rfl, hC⟩; have HC2 := Lib.hid (HC.out.trans (hC.mono HC.out.size (fun _ _ q => q))); have HB2 := Lib.hid (hC.blk HB.out (Blk.lt HB.out) (fun q => q)); clear hC HC HB; have HC := HC2; have HB := HB2; clear HC2 HB2))
      go_roundw
      case rel => exact ⟨k + 1, by omega, by go_num, HC.out, HB.out⟩
      case measure => simp [intOf]; omega
    · obtain rfl : k = 3 := by omega
      go_wp2_with fail
      go_ret
      exact ⟨rfl, HC.out⟩
set_option maxRecDepth 100000 in
set_option maxHeartbeats 3200000 in
theorem pows_nsn (xn : Addr) (nn cn : Nat) (h1n : nn ≤ cn) (h2n : cn ≤ 9223372036854775807) (sn : List UInt8) (kn : sn.length ≤ 24) (w : World) (ht : pow10Is w)
    (hcvn : ∀ w', Ch w.heap.size none1 w w' → (convert 22 24 (.slice (some xn) (min (nn : Int) 12).toNat cn)).run Tryd.prog w' = .ok (S sn) w') :
    Calls Tryd.prog 6 #[.slice none 0 0, .slice (some xn) nn cn, .slice none 0 0] w (Yld w (.bool true)) := by
  have ka : ([] : List UInt8).length ≤ 24 := by decide
  have HVn := Lib.hid hcvn
  clear hcvn
  have kz : ([] : List UInt8).length ≤ 24 := by decide
  obtain ⟨l1, el1, vl1⟩ := has_nb (bv ([] : List UInt8) + 1)
  have ll1 : l1.length ≤ 25 := by rw [← el1]; exact (nb_len _ 25).2 (add_bound (m := 24) (bv_b kz) (by decide))
  have H1 := Lib.hid (C_radd (a := ([] : List UInt8)) (b := [1]) el1 (by omega) (by decide) rfl)
  have HS := Lib.hid (sanity_all w ht)
  have HC := Lib.hid (Ch.refl w.heap.size none1 w)
  have KA := Lib.hid ka
  have KN := Lib.hid kn
  have KZ := Lib.hid kz
  have KL := Lib.hid ll1
  clear ht el1 vl1 ll1 ka kn kz
  go_enter Tryd.func6, Tryd.ntmps6
  go_wp2_with (first
    | (go_at_call 11; with_reducible refine (HS.out _ HC.out).mono ?_; rintro e w' ⟨rfl, hC⟩; have HC2 := Lib.hid (HC.out.trans (hC.mono HC.out.size (fun _ _ q => q))); clear hC HC; have HC := HC2; clear HC2))
  have ea : ∀ n, (convert 22 24 (.slice none (min (0 : Int) 24).toNat 0)).run Tryd.prog (w'.drewN n) = .ok (.string ⟨#[]⟩) (w'.drewN n) := fun n => by kernel_rfl
  have en := fun n => HVn.out _ (HC.out.drewN n)
  have m1n : (0 : Int) ≤ min (nn : Int) 12 := by omega
  have m2n : min (nn : Int) 12 ≤ (cn : Int) := by omega
  have ez : ∀ n, (convert 22 24 (.slice none (min (0 : Int) 24).toNat 0)).run Tryd.prog (w'.drewN n) = .ok (.string ⟨#[]⟩) (w'.drewN n) := fun n => by kernel_rfl
  go_quiet (fail)
  clear ea en ez m1n m2n HVn HS
  have HC2 := Lib.hid (HC.out.drewN nq)
  clear HC
  have HC := HC2
  clear HC2
  go_wp2_with (first
    | (go_at_call 16; with_reducible refine (H1.out _).mono ?_; rintro e w' ⟨rfl, hC⟩; have HC2 := Lib.hid (HC.out.trans (hC.mono HC.out.size (fun _ _ q => q))); clear hC HC; have HC := HC2; clear HC2))
  obtain ⟨ws, hws⟩ : ∃ ws : List (List UInt8), ws = [([] : List UInt8), l1, [138, 0, 176, 218, 162, 135, 68, 214, 164, 195, 198, 36, 84, 110, 75, 89]] := ⟨_, rfl⟩
  have hbl : ws.length = 3 := by subst hws; rfl
  have hka := KA.out
  have hkn := KN.out
  have hkz := KZ.out
  have hkl := KL.out
  have hall : ∀ k (h : k < ws.length), (ws[k]).length ≤ 400 := by
    subst hws
    intro k h
    have : k = 0 ∨ k = 1 ∨ k = 2 := by simp at h; omega
    rcases this with rfl | rfl | rfl
    · exact Nat.le_trans hkz (by decide)
    · exact Nat.le_trans hkl (by decide)
    · show ([138, 0, 176, 218, 162, 135, 68, 214, 164, 195, 198, 36, 84, 110, 75, 89] : List UInt8).length ≤ 400
      decide
  have hblk := Blk.new w' #[.string ⟨#[]⟩, S l1, .string ⟨#[138, 0, 176, 218, 162, 135, 68, 214, 164, 195, 198, 36, 84, 110, 75, 89]⟩] 24
  have hblk2 : Blk (w'.alloc (.cells #[.string ⟨#[]⟩, S l1, .string ⟨#[138, 0, 176, 218, 162, 135, 68, 214, 164, 195, 198, 36, 84, 110, 75, 89]⟩] 24 (0, 0))) w'.heap.size 24 (ws.map S) := by subst hws; exact hblk
  have hch2 := HC.out.alloc HC.out.size (.cells #[.string ⟨#[]⟩, S l1, .string ⟨#[138, 0, 176, 218, 162, 135, 68, 214, 164, 195, 198, 36, 84, 110, 75, 89]⟩] 24 (0, 0))
  obtain ⟨W1, hW1⟩ : ∃ W, w'.alloc (.cells #[.string ⟨#[]⟩, S l1, .string ⟨#[138, 0, 176, 218, 162, 135, 68, 214, 164, 195, 198, 36, 84, 110, 75, 89]⟩] 24 (0, 0)) = W := ⟨_, rfl⟩
  rw [hW1] at hblk2 hch2 ⊢
  obtain ⟨B, hB⟩ : ∃ B, w'.heap.size = B := ⟨_, rfl⟩
  rw [hB] at hblk2 ⊢
  have HALL := Lib.hid hall
  have HBL := Lib.hid hbl
  have HPB := Lib.hid (fun (m : List UInt8) (h : m.length ≤ 400) => C_pow_both (a := ([] : List UInt8)) (e := sn) (m := m) (Nat.le_trans hka (by decide)) (Nat.le_trans hkn (by decide)) h)
  clear hblk hW1 hB hall hbl hws HC hka hkn hkz hkl KA KN KZ KL H1
  go_loopw [41] (fun i wr => ∃ k : Nat, k ≤ 3 ∧ i = I k ∧ Ch w.heap.size none1 w wr ∧ Blk wr B 24 (ws.map S)) (fun i _ => 3 - (intOf i).toNat)
  case atStart => exact ⟨0, Nat.zero_le _, rfl, hch2, hblk2⟩
  case round =>
    clear hch2 hblk2
    obtain ⟨k, hk, rfl, hC, hB'⟩ := hrel
    have HB := Lib.hid hB'
    have HC := Lib.hid hC
    clear hC hB'
    by_cases hlt : k < 3
    · have hkm : k < ws.length := by rw [HBL.out]; exact hlt
      have hb := HALL.out k hkm
      have hc : wr.cell? ⟨B, k, none⟩ = some (S ws[k]) := by
        rw [HB.out.cell k, List.getElem?_map, List.getElem?_eq_getElem hkm]; rfl
      obtain ⟨m, hm⟩ : ∃ m, ws[k] = m := ⟨_, rfl⟩
      rw [hm] at hb hc
      clear hm
      obtain ⟨l, ok, g1, g2⟩ := HPB.out m hb
      have G1 := Lib.hid g1
      have G2 := Lib.hid g2
      clear g1 g2 hb
      go_wp2_with (first
        | (go_at_call 25; with_reducible refine (G1.out _).mono ?_; rintro e w' ⟨rfl, hC⟩; have HC2 := Lib.hid (HC.out.trans (hC.mono HC.out.size (fun _ _ q => q))); have HB2 := Lib.hid (hC.blk HB.out (Blk.lt HB.out) (fun q => q)); clear hC HC HB; have HC := HC2; have HB := HB2; clear HC2 HB2)
        | (go_at_call 26; with_reducible refine (G2.out _).mono ?_; rintro e w' ⟨rfl, hC⟩; have HC2 := Lib.hid (HC.out.trans (hC.mono HC.out.size (fun _ _ q => q))); have HB2 := Lib.hid (hC.blk HB.out (Blk.lt HB.out) (fun q => q)); clear hC HC HB; have HC := HC2; have HB := HB2; clear HC2 HB2))
      go_roundw
      case rel => exact ⟨k + 1, by omega, by go_num, HC.out, HB.out⟩
      case measure => simp [intOf]; omega
    · obtain rfl : k = 3 := by omega
      go_wp2_with fail
      go_ret
      exact ⟨rfl, HC.out⟩
set_option maxRecDepth 100000 in
set_option maxHeartbeats 3200000 in
theorem pows_nns (xz : Addr) (nz cz : Nat) (h1z : nz ≤ cz) (h2z : cz ≤ 9223372036854775807) (sz : List UInt8) (kz : sz.length ≤ 24) (w : World) (ht : pow10Is w)
    (hcvz : ∀ w', Ch w.heap.size none1 w w' → (convert 22 24 (.slice (some xz) (min (nz : Int) 24).toNat cz)).run Tryd.prog w' = .ok (S sz) w') :
    Calls Tryd.prog 6 #[.slice none 0 0, .slice none 0 0, .slice (some xz) nz cz] w (Yld w (.bool true)) := by
  have ka : ([] : List UInt8).length ≤ 24 := by decide
  have kn : ([] : List UInt8).length ≤ 24 := by decide
  have HVz := Lib.hid hcvz
  clear hcvz
  obtain ⟨l1, el1, vl1⟩ := has_nb (bv sz + 1)
  have ll1 : l1.length ≤ 25 := by rw [← el1]; exact (nb_len _ 25).2 (add_bound (m := 24) (bv_b kz) (by decide))
  have H1 := Lib.hid (C_radd (a := sz) (b := [1]) el1 (by omega) (by decide) rfl)
  have HS := Lib.hid (sanity_all w ht)
  have HC := Lib.hid (Ch.refl w.heap.size none1 w)
  have KA := Lib.hid ka
  have KN := Lib.hid kn
  have KZ := Lib.hid kz
  have KL := Lib.hid ll1
  clear ht el1 vl1 ll1 ka kn kz
  go_enter Tryd.func6, Tryd.ntmps6
  go_wp2_with (first
    | (go_at_call 11; with_reducible refine (HS.out _ HC.out).mono ?_; rintro e w' ⟨rfl, hC⟩; have HC2 := Lib.hid (HC.out.trans (hC.mono HC.out.size (fun _ _ q => q))); clear hC HC; have HC := HC2; clear HC2))
  have ea : ∀ n, (convert 22 24 (.slice none (min (0 : Int) 24).toNat 0)).run Tryd.prog (w'.drewN n) = .ok (.string ⟨#[]⟩) (w'.drewN n) := fun n => by kernel_rfl
  have en : ∀ n, (convert 22 24 (.slice none (min (0 : Int) 12).toNat 0)).run Tryd.prog (w'.drewN n) = .ok (.string ⟨#[]⟩) (w'.drewN n) := fun n => by kernel_rfl
  have ez := fun n => HVz.out _ (HC.out.drewN n)
  have m1z : (0 : Int) ≤ min (nz : Int) 24 := by omega
  have m2z : min (nz : Int) 24 ≤ (cz : Int) := by omega
  go_quiet (fail)
  clear ea en ez m1z m2z HVz HS
  have HC2 := Lib.hid (HC.out.drewN nq)
  clear HC
  have HC := HC2
  clear HC2
  go_wp2_with (first
    | (go_at_call 16; with_reducible refine (H1.out _).mono ?_; rintro e w' ⟨rfl, hC⟩; have HC2 := Lib.hid (HC.out.trans (hC.mono HC.out.size (fun _ _ q => q))); clear hC HC; have HC := HC2; clear HC2))
  obtain ⟨ws, hws⟩ : ∃ ws : List (List UInt8), ws = [sz, l1, [138, 0, 176, 218, 162, 135, 68, 214, 164, 195, 198, 36, 84, 110, 75, 89]] := ⟨_, rfl⟩
  have hbl : ws.length = 3 := by subst hws; rfl
  have hka := KA.out
  have hkn := KN.out
  have hkz := KZ.out
  have hkl := KL.out
  have hall : ∀ k (h : k < ws.length), (ws[k]).length ≤ 400 := by
    subst hws
    intro k h
    have : k = 0 ∨ k = 1 ∨ k = 2 := by simp at h; omega
    rcases this with rfl | rfl | rfl
    · exact Nat.le_trans hkz (by decide)
    · exact Nat.le_trans hkl (by decide)
    · show ([138, 0, 176, 218, 162, 135, 68, 214, 164, 195, 198, 36, 84, 110, 75, 89] : List UInt8).length ≤ 400
      decide
  have hblk := Blk.new w' #[S sz, S l1, .string ⟨#[138, 0, 176, 218, 162, 135, 68, 214, 164, 195, 198, 36, 84, 110, 75, 89]⟩] 24
  have hblk2 : Blk (w'.alloc (.cells #[S sz, S l1, .string ⟨#[138, 0, 176, 218, 162, 135, 68, 214, 164, 195, 198, 36, 84, 110, 75, 89]⟩] 24 (0, 0))) w'.heap.size 24 (ws.map S) := by subst hws; exact hblk
  have hch2 := HC.out.alloc HC.out.size (.cells #[S sz, S l1, .string ⟨#[138, 0, 176, 218, 162, 135, 68, 214, 164, 195, 198, 36, 84, 110, 75, 89]⟩] 24 (0, 0))
  obtain ⟨W1, hW1⟩ : ∃ W, w'.alloc (.cells #[S sz, S l1, .string ⟨#[138, 0, 176, 218, 162, 135, 68, 214, 164, 195, 198, 36, 84, 110, 75, 89]⟩] 24 (0, 0)) = W := ⟨_, rfl⟩
  rw [hW1] at hblk2 hch2 ⊢
  obtain ⟨B, hB⟩ : ∃ B, w'.heap.size = B := ⟨_, rfl⟩
  rw [hB] at hblk2 ⊢
  have HALL := Lib.hid hall
  have HBL := Lib.hid hbl
  have HPB := Lib.hid (fun (m : List UInt8) (h : m.length ≤ 400) => C_pow_both (a := ([] : List UInt8)) (e := ([] : List UInt8)) (m := m) (Nat.le_trans hka (by decide)) (Nat.le_trans hkn (by decide)) h)
  clear hblk hW1 hB hall hbl hws HC hka hkn hkz hkl KA KN KZ KL H1
  go_loopw [41] (fun i wr => ∃ k : Nat, k ≤ 3 ∧ i = I k ∧ Ch w.heap.size none1 w wr ∧ Blk wr B 24 (ws.map S)) (fun i _ => 3 - (intOf i).toNat)
  case atStart => exact ⟨0, Nat.zero_le _, rfl, hch2, hblk2⟩
  case round =>
    clear hch2 hblk2
    obtain ⟨k, hk, rfl, hC, hB'⟩ := hrel
    have HB := Lib.hid hB'
    have HC := Lib.hid hC
    clear hC hB'
    by_cases hlt : k < 3
    · have hkm : k < ws.length := by rw [HBL.out]; exact hlt
      have hb := HALL.out k hkm
      have hc : wr.cell? ⟨B, k, none⟩ = some (S ws[k]) := by
        rw [HB.out.cell k, List.getElem?_map, List.getElem?_eq_getElem hkm]; rfl
      obtain ⟨m, hm⟩ : ∃ m, ws[k] = m := ⟨_, rfl⟩
      rw [hm] at hb hc
      clear hm
      obtain ⟨l, ok, g1, g2⟩ := HPB.out m hb
      have G1 := Lib.hid g1
      have G2 := Lib.hid g2
      clear g1 g2 hb
      go_wp2_with (first
        | (go_at_call 25; with_reducible refine (G1.out _).mono ?_; rintro e w' ⟨rfl, hC⟩; have HC2 := Lib.hid (HC.out.trans (hC.mono HC.out.size (fun _ _ q => q))); have HB2 := Lib.hid (hC.blk HB.out (Blk.lt HB.out) (fun q => q)); clear hC HC HB; have HC := HC2; have HB := HB2; clear HC2 HB2)
        | (go_at_call 26; with_reducible refine (G2.out _).mono ?_; rintro e w' ⟨rfl, hC⟩; have HC2 := Lib.hid (HC.out.trans (hC.mono HC.out.size (fun _ _ q => q))); have HB2 := Lib.hid (hC.blk HB.out (Blk.lt HB.out) (fun q => q)); clear hC HC HB; have HC := HC2; have HB := HB2; clear HC2 HB2))
      go_roundw
      case rel => exact ⟨k + 1, by omega, by go_num, HC.out, HB.out⟩
      case measure => simp [intOf]; omega
    · obtain rfl : k = 3 := by omega
      go_wp2_with fail
      go_ret
      exact ⟨rfl, HC.out⟩
set_option maxRecDepth 100000 in
set_option maxHeartbeats 3200000 in
theorem pows_nnn (w : World) (ht : pow10Is w) :
    Calls Tryd.prog 6 #[.slice none 0 0, .slice none 0 0, .slice none 0 0] w (Yld w (.bool true)) := by
  have ka : ([] : List UInt8).length ≤ 24 := by decide
  have kn : ([] : List UInt8).length ≤ 24 := by decide
  have kz : ([] : List UInt8).length ≤ 24 := by decide
  obtain ⟨l1, el1, vl1⟩ := has_nb (bv ([] : List UInt8) + 1)
  have ll1 : l1.length ≤ 25 := by rw [← el1]; exact (nb_len _ 25).2 (add_bound (m := 24) (bv_b kz) (by decide))
  have H1 := Lib.hid (C_radd (a := ([] : List UInt8)) (b := [1]) el1 (by omega) (by decide) rfl)
  have HS := Lib.hid (sanity_all w ht)
  have HC := Lib.hid (Ch.refl w.heap.size none1 w)
  have KA := Lib.hid ka
  have KN := Lib.hid kn
  have KZ := Lib.hid kz
  have KL := Lib.hid ll1
  clear ht el1 vl1 ll1 ka kn kz
  go_enter Tryd.func6, Tryd.ntmps6
  go_wp2_with (first
    | (go_at_call 11; with_reducible refine (HS.out _ HC.out).mono ?_; rintro e w' ⟨rfl, hC⟩; have HC2 := Lib.hid (HC.out.trans (hC.mono HC.out.size (fun _ _ q => q))); clear hC HC; have HC := HC2; clear HC2))
  have ea : ∀ n, (convert 22 24 (.slice none (min (0 : Int) 24).toNat 0)).run Tryd.prog (w'.drewN n) = .ok (.string ⟨#[]⟩) (w'.drewN n) := fun n => by kernel_rfl
  have en : ∀ n, (convert 22 24 (.slice none (min (0 : Int) 12).toNat 0)).run Tryd.prog (w'.drewN n) = .ok (.string ⟨#[]⟩) (w'.drewN n) := fun n => by kernel_rfl
  have ez : ∀ n, (convert 22 24 (.slice none (min (0 : Int) 24).toNat 0)).run Tryd.prog (w'.drewN n) = .ok (.string ⟨#[]⟩) (w'.drewN n) := fun n => by kernel_rfl
  go_quiet (fail)
  clear ea en ez  HS
  have HC2 := Lib.hid (HC.out.drewN nq)
  clear HC
  have HC := HC2
  clear HC2
  go_wp2_with (first
    | (go_at_call 16; with_reducible refine (H1.out _).mono ?_; rintro e w' ⟨rfl, hC⟩; have HC2 := Lib.hid (HC.out.trans (hC.mono HC.out.size (fun _ _ q => q))); clear hC HC; have HC := HC2; clear HC2))
  obtain ⟨ws, hws⟩ : ∃ ws : List (List UInt8), ws = [([] : List UInt8), l1, [138, 0, 176, 218, 162, 135, 68, 214, 164, 195, 198, 36, 84, 110, 75, 89]] := ⟨_, rfl⟩
  have hbl : ws.length = 3 := by subst hws; rfl
  have hka := KA.out
  have hkn := KN.out
  have hkz := KZ.out
  have hkl := KL.out
  have hall : ∀ k (h : k < ws.length), (ws[k]).length ≤ 400 := by
    subst hws
    intro k h
    have : k = 0 ∨ k = 1 ∨ k = 2 := by simp at h; omega
    rcases this with rfl | rfl | rfl
    · exact Nat.le_trans hkz (by decide)
    · exact Nat.le_trans hkl (by decide)
    · show ([138, 0, 176, 218, 162, 135, 68, 214, 164, 195, 198, 36, 84, 110, 75, 89] : List UInt8).length ≤ 400
      decide
  have hblk := Blk.new w' #[.string ⟨#[]⟩, S l1, .string ⟨#[138, 0, 176, 218, 162, 135, 68, 214, 164, 195, 198, 36, 84, 110, 75, 89]⟩] 24
  have hblk2 : Blk (w'.alloc (.cells #[.string ⟨#[]⟩, S l1, .string ⟨#[138, 0, 176, 218, 162, 135, 68, 214, 164, 195, 198, 36, 84, 110, 75, 89]⟩] 24 (0, 0))) w'.heap.size 24 (ws.map S) := by subst hws; exact hblk
  have hch2 := HC.out.alloc HC.out.size (.cells #[.string ⟨#[]⟩, S l1, .string ⟨#[138, 0, 176, 218, 162, 135, 68, 214, 164, 195, 198, 36, 84, 110, 75, 89]⟩] 24 (0, 0))
  obtain ⟨W1, hW1⟩ : ∃ W, w'.alloc (.cells #[.string ⟨#[]⟩, S l1, .string ⟨#[138, 0, 176, 218, 162, 135, 68, 214, 164, 195, 198, 36, 84, 110, 75, 89]⟩] 24 (0, 0)) = W := ⟨_, rfl⟩
  rw [hW1] at hblk2 hch2 ⊢
  obtain ⟨B, hB⟩ : ∃ B, w'.heap.size = B := ⟨_, rfl⟩
  rw [hB] at hblk2 ⊢
  have HALL := Lib.hid hall
  have HBL := Lib.hid hbl
  have HPB := Lib.hid (fun (m : List UInt8) (h : m.length ≤ 400) => C_pow_both (a := ([] : List UInt8)) (e := ([] : List UInt8)) (m := m) (Nat.le_trans hka (by decide)) (Nat.le_trans hkn (by decide)) h)
  clear hblk hW1 hB hall hbl hws HC hka hkn hkz hkl KA KN KZ KL H1
  go_loopw [41] (fun i wr => ∃ k : Nat, k ≤ 3 ∧ i = I k ∧ Ch w.heap.size none1 w wr ∧ Blk wr B 24 (ws.map S)) (fun i _ => 3 - (intOf i).toNat)
  case atStart => exact ⟨0, Nat.zero_le _, rfl, hch2, hblk2⟩
  case round =>
    clear hch2 hblk2
    obtain ⟨k, hk, rfl, hC, hB'⟩ := hrel
    have HB := Lib.hid hB'
    have HC := Lib.hid hC
    clear hC hB'
    by_cases hlt : k < 3
    · have hkm : k < ws.length := by rw [HBL.out]; exact hlt
      have hb := HALL.out k hkm
      have hc : wr.cell? ⟨B, k, none⟩ = some (S ws[k]) := by
        rw [HB.out.cell k, List.getElem?_map, List.getElem?_eq_getElem hkm]; rfl
      obtain ⟨m, hm⟩ : ∃ m, ws[k] = m := ⟨_, rfl⟩
      rw [hm] at hb hc
      clear hm
      obtain ⟨l, ok, g1, g2⟩ := HPB.out m hb
      have G1 := Lib.hid g1
      have G2 := Lib.hid g2
      clear g1 g2 hb
      go_wp2_with (first
        | (go_at_call 25; with_reducible refine (G1.out _).mono ?_; rintro e w' ⟨rfl, hC⟩; have HC2 := Lib.hid (HC.out.trans (hC.mono HC.out.size (fun _ _ q => q))); have HB2 := Lib.hid (hC.blk HB.out (Blk.lt HB.out) (fun q => q)); clear hC HC HB; have HC := HC2; have HB := HB2; clear HC2 HB2)
        | (go_at_call 26; with_reducible refine (G2.out _).mono ?_; rintro e w' ⟨rfl, hC⟩; have HC2 := Lib.hid (HC.out.trans (hC.mono HC.out.size (fun _ _ q => q))); have HB2 := Lib.hid (hC.blk HB.out (Blk.lt HB.out) (fun q => q)); clear hC HC HB; have HC := HC2; have HB := HB2; clear HC2 HB2))
      go_roundw
      case rel => exact ⟨k + 1, by omega, by go_num, HC.out, HB.out⟩
      case measure => simp [intOf]; omega
    · obtain rfl : k = 3 := by omega
      go_wp2_with fail
      go_ret
      exact ⟨rfl, HC.out⟩
theorem pows_core (vx ve vm : Value) (lx le lm : List UInt8) (w : World) (hx : BS w vx lx) (he : BS w ve le) (hm : BS w vm lm) (ht : pow10Is w) :
    Calls Tryd.prog 6 #[vx, ve, vm] w (Yld w (.bool true)) := by
  have hmax63 : maxLen = 9223372036854775807 := by decide
  have t24 : ∀ l : List UInt8, (l.take 24).length ≤ 24 := fun l => by rw [List.length_take]; exact Nat.min_le_left _ _
  have t12 : ∀ l : List UInt8, (l.take 12).length ≤ 24 := fun l => by rw [List.length_take]; exact Nat.le_trans (Nat.min_le_left _ _) (by decide)
  obtain ⟨pa, ca, rfl, hx1⟩ := hx
  obtain ⟨pn, cn, rfl, he1⟩ := he
  obtain ⟨pz, cz, rfl, hm1⟩ := hm
  have hx : BS w (.slice pa lx.length ca) lx := ⟨pa, ca, rfl, hx1⟩
  have he : BS w (.slice pn le.length cn) le := ⟨pn, cn, rfl, he1⟩
  have hm : BS w (.slice pz lm.length cz) lm := ⟨pz, cz, rfl, hm1⟩
  have la := hx.len
  have ln := he.len
  have lz := hm.len
  rw [hmax63] at la ln lz
  have cva := fun w' (hC : Ch w.heap.size none1 w w') => conv_BS (hx.ch hC) 24 (min (lx.length : Int) 24).toNat (by omega)
  have cvn := fun w' (hC : Ch w.heap.size none1 w w') => conv_BS (he.ch hC) 12 (min (le.length : Int) 12).toNat (by omega)
  have cvz := fun w' (hC : Ch w.heap.size none1 w w') => conv_BS (hm.ch hC) 24 (min (lm.length : Int) 24).toNat (by omega)
  rcases pa with _ | xa
  · obtain ⟨u1a, u2a⟩ := la.2.2.2 rfl
    rw [u1a]
    subst u2a
    rcases pn with _ | xn
    · obtain ⟨u1n, u2n⟩ := ln.2.2.2 rfl
      rw [u1n]
      subst u2n
      rcases pz with _ | xz
      · obtain ⟨u1z, u2z⟩ := lz.2.2.2 rfl
        rw [u1z]
        subst u2z
        exact pows_nnn  w ht 
      · exact pows_nns xz _ cz lz.2.1 lz.2.2.1 _ (t24 lm) w ht cvz
    · rcases pz with _ | xz
      · obtain ⟨u1z, u2z⟩ := lz.2.2.2 rfl
        rw [u1z]
        subst u2z
        exact pows_nsn xn _ cn ln.2.1 ln.2.2.1 _ (t12 le) w ht cvn
      · exact pows_nss xn _ cn ln.2.1 ln.2.2.1 _ (t12 le) xz _ cz lz.2.1 lz.2.2.1 _ (t24 lm) w ht cvn cvz
  · rcases pn with _ | xn
    · obtain ⟨u1n, u2n⟩ := ln.2.2.2 rfl
      rw [u1n]
      subst u2n
      rcases pz with _ | xz
      · obtain ⟨u1z, u2z⟩ := lz.2.2.2 rfl
        rw [u1z]
        subst u2z
        exact pows_snn xa _ ca la.2.1 la.2.2.1 _ (t24 lx) w ht cva
      · exact pows_sns xa _ ca la.2.1 la.2.2.1 _ (t24 lx) xz _ cz lz.2.1 lz.2.2.1 _ (t24 lm) w ht cva cvz
    · rcases pz with _ | xz
      · obtain ⟨u1z, u2z⟩ := lz.2.2.2 rfl
        rw [u1z]
        subst u2z
        exact pows_ssn xa _ ca la.2.1 la.2.2.1 _ (t24 lx) xn _ cn ln.2.1 ln.2.2.1 _ (t12 le) w ht cva cvn
      · exact pows_sss xa _ ca la.2.1 la.2.2.1 _ (t24 lx) xn _ cn ln.2.1 ln.2.2.1 _ (t12 le) xz _ cz lz.2.1 lz.2.2.1 _ (t24 lm) w ht cva cvn cvz
end Go.Proofs.YtcghnkdfhiancaaDoor
