/- The reference's digits, number, Text and Parse of layer 3. -/
import Derived.Test.YtehgkpbjbkeoeaaDoorDp
import Derived.Test.YtehgkpbjbkeoeaaDoorDn
namespace Go.Proofs.YtehgkpbjbkeoeaaDoor
open Go.RowKit Go.Shelf
attribute [local go_sem] Oper.semAt_some
theorem dcat1 (b : UInt8) (t : List UInt8) : (ByteArray.mk [b].toArray) ++ (ByteArray.mk t.toArray) = ⟨(b :: t).toArray⟩ := by
  apply ByteArray.ext
  simp [ByteArray.data_append]
theorem dconv1 (W : World) (b : UInt8) : (convert 27 9 (.slice (some ⟨W.heap.size, 0, none⟩) 1 1)).run Tryd.prog (W.alloc (.cells #[Y b] 5 (0, 0))) = .ok (S [b]) (W.alloc (.cells #[Y b] 5 (0, 0))) :=
  run_convert_blk _ _ _ 5 Tryd.underlying27 Tryd.underlying5 Tryd.underlying9 _ 0 1 1 [b] 5 [Y b] (Blk.new W #[Y b] _) rfl (fun i hi => by
    obtain rfl : i = 0 := by simp at hi; omega
    rfl)
namespace Lay
/-- What is still to be written ahead of the digits that stand. -/
def pe (k n : Nat) : Part := if n = 0 then List.replicate k 48 else pad k (n : Int)
theorem dec_lt' {n : Nat} (h : n < 10) : Lib.decDigits n = [UInt8.ofNat (48 + n)] := by rw [Lib.decDigits, dif_pos h]
theorem dec_ge' {n : Nat} (h : ¬ n < 10) : Lib.decDigits n = Lib.decDigits (n / 10) ++ [UInt8.ofNat (48 + n % 10)] := by rw [Lib.decDigits, dif_neg h]
theorem pe_step (k n : Nat) (h : 0 < n ∨ 0 < k) : pe k n = pe (k - 1) (n / 10) ++ [dg (n % 10)] := by
  unfold pe
  by_cases h0 : n = 0
  · subst h0
    obtain ⟨j, rfl⟩ : ∃ j, k = j + 1 := ⟨k - 1, by omega⟩
    simp only [Nat.zero_div, if_true, Nat.add_sub_cancel]
    rw [List.replicate_succ']
    rfl
  · rw [if_neg h0]
    by_cases h1 : n < 10
    · rw [if_pos (show n / 10 = 0 by omega)]
      unfold pad
      rw [Int.toNat_natCast, dec_lt' h1, Nat.mod_eq_of_lt h1]
      rfl
    · rw [if_neg (show ¬ n / 10 = 0 by omega)]
      unfold pad
      rw [Int.toNat_natCast, Int.toNat_natCast, dec_ge' h1, List.length_append]
      simp only [List.length_cons, List.length_nil]
      rw [show k - ((Lib.decDigits (n / 10)).length + (0 + 1)) = k - 1 - (Lib.decDigits (n / 10)).length by omega, List.append_assoc]
      rfl
theorem pe_pad (k n : Nat) (h : 1 ≤ k) : pe k n = pad k (n : Int) := by
  unfold pe
  split
  · rename_i h0
    subst h0
    obtain ⟨j, rfl⟩ : ∃ j, k = j + 1 := ⟨k - 1, by omega⟩
    unfold pad
    rw [Int.toNat_natCast, dec_lt' (by omega)]
    simp only [List.length_cons, List.length_nil, Nat.zero_add, Nat.add_sub_cancel]
    rw [List.replicate_succ']
    rfl
  · rfl
theorem padl {k n : Nat} (hk : k ≤ 100) (hn : n ≤ 100000) : (pad k (n : Int)).length ≤ 100201 := by
  unfold pad
  have := Go.Proofs.YtehgkpbjbkeoeaaDoor.dec_len n
  rw [List.length_append, List.length_replicate, Int.toNat_natCast]
  omega
end Lay
set_option maxRecDepth 100000 in
set_option maxHeartbeats 1600000 in
theorem digits_any (n0 k0 : Nat) (hn : n0 ≤ 100000) (hk1 : 1 ≤ k0) (hk : k0 ≤ 100) (w : World) :
    Calls Tryd.prog 23 #[.int .i64 (n0 : Int), .int .i64 (k0 : Int)] w (Yd w (S (Lay.pad k0 (n0 : Int)))) := by
  have hP := Lay.pe_pad k0 n0 hk1
  have hPl := Lay.padl hk hn
  rw [← hP] at hPl ⊢
  obtain ⟨T, hT⟩ : ∃ T, Lay.pe k0 n0 = T := ⟨_, rfl⟩
  rw [hT] at hPl ⊢
  clear hP
  go_enter Tryd.func23, Tryd.ntmps23
  go_wp2_with fail
  go_loopw [0, 1, 5] (fun a b c wr => ∃ (n : Nat) (l : Int) (t : List UInt8), n ≤ n0 ∧ a = .int .i64 (n : Int) ∧ b = iz l ∧ c = S t ∧ l ≤ 100 ∧ -200000 ≤ l ∧ l + (t.length : Int) = (k0 : Int) ∧ Lay.pe l.toNat n ++ t = T ∧ Ch w.heap.size none1 w wr) (fun a b _ _ => (intOf a).toNat + (intOf b).toNat)
  case atStart => exact ⟨n0, (k0 : Int), [], Nat.le_refl _, rfl, rfl, rfl, by omega, by omega, by simp, by rw [Int.toNat_natCast, List.append_nil, hT], Ch.refl _ _ _⟩
  case round =>
    obtain ⟨n, l, t, hnn, rfl, rfl, rfl, hl, hl2, hlt, ht, hC⟩ := hrel
    have htl : t.length ≤ 100201 := by have := congrArg List.length ht; rw [List.length_append] at this; omega
    have HT := Lib.hid ht
    have HC := Lib.hid hC
    clear ht hC hT
    by_cases hgo : 0 < n ∨ 0 < l
    · have hst := Lay.pe_step l.toNat n (hgo.imp id (fun h => by omega))
      obtain ⟨d1, d2⟩ := Lay.dg_dig (n % 10) (Nat.mod_lt _ (by omega))
      clear d1
      obtain ⟨b, hb⟩ : ∃ b, Lay.dg (n % 10) = b := ⟨_, rfl⟩
      rw [hb] at hst d2
      have hmod : n % 10 < 10 := Nat.mod_lt _ (by omega)
      obtain ⟨d, hd⟩ : ∃ d, n % 10 = d := ⟨_, rfl⟩
      rw [hd] at hmod d2
      have hti : ((n : Int)).tmod 10 = (d : Int) := by rw [Int.tmod_eq_emod_of_nonneg (by omega)]; omega
      have hdi : ((n : Int)).tdiv 10 = ((n / 10 : Nat) : Int) := by rw [Int.tdiv_eq_ediv_of_nonneg (by omega)]; omega
      have hq : n / 10 ≤ n := Nat.div_le_self _ _
      have HD0 := Lib.hid (show n = 0 → d = 0 from fun h => by omega)
      have HQ := Lib.hid (show 0 < n → n / 10 < n from fun h => by omega)
      obtain ⟨q, hqe⟩ : ∃ q, n / 10 = q := ⟨_, rfl⟩
      rw [hqe] at hst hdi hq HQ
      have hbv : (48 + (d : Int)) = (b.toNat : Int) := by omega
      have hbl : b.toNat ≤ 57 := by omega
      have hcv := fun W => dconv1 W b
      have HR := Lib.hid (show Lay.pe (l.toNat - 1) q ++ (b :: t) = T by rw [← HT.out, hst, List.append_assoc]; rfl)
      clear hst hb hd hqe d2
      have HG := Lib.hid hgo
      rcases Nat.eq_zero_or_pos n with h0 | hp
      · have hlp : 0 < l := hgo.resolve_left (by omega)
        have hb48 : b = 48 := UInt8.toNat_inj.1 (by have := HD0.out h0; show b.toNat = 48; omega)
        have hq0 : q = 0 := by omega
        subst h0 hq0 hb48
        have hcv0 : ∀ W : World, (convert 27 9 (.slice (some ⟨W.heap.size, 0, none⟩) 1 1)).run Tryd.prog (W.alloc (.cells #[.int .u8 48] 5)) = .ok (S [48]) (W.alloc (.cells #[.int .u8 48] 5)) := hcv
        clear hgo hq hcv hbv hti hdi
        go_wp2_with fail
        go_roundw
        case rel => exact ⟨0, l - 1, 48 :: t, by omega, rfl, rfl, by rw [dcat1], by omega, by omega, by rw [List.length_cons]; omega, by rw [show (l - 1).toNat = l.toNat - 1 by omega]; exact HR.out, HC.out.alloc HC.out.size _⟩
        case measure => simp [intOf]; omega
      · clear hgo
        go_wp2_with fail
        go_roundw
        case rel => exact ⟨q, l - 1, b :: t, by omega, rfl, rfl, by rw [dcat1], by omega, by omega, by rw [List.length_cons]; omega, by rw [show (l - 1).toNat = l.toNat - 1 by omega]; exact HR.out, HC.out.alloc HC.out.size _⟩
        case measure => have := HQ.out hp; simp [intOf]; omega
    · have h0 : n = 0 := by omega
      have hl0 : l ≤ 0 := by omega
      subst h0
      have HF := Lib.hid (show t = T by have := HT.out; rw [show l.toNat = 0 by omega] at this; exact this)
      clear hgo
      go_wp2_with fail
      go_ret
      exact ⟨by rw [HF.out]; rfl, HC.out⟩
theorem digits_of {n K : Int} {k : Nat} {t : List UInt8} (hK : K = (k : Int)) (h0 : 0 ≤ n) (h1 : n ≤ 100000) (hk1 : 1 ≤ k) (hk : k ≤ 100) (ht : Lay.pad k n = t) (w : World) :
    Calls Tryd.prog 23 #[iz n, iz K] w (Yd w (S t)) := by
  subst hK ht
  have := digits_any n.toNat k (by omega) hk1 hk w
  rw [Int.toNat_of_nonneg h0] at this
  exact this
namespace Lay
def nv (s : Part) : Int := s.foldl (fun n c => 10 * n + ((c.toNat : Int) - 48)) 0
def numB (s : Part) : Bool := s.all dig && decide (0 < s.length)
def numN (s : Part) : Int := if s.all dig then nv s else 0
theorem nv_snoc (s : Part) (c : UInt8) : nv (s ++ [c]) = 10 * nv s + ((c.toNat : Int) - 48) := by simp [nv]
theorem fold_bd : ∀ (s : Part) (n : Int) (j : Nat), s.all dig = true → s.length ≤ j → j ≤ 4 → 0 ≤ n → n ≤ bnd j →
    0 ≤ s.foldl (fun n c => 10 * n + ((c.toNat : Int) - 48)) n ∧ s.foldl (fun n c => 10 * n + ((c.toNat : Int) - 48)) n ≤ bnd (j - s.length)
  | [], n, j, _, _, _, h0, h1 => ⟨h0, h1⟩
  | c :: t, n, j, hd, hl, hj, h0, h1 => by
    rw [List.all_cons, Bool.and_eq_true] at hd
    obtain ⟨hc, ht⟩ := hd
    have hc' := dig_iff.1 hc
    obtain ⟨i, rfl⟩ : ∃ i, j = i + 1 := ⟨j - 1, by rw [List.length_cons] at hl; omega⟩
    rw [List.foldl_cons, List.length_cons, Nat.add_sub_add_right]
    exact fold_bd t _ i ht (by rw [List.length_cons] at hl; omega) (by omega) (by omega) (by unfold bnd at h1 ⊢; omega)
theorem nv_bd {s : Part} (hd : s.all dig = true) (hl : s.length ≤ 4) : 0 ≤ nv s ∧ nv s ≤ bnd (4 - s.length) := fold_bd s 0 4 hd hl (Nat.le_refl _) (Int.le_refl _) (by decide)
theorem bnd_le (j : Nat) : bnd j ≤ 9999 := by unfold bnd; omega
theorem numN_bd {s : Part} (hl : s.length ≤ 4) : 0 ≤ numN s ∧ numN s ≤ 9999 := by
  unfold numN
  split
  · have := nv_bd (by assumption) hl
    have := bnd_le (4 - s.length)
    omega
  · omega
theorem all_take {s : Part} (k : Nat) (h : s.all dig = true) : (s.take k).all dig = true := by
  rw [List.all_eq_true] at h ⊢
  exact fun x hx => h x (List.mem_of_mem_take hx)
end Lay
theorem take_succ_at {s : List UInt8} {k : Nat} {c : UInt8} (h : k < s.length) (hc : s[k] = c) : s.take (k + 1) = s.take k ++ [c] := by
  rw [List.take_succ_eq_append_getElem h, hc]
theorem all_no {s : List UInt8} {k : Nat} {c : UInt8} (h : k < s.length) (hc : s[k] = c) (hd : Lay.dig c = false) : s.all Lay.dig = false := by
  rw [List.all_eq_false]
  exact ⟨c, hc ▸ List.getElem_mem h, by rw [hd]; simp⟩
set_option maxRecDepth 100000 in
set_option maxHeartbeats 1600000 in
theorem number_any (s : List UInt8) (hs : s.length ≤ 4) (w : World) :
    Calls Tryd.prog 24 #[S s] w fun e w' => e = .returned (.tuple #[iz (Lay.numN s), .bool (Lay.numB s)]) ∧ w = w' := by
  go_enter Tryd.func24, Tryd.ntmps24
  go_wp2_with fail
  go_loop [4, 5] (fun a b => ∃ k : Nat, k ≤ s.length ∧ a = iz (Lay.nv (s.take k)) ∧ b = .int .i64 (k : Int) ∧ (s.take k).all Lay.dig = true) (fun _ b => s.length - (intOf b).toNat)
  case atStart => exact ⟨0, Nat.zero_le _, rfl, rfl, rfl⟩
  case round =>
    obtain ⟨k, hk, rfl, rfl, had⟩ := hrel
    have hbd := Lay.nv_bd had (by rw [List.length_take]; omega)
    have hb9 := Lay.bnd_le (4 - (s.take k).length)
    obtain ⟨n, hn⟩ : ∃ n, Lay.nv (s.take k) = n := ⟨_, rfl⟩
    rw [hn] at hbd ⊢
    have n0 : 0 ≤ n := hbd.1
    have n1 : n ≤ 9999 := by omega
    have HN := Lib.hid hn
    have HA := Lib.hid had
    clear hbd hb9 hn had
    by_cases hlt : k < s.length
    · obtain ⟨c, hc⟩ : ∃ c, s[k] = c := ⟨_, rfl⟩
      have hg : ∀ h', (ByteArray.mk s.toArray)[k]'h' = c := fun _ => hc
      have HT := Lib.hid (take_succ_at hlt hc)
      have HF := Lib.hid (fun hd => all_no hlt hc hd)
      clear hc
      have hc255 : c.toNat ≤ 255 := by have := c.toNat_lt; omega
      by_cases h1 : c.toNat < 48
      · have HR := Lib.hid (HF.out (by simp [Lay.dig]; omega))
        have h1' : (c.toNat : Int) < 48 := by omega
        go_wp2_with fail
        go_ret2
        exact ⟨by unfold Lay.numN Lay.numB; rw [HR.out]; rfl, rfl⟩
      · by_cases h2 : 57 < c.toNat
        · have HR := Lib.hid (HF.out (by simp [Lay.dig]; omega))
          have h1' : ¬ (c.toNat : Int) < 48 := by omega
          have h2' : (57 : Int) < (c.toNat : Int) := by omega
          go_wp2_with fail
          go_ret2
          exact ⟨by unfold Lay.numN Lay.numB; rw [HR.out]; rfl, rfl⟩
        · have h1' : ¬ (c.toNat : Int) < 48 := by omega
          have h2' : ¬ (57 : Int) < (c.toNat : Int) := by omega
          have HD := Lib.hid (show Lay.dig c = true by simp [Lay.dig]; omega)
          clear h1 h2
          go_wp2_with fail
          go_round
          case rel => exact ⟨k + 1, hlt, by rw [HT.out, Lay.nv_snoc, HN.out], by go_num, by rw [HT.out, List.all_append, HA.out]; simp [HD.out]⟩
          case measure => simp [intOf]; omega
    · obtain rfl : k = s.length := by omega
      have HS := Lib.hid (List.take_length (l := s))
      have HNN := Lib.hid (show Lay.numN s = n by unfold Lay.numN; rw [← HN.out, HS.out]; rw [HS.out] at HA; rw [if_pos HA.out])
      have HNB := Lib.hid (show Lay.numB s = decide (0 < s.length) by unfold Lay.numB; rw [HS.out] at HA; rw [HA.out, Bool.true_and])
      rcases Nat.eq_zero_or_pos s.length with h0 | h0
      · have HB := Lib.hid (show Lay.numB s = false by rw [HNB.out, h0]; rfl)
        go_wp2_with fail
        go_ret2
        exact ⟨by rw [HNN.out, HB.out]; rfl, rfl⟩
      · have HB := Lib.hid (show Lay.numB s = true by rw [HNB.out]; exact decide_eq_true h0)
        have h5 : (s.length : Int) < 5 := by omega
        have h0' : (0 : Int) < (s.length : Int) := by omega
        go_wp2_with fail
        go_ret2
        exact ⟨by rw [HNN.out, HB.out]; rfl, rfl⟩
end Go.Proofs.YtehgkpbjbkeoeaaDoor
