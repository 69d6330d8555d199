/- Contracts of package nat's Add, Sub and Mul. -/
import Derived.Test.YtcghnkdfhiancaaDoorNi
namespace Go.Proofs.YtcghnkdfhiancaaDoor
open Go.RowKit
theorem own_of_blk {w : World} {B g n cap : Nat} {vs cs : List Value} (h : Blk w g 52 cs) (hl : cs.length = cap) (hn : n ≤ cap) (hm : cap ≤ maxLen) (ht : cs.take n = vs) (hb : B ≤ g) :
    w.ownsRow B 52 1 (.slice (some ⟨g, 0, none⟩) n cap) n vs :=
  ⟨by rw [← ht, List.length_take]; omega, .inr ⟨g, cap, cs.toArray, rfl, hb, h, hn, hm, by simp; omega, by simpa using ht⟩⟩
theorem dg_of_own {w : World} {B n : Nat} {v : Value} {xs : List Nat} (h : w.ownsRow B 52 1 v n (xs.map U)) (hx : Dok xs) :
    ∃ p cap, v = .slice p n cap ∧ Dg w p n xs ∧ n ≤ cap ∧ cap ≤ maxLen ∧ (∀ a, p = some a → B ≤ a.block ∧ a.off = 0) := by
  obtain ⟨h1, h2⟩ := h
  have hl : xs.length = n := by simpa using h1
  rcases h2 with ⟨rfl, rfl⟩ | ⟨g, cap, cur, rfl, hb, hg, hn, hm, hs, ht⟩
  · exact ⟨none, 0, rfl, ⟨hl, hx, fun _ => rfl, fun a ha => by simp at ha⟩, Nat.le_refl _, by decide, fun a ha => by simp at ha⟩
  · refine ⟨some ⟨g, 0, none⟩, cap, rfl, ⟨hl, hx, fun q => by simp at q, fun a ha => ?_⟩, hn, hm, fun a ha => ?_⟩
    · simp only [Option.some.injEq] at ha
      subst ha
      refine ⟨rfl, 52, [], cur.toList.drop n, ?_, rfl⟩
      unfold Blk
      rw [List.nil_append, ← ht, Nat.mul_one, List.take_append_drop]
      simpa using hg
    · simp only [Option.some.injEq] at ha
      subst ha
      exact ⟨hb, rfl⟩
theorem dg_of_blk {w : World} {g : Nat} {t : TypeId} {xs : List Nat} {post : List Value} (h : Blk w g t (xs.map U ++ post)) (hx : Dok xs) (n : Nat) (hn : xs.length = n) : Dg w (some ⟨g, 0, none⟩) n xs :=
  ⟨hn, hx, fun q => by simp at q, fun a ha => by
    simp only [Option.some.injEq] at ha
    subst ha
    exact ⟨rfl, t, [], post, by simpa using h, rfl⟩⟩
theorem Ch.of_grown_own {w w' : World} {g n cap : Nat} (h : w.grownBy w' (Value.ownBlock (.slice (some ⟨g, 0, none⟩) n cap))) : Ch w.heap.size (· = g) w w' :=
  ⟨h.os, h.tape, h.output, h.size, fun k hk hr => h.block k hk (fun e => hr (by simpa [Value.ownBlock] using e))⟩
/-- The greatest size of a number, in bytes, that these contracts speak of. -/
def LIM : Nat := 70368744177664
theorem ds_lim (a : List UInt8) (h : a.length ≤ LIM) : (ds (bv a)).length ≤ 8796093022208 := by
  have h1 := ds_len_bytes a
  have h2 := trimL_len a
  unfold LIM at h
  omega
set_option maxRecDepth 100000 in
set_option maxHeartbeats 1600000 in
theorem Add_any (a b : List UInt8) (w : World) (ha : a.length ≤ LIM) (hb : b.length ≤ LIM) :
    Calls Tryd.prog 15 #[S a, S b] w fun e w' => e = .returned (S (nb (bv a + bv b))) ∧ Ch w.heap.size none1 w w' := by
  have ham : a.length ≤ maxLen := by unfold LIM at ha; unfold maxLen; omega
  have hbm : b.length ≤ maxLen := by unfold LIM at hb; unfold maxLen; omega
  by_cases hw : bv a < 18446744073709551616 ∧ bv b < 18446744073709551616
  · obtain ⟨h1, h2⟩ := hw
    have hadd := add64_run0 (bv a) (bv b)
    by_cases hs : bv a + bv b < 18446744073709551616
    · rw [Nat.mod_eq_of_lt (show bv a + bv b < D from hs), Nat.div_eq_of_lt (show bv a + bv b < D from hs)] at hadd
      have HA := Lib.hid (fun w => wordNat_any (bv a + bv b) w hs)
      generalize hsum : bv a + bv b = sum at *
      have HSUM := Lib.hid hsum; clear hsum
      go_enter Tryd.func15, Tryd.ntmps15
      go_wp2_with fail
      refine (words_yes a b _ ham hbm h1 h2).mono ?_
      rintro e w' ⟨rfl, rfl⟩
      go_wp2_with fail
      refine (HA.out _).mono ?_
      rintro e w2 ⟨rfl, hC⟩
      go_wp2_with fail
      go_ret
      exact ⟨rfl, hC⟩
    · have hq : (bv a + bv b) / D ≠ 0 := by
        rw [Nat.div_ne_zero_iff]; exact ⟨by unfold D; omega, by unfold D; omega⟩
      generalize hqq : (bv a + bv b) / D = q at *
      generalize hss : (bv a + bv b) % D = s at *
      clear hqq hss
      have hb0 : (((q : Nat) : Int) == 0) = false := by rw [beq_eq_false_iff_ne]; omega
      go_enter Tryd.func15, Tryd.ntmps15
      go_wp2_with fail
      refine (words_yes a b _ ham hbm h1 h2).mono ?_
      rintro e w' ⟨rfl, rfl⟩
      obtain ⟨w, rfl⟩ : ∃ w : World, w = w' := ⟨_, rfl⟩
      clear h1 h2 hs
      go_wp2_with fail
      clear hadd hq hb0
      refine (digitsOf_any a _ (by unfold LIM at ha; omega)).mono ?_
      rintro e w1 ⟨g1, rfl, hB1, hg1, hC1⟩
      go_wp2_with fail
      refine (digitsOf_any b _ (by unfold LIM at hb; omega)).mono ?_
      rintro e w2 ⟨g2, rfl, hB2, hg2, hC2⟩
      have hlt1 := hB1.lt
      have hB1' := hC2.blk hB1 hlt1 (fun q => q)
      have hC := hC1.step0 hC2 (Nat.le_refl _)
      clear hB1 hC1 hC2
      have hXA := dv_ds (bv a)
      have hXB := dv_ds (bv b)
      have hda := dok_ds (bv a)
      have hdb := dok_ds (bv b)
      have hna := ds_lim a ha
      have hnb := ds_lim b hb
      generalize ds (bv a) = xs at *
      generalize ds (bv b) = ys at *
      obtain ⟨n, hn⟩ : ∃ n, xs.length = n := ⟨_, rfl⟩
      obtain ⟨m, hm⟩ : ∃ m, ys.length = m := ⟨_, rfl⟩
      rw [hn] at hna ⊢
      rw [hm] at hnb ⊢
      have HXA := Lib.hid hXA; clear hXA
      have HXB := Lib.hid hXB; clear hXB
      have HN := Lib.hid hn; clear hn
      have HM := Lib.hid hm; clear hm
      by_cases hlen : n < m
      · go_wp2_with fail
        refine (add_any m n m n g2 0 _ _ [] [] ys xs _ hdb HM.out (by unfold maxLen; omega) (Nat.le_refl _) (by omega) (hB2.cast (by simp)) rfl (dg_of_blk (hB1'.cast (by simp) : Blk _ _ _ (xs.map U ++ [])) hda n HN.out) (fun q hq => by simp only [Option.some.injEq] at hq; subst hq; show g1 ≠ g2; omega)).mono ?_
        rintro e w3 ⟨c, zs, rfl, hc, hz, hzl, hzv, hB3, hC3⟩
        have HZ := Lib.hid hzl; clear hzl
        have HV := Lib.hid hzv; clear hzv
        have hB4 : Blk w3 g2 52 (zs.map U) := hB3.cast (by simp)
        have hown := own_of_blk (B := w.heap.size) hB4 (cap := m) (n := m) (by rw [List.length_map, HZ.out]) (Nat.le_refl _) (by unfold maxLen; omega) (List.take_of_length_le (by rw [List.length_map, HZ.out]; exact Nat.le_refl _)) (by omega)
        have HB3 := Lib.hid hB3; clear hB3 hB4
        have hsz := hC3.size
        have hsz2 := hC.size
        obtain ⟨i0, hi, hz0, hz1, hz2⟩ := info_parts Tryd.info52
        go_wp2_with (at_builtin; refine wpList_append_own _ rfl _ _ 57 rfl w.heap.size 52 i0 (.int .u64 0) 1 8 Tryd.underlying57 hi hz0 hz1 hz2 rfl (by decide) _ m (zs.map U) rfl (hown.alloc _) ⟨w3.heap.size, 0, none⟩ 1 1 [U c] rfl rfl (Blk.new _ #[U c] _).adds (by simp [one_int]) (by unfold maxLen; omega) (by omega) (by simp; omega) ?_; intro v' w4 hown' hgrow _)
        have hz5 : Dok (zs ++ [c]) := hz.append (Dok.cons hc Dok.nil)
        obtain ⟨p, cap, rfl, hd, _, _, _⟩ := dg_of_own (xs := zs ++ [c]) (by simpa using hown') hz5
        clear hown hown'
        have hgr := Ch.of_grown_own hgrow
        clear hgrow
        have hC5 : Ch w.heap.size none1 w w4 := by
          have h3 := hC.step hC3 (Nat.le_refl _) (fun k hk q => absurd q (by omega))
          exact (h3.alloc (by omega) _).step hgr (Nat.le_refl _) (fun k hk q => absurd q (by omega))
        go_wp2_with fail
        refine (natural_any p _ cap _ _ hd (by omega)).mono ?_
        rintro e w5 ⟨rfl, hC6⟩
        go_wp2_with fail
        go_ret
        refine ⟨ret_S ?_, hC5.step0 hC6 (Nat.le_refl _)⟩
        rw [dv_snoc, HZ.out, HV.out, HXA.out, HXB.out, Nat.add_comm]
      · go_wp2_with fail
        refine (add_any n m n m g1 0 _ _ [] [] xs ys _ hda HN.out (by unfold maxLen; omega) (Nat.le_refl _) (by omega) (hB1'.cast (by simp)) rfl (dg_of_blk (hB2.cast (by simp) : Blk _ _ _ (ys.map U ++ [])) hdb m HM.out) (fun q hq => by simp only [Option.some.injEq] at hq; subst hq; show g2 ≠ g1; omega)).mono ?_
        rintro e w3 ⟨c, zs, rfl, hc, hz, hzl, hzv, hB3, hC3⟩
        have HZ := Lib.hid hzl; clear hzl
        have HV := Lib.hid hzv; clear hzv
        have hB4 : Blk w3 g1 52 (zs.map U) := hB3.cast (by simp)
        have hown := own_of_blk (B := w.heap.size) hB4 (cap := n) (n := n) (by rw [List.length_map, HZ.out]) (Nat.le_refl _) (by unfold maxLen; omega) (List.take_of_length_le (by rw [List.length_map, HZ.out]; exact Nat.le_refl _)) (by omega)
        have HB3 := Lib.hid hB3; clear hB3 hB4
        have hsz := hC3.size
        have hsz2 := hC.size
        obtain ⟨i0, hi, hz0, hz1, hz2⟩ := info_parts Tryd.info52
        go_wp2_with (at_builtin; refine wpList_append_own _ rfl _ _ 57 rfl w.heap.size 52 i0 (.int .u64 0) 1 8 Tryd.underlying57 hi hz0 hz1 hz2 rfl (by decide) _ n (zs.map U) rfl (hown.alloc _) ⟨w3.heap.size, 0, none⟩ 1 1 [U c] rfl rfl (Blk.new _ #[U c] _).adds (by simp [one_int]) (by unfold maxLen; omega) (by omega) (by simp; omega) ?_; intro v' w4 hown' hgrow _)
        have hz5 : Dok (zs ++ [c]) := hz.append (Dok.cons hc Dok.nil)
        obtain ⟨p, cap, rfl, hd, _, _, _⟩ := dg_of_own (xs := zs ++ [c]) (by simpa using hown') hz5
        clear hown hown'
        have hgr := Ch.of_grown_own hgrow
        clear hgrow
        have hC5 : Ch w.heap.size none1 w w4 := by
          have h3 := hC.step hC3 (Nat.le_refl _) (fun k hk q => absurd q (by omega))
          exact (h3.alloc (by omega) _).step hgr (Nat.le_refl _) (fun k hk q => absurd q (by omega))
        go_wp2_with fail
        refine (natural_any p _ cap _ _ hd (by omega)).mono ?_
        rintro e w5 ⟨rfl, hC6⟩
        go_wp2_with fail
        go_ret
        refine ⟨ret_S ?_, hC5.step0 hC6 (Nat.le_refl _)⟩
        rw [dv_snoc, HZ.out, HV.out, HXA.out, HXB.out]
  · go_enter Tryd.func15, Tryd.ntmps15
    go_wp2_with fail
    refine (words_no a b _ ham hbm hw).mono ?_
    rintro e w' ⟨rfl, rfl⟩
    obtain ⟨w, rfl⟩ : ∃ w : World, w = w' := ⟨_, rfl⟩
    clear hw
    go_wp2_with fail
    refine (digitsOf_any a _ (by unfold LIM at ha; omega)).mono ?_
    rintro e w1 ⟨g1, rfl, hB1, hg1, hC1⟩
    go_wp2_with fail
    refine (digitsOf_any b _ (by unfold LIM at hb; omega)).mono ?_
    rintro e w2 ⟨g2, rfl, hB2, hg2, hC2⟩
    have hlt1 := hB1.lt
    have hB1' := hC2.blk hB1 hlt1 (fun q => q)
    have hC := hC1.step0 hC2 (Nat.le_refl _)
    clear hB1 hC1 hC2
    have hXA := dv_ds (bv a)
    have hXB := dv_ds (bv b)
    have hda := dok_ds (bv a)
    have hdb := dok_ds (bv b)
    have hna := ds_lim a ha
    have hnb := ds_lim b hb
    generalize ds (bv a) = xs at *
    generalize ds (bv b) = ys at *
    obtain ⟨n, hn⟩ : ∃ n, xs.length = n := ⟨_, rfl⟩
    obtain ⟨m, hm⟩ : ∃ m, ys.length = m := ⟨_, rfl⟩
    rw [hn] at hna ⊢
    rw [hm] at hnb ⊢
    have HXA := Lib.hid hXA; clear hXA
    have HXB := Lib.hid hXB; clear hXB
    have HN := Lib.hid hn; clear hn
    have HM := Lib.hid hm; clear hm
    by_cases hlen : n < m
    · go_wp2_with fail
      refine (add_any m n m n g2 0 _ _ [] [] ys xs _ hdb HM.out (by unfold maxLen; omega) (Nat.le_refl _) (by omega) (hB2.cast (by simp)) rfl (dg_of_blk (hB1'.cast (by simp) : Blk _ _ _ (xs.map U ++ [])) hda n HN.out) (fun q hq => by simp only [Option.some.injEq] at hq; subst hq; show g1 ≠ g2; omega)).mono ?_
      rintro e w3 ⟨c, zs, rfl, hc, hz, hzl, hzv, hB3, hC3⟩
      have HZ := Lib.hid hzl; clear hzl
      have HV := Lib.hid hzv; clear hzv
      have hB4 : Blk w3 g2 52 (zs.map U) := hB3.cast (by simp)
      have hown := own_of_blk (B := w.heap.size) hB4 (cap := m) (n := m) (by rw [List.length_map, HZ.out]) (Nat.le_refl _) (by unfold maxLen; omega) (List.take_of_length_le (by rw [List.length_map, HZ.out]; exact Nat.le_refl _)) (by omega)
      have HB3 := Lib.hid hB3; clear hB3 hB4
      have hsz := hC3.size
      have hsz2 := hC.size
      obtain ⟨i0, hi, hz0, hz1, hz2⟩ := info_parts Tryd.info52
      go_wp2_with (at_builtin; refine wpList_append_own _ rfl _ _ 57 rfl w.heap.size 52 i0 (.int .u64 0) 1 8 Tryd.underlying57 hi hz0 hz1 hz2 rfl (by decide) _ m (zs.map U) rfl (hown.alloc _) ⟨w3.heap.size, 0, none⟩ 1 1 [U c] rfl rfl (Blk.new _ #[U c] _).adds (by simp [one_int]) (by unfold maxLen; omega) (by omega) (by simp; omega) ?_; intro v' w4 hown' hgrow _)
      have hz5 : Dok (zs ++ [c]) := hz.append (Dok.cons hc Dok.nil)
      obtain ⟨p, cap, rfl, hd, _, _, _⟩ := dg_of_own (xs := zs ++ [c]) (by simpa using hown') hz5
      clear hown hown'
      have hgr := Ch.of_grown_own hgrow
      clear hgrow
      have hC5 : Ch w.heap.size none1 w w4 := by
        have h3 := hC.step hC3 (Nat.le_refl _) (fun k hk q => absurd q (by omega))
        exact (h3.alloc (by omega) _).step hgr (Nat.le_refl _) (fun k hk q => absurd q (by omega))
      go_wp2_with fail
      refine (natural_any p _ cap _ _ hd (by omega)).mono ?_
      rintro e w5 ⟨rfl, hC6⟩
      go_wp2_with fail
      go_ret
      refine ⟨ret_S ?_, hC5.step0 hC6 (Nat.le_refl _)⟩
      rw [dv_snoc, HZ.out, HV.out, HXA.out, HXB.out, Nat.add_comm]
    · go_wp2_with fail
      refine (add_any n m n m g1 0 _ _ [] [] xs ys _ hda HN.out (by unfold maxLen; omega) (Nat.le_refl _) (by omega) (hB1'.cast (by simp)) rfl (dg_of_blk (hB2.cast (by simp) : Blk _ _ _ (ys.map U ++ [])) hdb m HM.out) (fun q hq => by simp only [Option.some.injEq] at hq; subst hq; show g2 ≠ g1; omega)).mono ?_
      rintro e w3 ⟨c, zs, rfl, hc, hz, hzl, hzv, hB3, hC3⟩
      have HZ := Lib.hid hzl; clear hzl
      have HV := Lib.hid hzv; clear hzv
      have hB4 : Blk w3 g1 52 (zs.map U) := hB3.cast (by simp)
      have hown := own_of_blk (B := w.heap.size) hB4 (cap := n) (n := n) (by rw [List.length_map, HZ.out]) (Nat.le_refl _) (by unfold maxLen; omega) (List.take_of_length_le (by rw [List.length_map, HZ.out]; exact Nat.le_refl _)) (by omega)
      have HB3 := Lib.hid hB3; clear hB3 hB4
      have hsz := hC3.size
      have hsz2 := hC.size
      obtain ⟨i0, hi, hz0, hz1, hz2⟩ := info_parts Tryd.info52
      go_wp2_with (at_builtin; refine wpList_append_own _ rfl _ _ 57 rfl w.heap.size 52 i0 (.int .u64 0) 1 8 Tryd.underlying57 hi hz0 hz1 hz2 rfl (by decide) _ n (zs.map U) rfl (hown.alloc _) ⟨w3.heap.size, 0, none⟩ 1 1 [U c] rfl rfl (Blk.new _ #[U c] _).adds (by simp [one_int]) (by unfold maxLen; omega) (by omega) (by simp; omega) ?_; intro v' w4 hown' hgrow _)
      have hz5 : Dok (zs ++ [c]) := hz.append (Dok.cons hc Dok.nil)
      obtain ⟨p, cap, rfl, hd, _, _, _⟩ := dg_of_own (xs := zs ++ [c]) (by simpa using hown') hz5
      clear hown hown'
      have hgr := Ch.of_grown_own hgrow
      clear hgrow
      have hC5 : Ch w.heap.size none1 w w4 := by
        have h3 := hC.step hC3 (Nat.le_refl _) (fun k hk q => absurd q (by omega))
        exact (h3.alloc (by omega) _).step hgr (Nat.le_refl _) (fun k hk q => absurd q (by omega))
      go_wp2_with fail
      refine (natural_any p _ cap _ _ hd (by omega)).mono ?_
      rintro e w5 ⟨rfl, hC6⟩
      go_wp2_with fail
      go_ret
      refine ⟨ret_S ?_, hC5.step0 hC6 (Nat.le_refl _)⟩
      rw [dv_snoc, HZ.out, HV.out, HXA.out, HXB.out]
end Go.Proofs.YtcghnkdfhiancaaDoor
