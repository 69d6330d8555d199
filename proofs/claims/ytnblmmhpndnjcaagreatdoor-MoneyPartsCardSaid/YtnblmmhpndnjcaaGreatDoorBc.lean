/- Contracts of packages nat and tithingref01, joined out of smaller texts. -/
import Derived.Test.YtnblmmhpndnjcaaGreatDoorBb
import Derived.Lib.AppendIntMem
import Derived.Deep.RegionHeld3
import Derived.StillTailTactics
import Derived.Lib.ConvBytes
namespace Go.Proofs.YtnblmmhpndnjcaaGreatDoor
open Go.RowKit
open Go.Sort Go.Lib in
set_option maxHeartbeats 3200000 in
set_option maxRecDepth 100000 in
theorem FormatUint_in (u : Nat) (hu : 100 ≤ u) (hu64 : u < 18446744073709551616) (w : World) (htab : Lib.TabIs Tryz.prog w "internal/strconv.uint64pow10" .u64 Lib.pow10Tab) :
    Calls Tryz.prog 210 #[.int .u64 u, .int .i64 10] w (Yld w (S (Lib.decDigits u))) := by
  have hu1 : 1 ≤ u := by omega
  have hnd20 : Lib.nDigits u ≤ 20 := by have := Lib.numDigits_eq u hu1 hu64; split at this <;> omega
  have hal : Tryz.prog.arrayLen 210 = 24 := by kernel_rfl
  have hsl : ∀ W, (Instr.sliceAt 210 (.pointer (some ⟨w.heap.size, 0, none⟩)) none (some (.int .i64 (Lib.nDigits u : Int))) none).run Tryz.prog W = .ok (.slice (some ⟨w.heap.size, 0, none⟩) (Lib.nDigits u) 24) W := fun W => by
    rw [run_sliceAt_array_h W 210 ⟨w.heap.size, 0, none⟩ (by kernel_rfl) .i64 (Lib.nDigits u : Int) (by omega) (by rw [hal]; omega)]
    go_simp
  have hH0 := Lib.holds_zero0 w 210 (Lib.nDigits u) (by omega)
  have hfmt := Tryz.internal_strconv_formatBase10 w.heap.size 0 24 u (Array.replicate (Lib.nDigits u) 0) (w.alloc (.cells Lib.zeros24 210)) hH0 (by rw [Array.size_replicate]; exact Lib.lt_pow_nDigits u) hu64 (by rw [Array.size_replicate]; omega)
  rw [Array.size_replicate] at hfmt
  have HH0 := Lib.hid hH0
  have HFMT := Lib.hid hfmt
  have HTAB := Lib.hid htab
  clear hH0 hal hfmt htab
  go_enter Tryz.func210, Tryz.ntmps210
  go_wp2_with (first
    | (go_at_call 224; refine (Tryz.internal_strconv_numDigits u hu1 hu64 _ (Lib.tabIs_alloc HTAB.out _)).mono ?_; rintro e w' ⟨rfl, rfl⟩))
  refine HFMT.out.mono ?_
  rintro e w' ⟨rfl, k, v', dk, rfl, hF⟩
  have hcv : (convert 87 9 (.slice (some ⟨w.heap.size, 0, none⟩) (Lib.nDigits u) 24)).run Tryz.prog ((putRow (fun (b : UInt8) => Value.int .u8 (b.toNat : Int)) (w.alloc (.cells Lib.zeros24 210)) w.heap.size 0 dk).drewN k) = .ok (.string ⟨(Lib.decDigits u).toArray⟩) ((putRow (fun (b : UInt8) => Value.int .u8 (b.toNat : Int)) (w.alloc (.cells Lib.zeros24 210)) w.heap.size 0 dk).drewN k) := by
    have h := run_convert_bytes_back (P := Tryz.prog) ((putRow (fun (b : UInt8) => Value.int .u8 (b.toNat : Int)) (w.alloc (.cells Lib.zeros24 210)) w.heap.size 0 dk).drewN k) 87 9 5 ⟨w.heap.size, 0, none⟩ 24 (Lib.decDigits u) Tryz.underlying87 Tryz.underlying5 Tryz.underlying9 (fun j hj => by
      rw [Lib.row_is_numeral hF j hj, Lib.add_plain, World.cell?_drewN]
      exact cell?_putRow (fun (b : UInt8) => Value.int .u8 (b.toNat : Int)) _ w.heap.size 0 _ dk HH0.out (by rw [hF.size, Array.size_replicate]) j (by rw [hF.size]; rw [Lib.decDigits_length] at hj; exact hj))
    rw [Lib.decDigits_length] at h
    exact h
  obtain ⟨os, eo⟩ := Lib.fin_at w (.cells Lib.zeros24 210) dk k 0
  have hnx2 : Below w.heap.size w ((putRow (fun (b : UInt8) => Value.int .u8 (b.toNat : Int)) (w.alloc (.cells Lib.zeros24 210)) w.heap.size 0 dk).drewN k) := by rw [eo]; exact Lib.below_grow w.heap.size w (Nat.le_refl _) k os
  generalize (putRow (fun (b : UInt8) => Value.int .u8 (b.toNat : Int)) (w.alloc (.cells Lib.zeros24 210)) w.heap.size 0 dk).drewN k = W2 at hcv hnx2 ⊢
  have HNX := Lib.hid hnx2
  clear hnx2 eo hF
  go_wp2_with fail
  go_ret
  exact ⟨rfl, below_ch HNX.out⟩
theorem FormatUint_big (u : Nat) (hu : 100 ≤ u) (hu64 : u < 18446744073709551616) (w : World) (ht : pow10Is w) :
    Calls Tryz.prog 186 #[.int .u64 u, .int .i64 10] w (Yld w (S (Lib.decDigits u))) := by
  have HC := Lib.hid (FormatUint_in u hu hu64 w ht)
  go_enter Tryz.func186, Tryz.ntmps186
  go_wp2_with fail
  refine HC.out.mono ?_
  rintro e w1 ⟨rfl, hC⟩
  go_wp2_with fail
  go_ret
  exact ⟨rfl, hC⟩
end Go.Proofs.YtnblmmhpndnjcaaGreatDoor
namespace Go.Proofs.YtnblmmhpndnjcaaGreatDoor
open Go.RowKit
def pad : Nat → Nat → List UInt8
  | 0, _ => []
  | k + 1, g => pad k (g / 10) ++ [UInt8.ofNat (48 + g % 10)]
theorem dec_pad_k (k : Nat) : ∀ n g, 0 < n → g < 10 ^ k → Lib.decDigits (n * 10 ^ k + g) = Lib.decDigits n ++ pad k g := by
  induction k with
  | zero =>
    intro n g _ hg
    have : g = 0 := by simpa using hg
    subst this
    simp [pad]
  | succ k ih =>
    intro n g hn hg
    rw [Nat.pow_succ] at hg
    have hp : 0 < n * 10 ^ k := Nat.mul_pos hn (Nat.pow_pos (by omega))
    have e : n * 10 ^ (k + 1) = n * 10 ^ k * 10 := by rw [Nat.pow_succ, Nat.mul_assoc]
    rw [e, dec_ge (by omega), show (n * 10 ^ k * 10 + g) / 10 = n * 10 ^ k + g / 10 by omega, show (n * 10 ^ k * 10 + g) % 10 = g % 10 by omega, ih n (g / 10) hn (by omega), List.append_assoc]
    rfl
theorem pad_len (k : Nat) : ∀ g, (pad k g).length = k := by
  induction k with
  | zero => intro g; rfl
  | succ k ih => intro g; simp [pad, ih]
theorem dec_group (n g : Nat) (hn : 0 < n) (hg : g < 1000000000000000000) : Lib.decDigits (n * 1000000000000000000 + g) = Lib.decDigits n ++ pad 18 g :=
  (by
    have h18 : (10 : Nat) ^ 18 = 1000000000000000000 := by decide
    have h := dec_pad_k 18 n g hn (by rw [h18]; exact hg)
    rw [h18] at h
    exact h)
theorem dec_lead (g : Nat) (hg : g < 1000000000000000000) : Lib.decDigits (1000000000000000000 + g) = 49 :: pad 18 g := by
  have h18 : (10 : Nat) ^ 18 = 1000000000000000000 := by decide
  have h := dec_pad_k 18 1 g (by omega) (by rw [h18]; exact hg)
  rw [h18, dec_lt (show 1 < 10 by omega), Nat.one_mul] at h
  have e : UInt8.ofNat (48 + 1) = 49 := by decide
  rw [h, e, List.singleton_append]
theorem Own.chR {w w' : World} {B : Nat} {e : TypeId} {v : Value} {xs : List Value} {R : Nat → Prop} (h : Own w B e v xs) (hC : Ch w.heap.size R w w') (hR : ∀ k, B ≤ k → k < w.heap.size → ¬ R k) : Own w' B e v xs := by
  obtain ⟨h1, h2⟩ := h
  refine ⟨h1, ?_⟩
  rcases h2 with q | ⟨g, cap, cur, hv, hb, hg, r⟩
  · exact .inl q
  · have hl : g < w.heap.size := (Array.getElem?_eq_some_iff.1 hg).1
    exact .inr ⟨g, cap, cur, hv, hb, by rw [hC.block g hl (hR g hb hl)]; exact hg, r⟩
theorem own_text (w : World) (B : Nat) (v : Value) (l : List UInt8) (h : Own w B 5 v (l.map Y)) : (convert 87 9 v).run Tryz.prog w = .ok (S l) w := by
  obtain ⟨h1, h2⟩ := h
  rcases h2 with ⟨rfl, h0⟩ | ⟨g, cap, cur, rfl, hb, hg, hn, hm, hs, ht⟩
  · have hl : l = [] := by
      rw [List.length_map] at h0
      exact List.eq_nil_of_length_eq_zero h0
    subst hl
    exact (show (convert 87 9 (.slice none 0 0)).run Tryz.prog w = .ok (.string ⟨#[]⟩) w from by kernel_rfl)
  · rw [List.length_map] at ht ⊢
    rw [Nat.mul_one] at ht
    have hB : Blk w g 5 cur.toList := by unfold Blk; simpa using hg
    exact run_convert_blk (P := Tryz.prog) w 87 9 5 Tryz.underlying87 Tryz.underlying5 Tryz.underlying9 g 0 l.length cap l 5 cur.toList hB rfl (fun i hi => by
      have h1 := congrArg (·[i]?) ht
      simp only [List.getElem?_take, List.getElem?_map] at h1
      rw [if_pos hi, List.getElem?_eq_getElem hi] at h1
      rw [Nat.zero_add, h1]; rfl)
theorem groups_room (N kk L : Nat) (hN : N < 10 ^ kk) (hM : 0 < N / 1000000000000000000 ^ L) : L ≤ kk := by
  have h1 : 1000000000000000000 ^ L ≤ N := by
    rcases Nat.lt_or_ge N (1000000000000000000 ^ L) with h | h
    · rw [Nat.div_eq_of_lt h] at hM; omega
    · exact h
  have h2 : (10 : Nat) ^ L ≤ 1000000000000000000 ^ L := Nat.pow_le_pow_left (by omega) _
  have h3 : (10 : Nat) ^ L < 10 ^ kk := by omega
  have := (Nat.pow_lt_pow_iff_right (a := 10) (by omega)).1 h3
  omega
theorem group_div (N j : Nat) : N / 1000000000000000000 ^ j = N / 1000000000000000000 ^ (j + 1) * 1000000000000000000 + N / 1000000000000000000 ^ j % 1000000000000000000 := by
  rw [Nat.pow_succ, ← Nat.div_div_eq_div_mul]
  have := Nat.div_add_mod (N / 1000000000000000000 ^ j) 1000000000000000000
  omega
theorem div_mono_pos (N j L : Nat) (hj : j ≤ L) (h : 0 < N / 1000000000000000000 ^ L) : 0 < N / 1000000000000000000 ^ j := by
  have h1 : 1000000000000000000 ^ j ≤ 1000000000000000000 ^ L := Nat.pow_le_pow_right (by omega) hj
  have h2 : 1000000000000000000 ^ L ≤ N := by
    rcases Nat.lt_or_ge N (1000000000000000000 ^ L) with h' | h'
    · rw [Nat.div_eq_of_lt h'] at h; omega
    · exact h'
  exact Nat.div_pos (by omega) (Nat.pow_pos (by omega))
set_option maxRecDepth 100000 in
set_option maxHeartbeats 3200000 in
theorem decimal_any (N kk B g cap n0 : Nat) (post0 : List Value) (w : World) (hN : N < 10 ^ kk) (hkk : kk ≤ 1000000) (hn0 : (ds N).length = n0) (hn0b : n0 ≤ 1000000) (hbg : B ≤ g) (hcap : n0 ≤ cap) (hcm : cap ≤ maxLen)
    (hB : Blk w g 125 ((ds N).map U ++ post0)) (htab : ∀ wr, Ch B none1 w wr → pow10Is wr) :
    Calls Tryz.prog 153 #[.slice (some ⟨g, 0, none⟩) n0 cap] w fun e w' => e = .returned (S (Lib.decDigits N)) ∧ Ch B none1 w w' := by
  obtain ⟨i0, hi, hz0, hz1, hz2⟩ := info_parts Tryz.info52
  obtain ⟨i1, hi1, hz3, hz4, hz5⟩ := info_parts Tryz.info5
  have HN := Lib.hid hN
  have HTAB := Lib.hid htab
  have HBG := Lib.hid hbg
  have HN0 := Lib.hid hn0
  have hgl := hB.lt
  have HB := Lib.hid hB
  clear hN htab hbg hn0 hB
  go_enter Tryz.func153, Tryz.ntmps153
  go_wp2_with fail
  go_loopg [0, 3] N (fun gh x q wr => ∃ (M n : Nat) (gs : List Nat) (post : List Value) (qv : Value), qv = q ∧ gh = M + 0 ∧ x = .slice (some ⟨g, 0, none⟩) n cap ∧ (ds M).length = n ∧ n ≤ cap ∧ n ≤ 1000000 ∧ Blk wr g 125 ((ds M).map U ++ post) ∧ Own wr w.heap.size 125 q (gs.map U) ∧
    M = N / 1000000000000000000 ^ gs.length ∧ (∀ j (hj : j < gs.length), gs[j] = N / 1000000000000000000 ^ j % 1000000000000000000) ∧ (gs = [] ∨ 0 < M) ∧ Ch B none1 w wr)
  case atStart => exact ⟨N, n0, [], post0, _, rfl, rfl, rfl, HN0.out, hcap, hn0b, HB.out, Own.nil _ _ _, by simp, fun j hj => by simp at hj, .inl rfl, Ch.refl _ _ _⟩
  case round =>
    clear HB HN0 hcap hn0b
    obtain ⟨M, n, gs, post, qv, rfl, hgh, rfl, hn, hnc, hnb, hB, hown, hM, hgs, hpos, hC⟩ := hrel
    have HNL := Lib.hid hn
    have HB := Lib.hid hB
    have HO := Lib.hid hown
    have HM := Lib.hid hM
    have HG := Lib.hid hgs
    have HP := Lib.hid hpos
    have HC := Lib.hid hC
    have hsz := hC.size
    have hglen : gs.length ≤ 1000000 := by
      rcases hpos with h | h
      · rw [h]; simp
      · have := groups_room N kk gs.length HN.out (by rw [← hM]; exact h); omega
    clear hn hB hown hM hgs hpos hC
    by_cases hlt : 1 < n
    · have hMD : D ≤ M := by
        rcases Nat.lt_or_ge M D with h | h
        · have := (ds_len M 1).2 (by rw [Nat.pow_one]; exact h); have := HNL.out; omega
        · exact h
      have hdec : M / 1000000000000000000 < M := Nat.div_lt_self (by unfold D at hMD; omega) (by omega)
      have hdpos : 0 < M / 1000000000000000000 := Nat.div_pos (by unfold D at hMD; omega) (by omega)
      clear hMD
      have hdw := divideByWord_any n cap 1000000000000000000 g 0 125 [] post (ds M) wr (dok_ds M) HNL.out (by omega) (by omega) (by unfold D; omega) HB.out rfl
      have HDW := Lib.hid hdw
      clear hdw
      go_wp2_with fail
      refine HDW.out.mono ?_
      rintro e w2 ⟨zs, rfl, hz, hzl, hzv, hB2, hC2⟩
      have HZ := Lib.hid hz
      have HZL := Lib.hid hzl
      rw [dv_ds] at hzv
      rw [dv_ds]
      have HZV := Lib.hid hzv
      have HO2 := Lib.hid (HO.out.chR hC2 (fun k h1 _ h2 => by omega))
      have hbw : B ≤ w.heap.size := by have := HBG.out; omega
      have HC2 := Lib.hid (HC.out.trans (hC2.mono (Nat.le_trans hbw hsz) (fun k hk h => absurd h (by have := HBG.out; omega))))
      have hB3 : Blk w2 g 125 (zs.map U ++ post) := hB2
      have HB3 := Lib.hid hB3
      have hsz2 : w.heap.size ≤ w2.heap.size := Nat.le_trans hsz hC2.size
      obtain ⟨r, hr⟩ : ∃ r, M % 1000000000000000000 = r := ⟨_, rfl⟩
      rw [hr]
      have HR := Lib.hid hr
      clear hz hzl hzv hB2 hB3 hC2 hr
      go_wp2_with (at_builtin; refine wpList_append_up _ rfl _ _ 131 rfl w.heap.size 125 i0 .u64 0 8 Tryz.underlying131 hi hz0 hz1 hz2 (by decide) _ _ rfl (HO2.out.ch (Ch.alloc0 _)) ⟨w2.heap.size, 0, none⟩ 1 1 [U r] rfl rfl (new_cell _ _ _) (one_one _ _) (by rw [List.length_map]; omega) (size_alloc_le _ hsz2) ?_; intro v' w3 hown' hC3)
      have hC4 : Ch w.heap.size none1 w2 w3 := ((Ch.refl w.heap.size none1 w2).alloc hsz2 _).trans hC3
      have hB4 : Blk w3 g 125 (zs.map U ++ post) := hC4.blk HB3.out hgl (fun q => q)
      have HC4 := Lib.hid (HC2.out.trans (hC4.mono hbw (fun _ _ q => q)))
      have HO4 := Lib.hid hown'
      have hdg := dg_of_blk hB4 HZ.out n HZL.out
      have HB4 := Lib.hid hB4
      clear hC3 hC4 hown' hB4
      go_wp2_with fail
      refine (dtrim_any _ n cap zs _ hdg hnc hcm).mono ?_
      rintro e w5 ⟨rfl, rfl⟩
      have htr := trimD zs HZ.out
      rw [HZV.out] at htr
      have htl : tlen zs ≤ n := by have h := tlen_le zs; have := HZL.out; omega
      have htlen : (ds (M / 1000000000000000000)).length = tlen zs := by rw [← htr, List.length_take]; have := tlen_le zs; omega
      have HTR := Lib.hid htr
      have HTL := Lib.hid htlen
      clear htr htlen hdg
      go_wp2_with fail
      go_roundg (M / 1000000000000000000 + 0)
      case measure => omega
      case rel =>
        refine ⟨M / 1000000000000000000, tlen zs, gs ++ [r], (zs.drop (tlen zs)).map U ++ post, _, rfl, rfl, rfl, HTL.out, by omega, by omega, ?_, ?_, ?_, ?_, .inr hdpos, HC4.out⟩
        · rw [← HTR.out, ← List.append_assoc, ← List.map_append, List.take_append_drop]; exact HB4.out
        · have h := HO4.out
          rw [List.map_append]
          exact h
        · rw [List.length_append, HM.out, Nat.div_div_eq_div_mul]; rfl
        · intro j hj
          rw [List.length_append, List.length_singleton] at hj
          rcases Nat.lt_or_ge j gs.length with h | h
          · rw [List.getElem_append_left h]; exact HG.out j h
          · obtain rfl : j = gs.length := by omega
            rw [List.getElem_concat_length]
            · rw [← HR.out, HM.out]
            · rfl
    · have hMD : M < D := by
        have h := (ds_len M 1).1 (by have := HNL.out; omega)
        rwa [Nat.pow_one] at h
      have hM64 : M < 18446744073709551616 := hMD
      have hbw : B ≤ w.heap.size := by have := HBG.out; omega
      have hdok : Dok gs := fun x hx => by
        obtain ⟨j, hj, rfl⟩ := List.getElem_of_mem hx
        rw [HG.out j hj]
        exact Nat.lt_of_lt_of_le (Nat.mod_lt _ (by omega)) (by unfold D; omega)
      obtain ⟨pq, capq, rfl, hdq, hq1, hq2, _⟩ := dg_of_own (xs := gs) (by have h := HO.out; rw [Own, List.length_map] at h; exact h) hdok
      have HQ := Lib.hid (fun (w' : World) (h : Ch wr.heap.size none1 wr w') => (Dg.ch h hdq (fun a ha => ⟨hdq.lt_size a ha, fun q => q⟩) : Dg w' pq gs.length gs))
      clear hdok hdq
      rcases Nat.eq_zero_or_pos M with h0 | hMp
      · subst h0
        obtain rfl : n = 0 := by have := HNL.out; rw [ds_zero] at this; exact this.symm
        obtain ⟨wA, rfl⟩ : ∃ wA : World, wA = wr := ⟨_, rfl⟩
        go_wp2_with fail
        refine (AppendUint_nil 0 _ (by omega) (HTAB.out _ HC.out)).mono ?_
        rintro e w3 ⟨tv, rfl, ho, hC3⟩
        have hot : Own w3 wA.heap.size 5 tv ((Lib.decDigits 0).map Y) := by rw [Own, List.length_map]; exact ho
        rw [HM.out] at hot
        have HOT := Lib.hid hot
        have HC3 := Lib.hid hC3
        clear ho hot hC3
        go_wp2_with fail
        go_loopg [5, 6] (gs.length) (fun gh t i wr => ∃ (c : Nat) (tx : Value), tx = t ∧ c ≤ gs.length ∧ gh = c + 0 ∧ i = .int .i64 ((c : Int) - 1) ∧ Own wr wA.heap.size 5 t ((Lib.decDigits (N / 1000000000000000000 ^ c)).map Y) ∧ Ch wA.heap.size none1 wA wr)
        case atStart => exact ⟨gs.length, _, rfl, Nat.le_refl _, rfl, rfl, HOT.out, HC3.out⟩
        case round =>
          clear HC3 HOT
          obtain ⟨c, tx, rfl, hc, hgh2, rfl, hot, hC4⟩ := hrel
          have HC4 := Lib.hid hC4
          have HC5 := Lib.hid (HC.out.trans (hC4.mono (Nat.le_trans hbw hsz) (fun _ _ q => q)))
          rcases c with _ | j
          · rw [Nat.pow_zero, Nat.div_one] at hot
            have hcv := own_text wr _ _ _ hot
            clear hot hC4
            go_wp2_with fail
            go_ret
            exact ⟨rfl, HC5.out⟩
          · have HOT := Lib.hid hot
            have hd := HQ.out wr hC4
            clear hot hC4
            have hjl : j < gs.length := by omega
            obtain ⟨gq, oq, rfl⟩ := hd.addr (by omega)
            have hget := hd.get j hjl
            have hgj := HG.out j hjl
            obtain ⟨gj, hgje⟩ : ∃ gj, gs[j] = gj := ⟨_, rfl⟩
            rw [hgje] at hget hgj
            have hgl : gj < 1000000000000000000 := by rw [hgj]; exact Nat.mod_lt _ (by omega)
            have hpj : 0 < N / 1000000000000000000 ^ (j + 1) := by
              rcases HP.out with h | h
              · rw [h] at hjl; simp at hjl
              · exact div_mono_pos N (j + 1) gs.length hc (by rw [← HM.out]; exact h)
            have hgd := group_div N j
            rw [← hgj] at hgd
            have hstep : Lib.decDigits (N / 1000000000000000000 ^ j) = Lib.decDigits (N / 1000000000000000000 ^ (j + 1)) ++ pad 18 gj := by rw [hgd]; exact dec_group _ _ hpj hgl
            have hlead := dec_lead gj hgl
            have hpl := pad_len 18 gj
            have hlen : (Lib.decDigits (N / 1000000000000000000 ^ (j + 1))).length ≤ 1000001 := Nat.le_trans (dec_len kk _ (Nat.lt_of_le_of_lt (Nat.div_le_self _ _) (Nat.lt_trans HN.out (Nat.pow_lt_pow_right (by omega) (by omega))))) (by omega)
            obtain ⟨pd, hpd⟩ : ∃ pd, pad 18 gj = pd := ⟨_, rfl⟩
            rw [hpd] at hstep hlead hpl
            obtain ⟨u, hu⟩ : ∃ u, 1000000000000000000 + gj = u := ⟨_, rfl⟩
            rw [hu] at hlead
            have hui : (1000000000000000000 + (gj : Int)) = (u : Int) := by omega
            have hul : u < 2000000000000000000 := by omega
            have hext := ext1 49 pd (49 :: pd).length rfl
            rw [← hlead] at hext
            have hddl : 1 ≤ (Lib.decDigits u).length := by rw [hlead]; simp
            have hfu := FormatUint_big u (by omega) (by omega) wr (HTAB.out wr HC5.out)
            obtain ⟨dd, hdd⟩ : ∃ dd, Lib.decDigits u = dd := ⟨_, rfl⟩
            rw [hdd] at hext hddl hfu
            have HST := Lib.hid hstep
            have HFU := Lib.hid hfu
            have hps : (ByteArray.mk pd.toArray).size = 18 := by rw [← hpl]; simp [ByteArray.size]
            have HPS := Lib.hid hps
            have HLEN := Lib.hid hlen
            have e1 : ((j : Int) + 1 - 1) = (j : Int) := by omega
            clear hgje hgd hgj hpj hstep hlead hpl hpd hu hdd hfu hps hlen hd
            go_wp2_with fail
            refine HFU.out.mono ?_
            rintro e w5 ⟨rfl, hC6⟩
            have HO5 := Lib.hid (HOT.out.ch hC6)
            have hs5 : wA.heap.size ≤ w5.heap.size := Nat.le_trans HC4.out.size hC6.size
            have HC7 := Lib.hid (HC4.out.step0 hC6 (Nat.le_refl _))
            clear hC6
            go_wp2_with (at_builtin; refine Lib.wpList_append_own_string _ rfl _ _ 87 9 rfl wA.heap.size 5 i1 Tryz.underlying87 Tryz.underlying9 hi1 hz3 hz4 hz5 _ _ _ rfl HO5.out ⟨pd.toArray⟩ rfl (by rw [HPS.out, List.length_map]; have := HLEN.out; unfold maxLen; omega) (by rw [HPS.out, List.length_map]; have := HLEN.out; omega) hs5 ?_; intro v6 w6 hown6 hgr6 _)
            have hC8 := Own.grow HO5.out hgr6 hs5
            clear hgr6
            have hcells : Lib.strCells ⟨pd.toArray⟩ = pd.map Y := by unfold Lib.strCells; rfl
            have hown7 : Own w6 wA.heap.size 5 v6 ((Lib.decDigits (N / 1000000000000000000 ^ j)).map Y) := by
              rw [HST.out, List.map_append, Own, List.length_append, ← hcells]
              have hl : (Lib.strCells ⟨pd.toArray⟩).length = (ByteArray.mk pd.toArray).size := by rw [hcells, List.length_map]; simp [ByteArray.size]
              rw [hl]
              exact hown6
            clear hown6
            go_wp2_with fail
            go_roundg (j + 0)
            case measure => omega
            case rel => exact ⟨j, _, rfl, by omega, rfl, by go_num, hown7, HC7.out.trans hC8⟩

      · obtain rfl : n = 1 := by
          have h := HNL.out
          have : 0 < n := by
            rcases Nat.eq_zero_or_pos n with h' | h'
            · have := (ds_len M 0).1 (by omega); simp at this; omega
            · exact h'
          omega
        have hds1 : ds M = [M] := by rw [ds_pos _ (by omega), Nat.mod_eq_of_lt hMD, Nat.div_eq_of_lt hMD, ds_zero]
        have c0 : wr.cell? ⟨g, 0, none⟩ = some (U M) := by have h := HB.out.cell 0; rw [hds1] at h; exact h
        clear hds1
        obtain ⟨wA, rfl⟩ : ∃ wA : World, wA = wr := ⟨_, rfl⟩
        go_wp2_with fail
        refine (AppendUint_nil M _ (by omega) (HTAB.out _ HC.out)).mono ?_
        rintro e w3 ⟨tv, rfl, ho, hC3⟩
        have hot : Own w3 wA.heap.size 5 tv ((Lib.decDigits M).map Y) := by rw [Own, List.length_map]; exact ho
        rw [HM.out] at hot
        have HOT := Lib.hid hot
        have HC3 := Lib.hid hC3
        clear ho hot hC3
        go_wp2_with fail
        go_loopg [5, 6] (gs.length) (fun gh t i wr => ∃ (c : Nat) (tx : Value), tx = t ∧ c ≤ gs.length ∧ gh = c + 0 ∧ i = .int .i64 ((c : Int) - 1) ∧ Own wr wA.heap.size 5 t ((Lib.decDigits (N / 1000000000000000000 ^ c)).map Y) ∧ Ch wA.heap.size none1 wA wr)
        case atStart => exact ⟨gs.length, _, rfl, Nat.le_refl _, rfl, rfl, HOT.out, HC3.out⟩
        case round =>
          clear HC3 HOT
          obtain ⟨c, tx, rfl, hc, hgh2, rfl, hot, hC4⟩ := hrel
          have HC4 := Lib.hid hC4
          have HC5 := Lib.hid (HC.out.trans (hC4.mono (Nat.le_trans hbw hsz) (fun _ _ q => q)))
          rcases c with _ | j
          · rw [Nat.pow_zero, Nat.div_one] at hot
            have hcv := own_text wr _ _ _ hot
            clear hot hC4
            go_wp2_with fail
            go_ret
            exact ⟨rfl, HC5.out⟩
          · have HOT := Lib.hid hot
            have hd := HQ.out wr hC4
            clear hot hC4
            have hjl : j < gs.length := by omega
            obtain ⟨gq, oq, rfl⟩ := hd.addr (by omega)
            have hget := hd.get j hjl
            have hgj := HG.out j hjl
            obtain ⟨gj, hgje⟩ : ∃ gj, gs[j] = gj := ⟨_, rfl⟩
            rw [hgje] at hget hgj
            have hgl : gj < 1000000000000000000 := by rw [hgj]; exact Nat.mod_lt _ (by omega)
            have hpj : 0 < N / 1000000000000000000 ^ (j + 1) := by
              rcases HP.out with h | h
              · rw [h] at hjl; simp at hjl
              · exact div_mono_pos N (j + 1) gs.length hc (by rw [← HM.out]; exact h)
            have hgd := group_div N j
            rw [← hgj] at hgd
            have hstep : Lib.decDigits (N / 1000000000000000000 ^ j) = Lib.decDigits (N / 1000000000000000000 ^ (j + 1)) ++ pad 18 gj := by rw [hgd]; exact dec_group _ _ hpj hgl
            have hlead := dec_lead gj hgl
            have hpl := pad_len 18 gj
            have hlen : (Lib.decDigits (N / 1000000000000000000 ^ (j + 1))).length ≤ 1000001 := Nat.le_trans (dec_len kk _ (Nat.lt_of_le_of_lt (Nat.div_le_self _ _) (Nat.lt_trans HN.out (Nat.pow_lt_pow_right (by omega) (by omega))))) (by omega)
            obtain ⟨pd, hpd⟩ : ∃ pd, pad 18 gj = pd := ⟨_, rfl⟩
            rw [hpd] at hstep hlead hpl
            obtain ⟨u, hu⟩ : ∃ u, 1000000000000000000 + gj = u := ⟨_, rfl⟩
            rw [hu] at hlead
            have hui : (1000000000000000000 + (gj : Int)) = (u : Int) := by omega
            have hul : u < 2000000000000000000 := by omega
            have hext := ext1 49 pd (49 :: pd).length rfl
            rw [← hlead] at hext
            have hddl : 1 ≤ (Lib.decDigits u).length := by rw [hlead]; simp
            have hfu := FormatUint_big u (by omega) (by omega) wr (HTAB.out wr HC5.out)
            obtain ⟨dd, hdd⟩ : ∃ dd, Lib.decDigits u = dd := ⟨_, rfl⟩
            rw [hdd] at hext hddl hfu
            have HST := Lib.hid hstep
            have HFU := Lib.hid hfu
            have hps : (ByteArray.mk pd.toArray).size = 18 := by rw [← hpl]; simp [ByteArray.size]
            have HPS := Lib.hid hps
            have HLEN := Lib.hid hlen
            have e1 : ((j : Int) + 1 - 1) = (j : Int) := by omega
            clear hgje hgd hgj hpj hstep hlead hpl hpd hu hdd hfu hps hlen hd
            go_wp2_with fail
            refine HFU.out.mono ?_
            rintro e w5 ⟨rfl, hC6⟩
            have HO5 := Lib.hid (HOT.out.ch hC6)
            have hs5 : wA.heap.size ≤ w5.heap.size := Nat.le_trans HC4.out.size hC6.size
            have HC7 := Lib.hid (HC4.out.step0 hC6 (Nat.le_refl _))
            clear hC6
            go_wp2_with (at_builtin; refine Lib.wpList_append_own_string _ rfl _ _ 87 9 rfl wA.heap.size 5 i1 Tryz.underlying87 Tryz.underlying9 hi1 hz3 hz4 hz5 _ _ _ rfl HO5.out ⟨pd.toArray⟩ rfl (by rw [HPS.out, List.length_map]; have := HLEN.out; unfold maxLen; omega) (by rw [HPS.out, List.length_map]; have := HLEN.out; omega) hs5 ?_; intro v6 w6 hown6 hgr6 _)
            have hC8 := Own.grow HO5.out hgr6 hs5
            clear hgr6
            have hcells : Lib.strCells ⟨pd.toArray⟩ = pd.map Y := by unfold Lib.strCells; rfl
            have hown7 : Own w6 wA.heap.size 5 v6 ((Lib.decDigits (N / 1000000000000000000 ^ j)).map Y) := by
              rw [HST.out, List.map_append, Own, List.length_append, ← hcells]
              have hl : (Lib.strCells ⟨pd.toArray⟩).length = (ByteArray.mk pd.toArray).size := by rw [hcells, List.length_map]; simp [ByteArray.size]
              rw [hl]
              exact hown6
            clear hown6
            go_wp2_with fail
            go_roundg (j + 0)
            case measure => omega
            case rel => exact ⟨j, _, rfl, by omega, rfl, by go_num, hown7, HC7.out.trans hC8⟩

end Go.Proofs.YtnblmmhpndnjcaaGreatDoor
namespace Go.Proofs.YtnblmmhpndnjcaaGreatDoor
open Go.RowKit
theorem cat_bytes (l m : List UInt8) : (ByteArray.mk l.toArray ++ ByteArray.mk m.toArray) = ByteArray.mk (l ++ m).toArray := by
  apply ByteArray.ext
  simp
end Go.Proofs.YtnblmmhpndnjcaaGreatDoor
namespace Go.Proofs.YtnblmmhpndnjcaaGreatDoor
open Go.RowKit
set_option maxRecDepth 100000 in
set_option maxHeartbeats 1600000 in
theorem Text_any (a : List UInt8) (w : World) (ha : a.length ≤ 1000) (ht : pow10Is w) :
    Calls Tryz.prog 114 #[S a] w (Yld w (S (Lib.decDigits (bv a)))) := by
  have HT := Lib.hid ht; clear ht
  have hN : bv a < 10 ^ (3 * a.length) := by
    have h1 := bv_lt a
    have h2 : 256 ^ a.length ≤ 1000 ^ a.length := Nat.pow_le_pow_left (by omega) _
    have h3 : 10 ^ (3 * a.length) = 1000 ^ a.length := by rw [Nat.pow_mul]
    omega
  have hl := ds_len_bytes a
  have hl1 := trimL_len a
  have HN := Lib.hid hN; clear hN
  go_enter Tryz.func114, Tryz.ntmps114
  go_wp2_with fail
  refine (digitsOf_any a _ (by omega)).mono ?_
  rintro e w1 ⟨g1, rfl, hB1, hg1, hC1⟩
  have hn : (ds (bv a)).length ≤ 1000 := by omega
  have HB1 := Lib.hid hB1
  have HC1 := Lib.hid hC1
  have HTT := Lib.hid (fun wr (h : Ch w.heap.size none1 w1 wr) => (tab_ch HT.out (hC1.trans h) : pow10Is wr))
  clear hB1 hC1 hl hl1
  obtain ⟨n, hnn⟩ : ∃ n, (ds (bv a)).length = n := ⟨_, rfl⟩
  rw [hnn] at hn ⊢
  go_wp2_with fail
  refine (decimal_any (bv a) (3 * a.length) w.heap.size g1 n n [] w1 HN.out (by omega) hnn (by omega) hg1 (Nat.le_refl _) (by unfold maxLen; omega) (HB1.out.cast (by simp)) HTT.out).mono ?_
  rintro e w2 ⟨rfl, hC2⟩
  go_wp2_with fail
  go_ret
  exact ⟨rfl, HC1.out.trans hC2⟩
/-- A block whose first cells are these bytes, none of them frozen. -/
structure Bytes (w : World) (g : Nat) (l : List UInt8) : Prop where
  lt : g < w.heap.size
  cell : ∀ j (hj : j < l.length), w.cell? ⟨g, j, none⟩ = some (Y l[j])
  frozen : ∀ j, j < l.length → w.frozen? ⟨g, j, none⟩ = false
theorem Bytes.set {w : World} {g : Nat} {l : List UInt8} (h : Bytes w g l) (k : Nat) (b : UInt8) (_ : k < l.length) : Bytes (w.setCell ⟨g, k, none⟩ (Y b)) g (l.set k b) := by
  refine ⟨by rw [World.size_setCell]; exact h.lt, fun j hj => ?_, fun j hj => ?_⟩
  · rw [List.length_set] at hj
    by_cases e : k = j
    · subst e
      rw [World.cell?_setCell_same' _ _ _ (by rw [h.cell k hj]; rfl), List.getElem_set_self]
    · rw [World.cell?_setCell_other _ _ _ _ (by first | (simp; done) | simp [e]), h.cell j hj, List.getElem_set_ne e]
  · rw [List.length_set] at hj
    rw [World.frozen?_setCell]
    exact h.frozen j hj
theorem Bytes.ch {w w' : World} {g : Nat} {l : List UInt8} (h : Bytes w g l) (hC : Ch w.heap.size none1 w w') : Bytes w' g l :=
  ⟨Nat.lt_of_lt_of_le h.lt hC.size, fun j hj => (hC.cell (p := ⟨g, j, none⟩) h.lt (fun q => q)).trans (h.cell j hj), fun j hj => (hC.frozen (p := ⟨g, j, none⟩) h.lt (fun q => q)).trans (h.frozen j hj)⟩
end Go.Proofs.YtnblmmhpndnjcaaGreatDoor
namespace Go.Proofs.YtnblmmhpndnjcaaGreatDoor
open Go.RowKit
theorem C_of {n : Int} {l : List UInt8} (hl : nb n.toNat = l) (h1 : -9223372036854775808 ≤ n) (h2 : n ≤ 9223372036854775807) : Ans 109 #[.int .i64 n] (S l) := fun w => by
  rcases Int.lt_or_le n 0 with h | h
  · have : l = [] := by rw [← hl, show n.toNat = 0 from by omega, nb_zero]
    subst this
    exact (of_neg n w h h1).mono fun _ _ ⟨he, hC⟩ => ⟨he, ch_same hC⟩
  · exact (of_any n w h h2).mono fun _ _ ⟨he, hC⟩ => ⟨by rw [he, hl], hC⟩
theorem C_refOf {n : Int} {l : List UInt8} (hl : nb n.toNat = l) (h1 : -9223372036854775808 ≤ n) (h2 : n ≤ 9223372036854775807) : Ans 40 #[.int .i64 n] (S l) := fun w =>
  (refOf_any n w h1 h2).mono fun _ _ ⟨he, hC⟩ => ⟨by rw [he, hl], hC⟩
theorem C_int {a : List UInt8} {k : Int} (ha : a.length ≤ 10000) (hk : (bv a : Int) = k) (h : k ≤ 9223372036854775807) : Ans 105 #[S a] (.tuple #[.int .i64 k, .bool true]) := fun w =>
  (int_yes a w (max_k ha) (by omega)).mono fun _ _ ⟨he, hC⟩ => ⟨by rw [he, hk], ch_same hC⟩
/-- Int of both packages answers alike. -/
theorem C_int_both {a : List UInt8} (ha : a.length ≤ 10000) : ∃ (k : Int) (ok : Bool), Ans 105 #[S a] (.tuple #[.int .i64 k, .bool ok]) ∧ Ans 86 #[S a] (.tuple #[.int .i64 k, .bool ok]) := by
  by_cases h : bv a ≤ 9223372036854775807
  · exact ⟨bv a, true, fun w => (int_yes a w (max_k ha) h).mono fun _ _ ⟨he, hC⟩ => ⟨he, ch_same hC⟩, fun w => (refInt_yes a w (by omega) h).mono fun _ _ ⟨he, hC⟩ => ⟨he, ch_same hC⟩⟩
  · exact ⟨0, false, fun w => (int_no a w (max_k ha) h).mono fun _ _ ⟨he, hC⟩ => ⟨he, ch_same hC⟩, fun w => (refInt_no a w (by omega) h).mono fun _ _ ⟨he, hC⟩ => ⟨he, ch_same hC⟩⟩
end Go.Proofs.YtnblmmhpndnjcaaGreatDoor
