/- Package nat's digitsOfDecimal and Parse. -/
import Derived.Test.YtcghnkdfhiancaaGreatDoorNr
import Derived.Test.YtcghnkdfhiancaaGreatDoorVa
namespace Go.Proofs.YtcghnkdfhiancaaGreatDoor
open Go.RowKit
theorem mulw (x K c : Nat) (hx : x < D) (hK : K < D) (hc : c < D) :
    x * K / D + (x * K % D + c) / D < D ∧ (x * K % D + c) % D + D * (x * K / D + (x * K % D + c) / D) = x * K + c := by
  have h1 := Nat.div_add_mod (x * K) D
  have h2 := Nat.div_add_mod (x * K % D + c) D
  have h3 := Nat.mul_le_mul (show x ≤ D - 1 by omega) (show K ≤ D - 1 by omega)
  generalize x * K = p at *
  generalize p / D = q at *
  generalize p % D = r at *
  generalize (r + c) / D = q2 at *
  generalize (r + c) % D = s at *
  unfold D at *
  constructor <;> omega
theorem mulw_step (P X x K c c0 s q z : Nat) (h : z + P * c = X * K + c0) (hs : s + D * q = x * K + c) :
    (z + P * s) + P * D * q = (X + P * x) * K + c0 := by
  have e : P * (s + D * q) = P * (x * K + c) := by rw [hs]
  rw [Nat.mul_add, Nat.mul_add] at e
  rw [Nat.add_mul, Nat.mul_assoc P D q, Nat.mul_assoc P x K]
  omega
theorem own_cut {w : World} {B n k cap : Nat} {e : TypeId} {p : Option Addr} {xs : List Value} (h : w.ownsRow B e 1 (.slice p n cap) n xs) (hk : k ≤ n) :
    w.ownsRow B e 1 (.slice p k cap) k (xs.take k) := by
  obtain ⟨h1, h2⟩ := h
  refine ⟨by rw [List.length_take]; omega, ?_⟩
  rcases h2 with ⟨q, hn⟩ | ⟨g, c, cur, hv, hb, hg, hn, hm, hs, ht⟩
  · subst hn
    obtain rfl : k = 0 := by omega
    exact .inl ⟨q, rfl⟩
  · simp only [Value.slice.injEq] at hv
    obtain ⟨rfl, _, rfl⟩ := hv
    refine .inr ⟨g, _, cur, rfl, hb, hg, Nat.le_trans hk hn, hm, hs, ?_⟩
    rw [← ht, List.take_take]
    congr 1
    omega
set_option maxRecDepth 100000 in
set_option maxHeartbeats 1600000 in
theorem mulWord_some (n cap K c0 g B : Nat) (post : List Value) (xs : List Nat) (w : World) (hx : Dok xs) (hn : xs.length = n) (hm : n ≤ 1000000) (hK : K < D) (hc0 : c0 < D)
    (hcap : (xs.map U ++ post).length = cap) (hcm : cap ≤ maxLen) (hbg : B ≤ g) (hB : Blk w g 51 (xs.map U ++ post)) :
    Calls Tryz.prog 63 #[.slice (some ⟨g, 0, none⟩) n cap, U K, U c0] w fun e w' => ∃ v, e = .returned v ∧ OwnD w' B v (dv xs * K + c0) ∧ Ch B none1 w w' := by
  have hlt := hB.lt
  have HN := Lib.hid hn; clear hn
  have HCAP := Lib.hid hcap; clear hcap
  have HBG := Lib.hid hbg
  go_enter Tryz.func63, Tryz.ntmps63
  go_wp2_with fail
  obtain ⟨wo, rfl⟩ : ∃ wo : World, wo = w := ⟨_, rfl⟩
  go_loopw [2, 14] (fun cv i wr => ∃ (k c : Nat) (zs : List Nat), k ≤ n ∧ c < D ∧ i = .int .i64 (k : Int) ∧ cv = U c ∧ Dok zs ∧ zs.length = k ∧ dv zs + D ^ k * c = dv (xs.take k) * K + c0 ∧ Blk wr g 51 ((zs ++ xs.drop k).map U ++ post) ∧ Ch B none1 wo wr)
    (fun _ i _ => n - (intOf i).toNat)
  case atStart => exact ⟨0, c0, [], Nat.zero_le _, hc0, rfl, rfl, Dok.nil, rfl, by simp [dv], hB, Ch.refl _ _ _⟩
  case round =>
    clear hB
    obtain ⟨k, c, zs, hk, hc, rfl, rfl, hz, hzl, hzv, hB', hC'⟩ := hrel
    have HZ := Lib.hid hzl; clear hzl
    have HV := Lib.hid hzv; clear hzv
    by_cases hlt2 : k < n
    · have hkl : k < xs.length := by rw [HN.out]; exact hlt2
      have hdr := List.drop_eq_getElem_cons hkl
      have hts := dv_take_succ xs k hkl
      obtain ⟨x, hx1⟩ : ∃ x, xs[k] = x := ⟨_, rfl⟩
      have hxb : x < D := by rw [← hx1]; exact hx.get k hkl
      rw [hx1] at hdr hts
      rw [hdr] at hB'
      have HT := Lib.hid hts; clear hts
      clear hx1 hdr
      have cl : wr.cell? ⟨g, k, none⟩ = some (U x) := by rw [hB'.cell]; have := mid_get [] post zs (xs.drop (k + 1)) x 0 k rfl HZ.out; simpa using this
      have f := hB'.frozen k
      obtain ⟨hq, hst⟩ := mulw x K c hxb hK hc
      have hmul := fun w => mul64_is x K _ _ w hxb hK rfl rfl
      have hlo := Nat.mod_lt (x * K) D_pos
      generalize x * K / D = hi at *
      generalize x * K % D = lo at *
      have hadd := add64_run0 lo c
      have hs2 := Nat.mod_lt (lo + c) D_pos
      generalize (lo + c) % D = s at *
      generalize (lo + c) / D = m at *
      have hst2 := mulw_step (D ^ k) (dv (xs.take k)) x K c c0 s (hi + m) (dv zs) HV.out hst
      have HS := Lib.hid hst2; clear hst2 hst
      have hq2 := num_D hq
      have HM := Lib.hid hmul; clear hmul
      go_wp2_with fail
      refine (HM.out _).mono ?_
      rintro e w' ⟨rfl, rfl⟩
      go_wp2_with fail
      go_roundw
      case rel =>
        refine ⟨k + 1, hi + m, zs ++ [s], by omega, hq, by go_num, by go_num, hz.append (Dok.cons hs2 Dok.nil), by rw [List.length_append, HZ.out]; rfl, ?_, ?_, hC'.setCell (.inl HBG.out) _⟩
        · rw [dv_snoc, HZ.out, HT.out, Nat.pow_succ]
          exact HS.out
        · have h1 := hB'.set k (U s)
          have h2 := mid_set [] post zs (xs.drop (k + 1)) x s 0 k rfl HZ.out
          rw [Nat.zero_add, List.nil_append, List.nil_append] at h2
          exact h1.cast h2
      case measure => simp [intOf]; omega
    · obtain rfl : k = n := by omega
      have hxt : xs.take k = xs := List.take_of_length_le (by rw [HN.out]; exact Nat.le_refl _)
      have hxd : xs.drop k = [] := List.drop_of_length_le (by rw [HN.out]; exact Nat.le_refl _)
      have hv2 := HV.out
      rw [hxt] at hv2
      rw [hxd, List.append_nil] at hB'
      have HV2 := Lib.hid hv2; clear hv2 hxt hxd
      have hl2 : (zs.map U ++ post).length = cap := by rw [← HCAP.out, List.length_append, List.length_append, List.length_map, List.length_map, HZ.out, HN.out]
      have hkc : k ≤ cap := by rw [← HCAP.out, List.length_append, List.length_map, HN.out]; omega
      have hown := own_of_blk (B := B) (vs := zs.map U) hB' (cap := cap) (n := k) hl2 hkc hcm (by rw [List.take_append_of_le_length (by rw [List.length_map, HZ.out]; exact Nat.le_refl _)]; exact List.take_of_length_le (by rw [List.length_map, HZ.out]; exact Nat.le_refl _)) HBG.out
      have hbw : B ≤ wr.heap.size := Nat.le_trans HBG.out (Nat.le_of_lt hB'.lt)
      have HB := Lib.hid hB'; clear hB' hl2
      obtain ⟨i0, hi, hz0, hz1, hz2⟩ := info_parts Tryz.info52
      go_wp2_with (at_builtin; refine wpList_append_own _ rfl _ _ 56 rfl B 51 i0 (.int .u64 0) 1 8 Tryz.underlying56 hi hz0 hz1 hz2 rfl (by decide) _ k (zs.map U) rfl (hown.alloc _) ⟨wr.heap.size, 0, none⟩ 1 1 [U c] rfl rfl (Blk.new _ #[U c] _).adds (by simp [one_int]) (by unfold maxLen; omega) (by omega) (by simp; omega) ?_; intro v' w4 hown' hgrow _)
      have hz5 : Dok (zs ++ [c]) := hz.append (Dok.cons hc Dok.nil)
      have hown5 : w4.ownsRow B 51 1 v' (k + 1) ((zs ++ [c]).map U) := by simpa using hown'
      clear hown hown'
      obtain ⟨p, cap', rfl, hd, hnc, hcm', hpa⟩ := dg_of_own (xs := zs ++ [c]) hown5 hz5
      have hgr := Ch.of_grown_own hgrow
      clear hgrow
      have hC5 : Ch B none1 wo w4 := (hC'.alloc hbw _).step hgr (Nat.le_trans hbg (Nat.le_of_lt hlt)) (fun j hj q => absurd q (by have := HBG.out; omega))
      have HO5 := Lib.hid hown5; clear hown5
      go_wp2_with fail
      refine (dtrim_any p (k + 1) cap' _ _ hd hnc hcm').mono ?_
      rintro e w5 ⟨rfl, rfl⟩
      go_wp2_with fail
      go_ret
      refine ⟨_, rfl, ?_, hC5⟩
      have hdv : dv (zs ++ [c]) = dv xs * K + c0 := by rw [dv_snoc, HZ.out]; exact HV2.out
      have ht := trimD (zs ++ [c]) hz5
      have hl5 : tlen (zs ++ [c]) ≤ k + 1 := by have h := tlen_le (zs ++ [c]); rwa [List.length_append, HZ.out] at h
      have hlt5 : ((zs ++ [c]).take (tlen (zs ++ [c]))).length = tlen (zs ++ [c]) := by rw [List.length_take, Nat.min_eq_left (tlen_le _)]
      have hcut := own_cut HO5.out hl5
      rw [← List.map_take, ht, hdv] at hcut
      rw [ht, hdv] at hlt5
      unfold OwnD
      rw [hlt5]
      exact hcut
set_option maxRecDepth 100000 in
set_option maxHeartbeats 1600000 in
theorem mulWord_none (K c B : Nat) (w : World) (hc : c < D) (hB : B ≤ w.heap.size) :
    Calls Tryz.prog 63 #[.slice none 0 0, U K, U c] w fun e w' => ∃ v, e = .returned v ∧ OwnD w' B v c ∧ Ch B none1 w w' := by
  go_enter Tryz.func63, Tryz.ntmps63
  go_wp2_with fail
  obtain ⟨wo, rfl⟩ : ∃ wo : World, wo = w := ⟨_, rfl⟩
  go_loopw [2, 14] (fun cv i wr => i = .int .i64 0 ∧ cv = U c ∧ wr = wo) (fun _ _ _ => 0)
  case atStart => exact ⟨rfl, rfl, rfl⟩
  case round =>
    obtain ⟨rfl, rfl, rfl⟩ := hrel
    have hown : wr.ownsRow B 51 1 (.slice none 0 0) 0 ([].map U) := World.ownsRow_nil wr B _ 1
    obtain ⟨i0, hi, hz0, hz1, hz2⟩ := info_parts Tryz.info52
    go_wp2_with (at_builtin; refine wpList_append_own _ rfl _ _ 56 rfl B 51 i0 (.int .u64 0) 1 8 Tryz.underlying56 hi hz0 hz1 hz2 rfl (by decide) _ 0 ([].map U) rfl (hown.alloc _) ⟨wr.heap.size, 0, none⟩ 1 1 [U c] rfl rfl (Blk.new _ #[U c] _).adds (by simp [one_int]) (by unfold maxLen; omega) (by omega) (by simp; omega) ?_; intro v' w4 hown' hgrow _)
    have hz5 : Dok [c] := Dok.cons hc Dok.nil
    have hown5 : w4.ownsRow B 51 1 v' 1 ([c].map U) := by simpa using hown'
    clear hown hown'
    obtain ⟨p, cap', rfl, hd, hnc, hcm', hpa⟩ := dg_of_own (xs := [c]) hown5 hz5
    have hC5 : Ch B none1 wr w4 := ((Ch.refl B none1 wr).alloc hB _).trans
      ⟨hgrow.os, hgrow.tape, hgrow.output, hgrow.size, fun k hk _ => hgrow.block k (by rw [World.size_alloc]; omega) (fun e => by have e' : some k = (none : Option Nat) := e; simp at e')⟩
    clear hgrow
    have HO5 := Lib.hid hown5; clear hown5
    go_wp2_with fail
    refine (dtrim_any p 1 cap' _ _ hd hnc hcm').mono ?_
    rintro e w5 ⟨rfl, rfl⟩
    go_wp2_with fail
    go_ret
    refine ⟨_, rfl, ?_, hC5⟩
    have hdv : dv [c] = c := by simp [dv]
    have ht := trimD [c] hz5
    have hl5 : tlen [c] ≤ 1 := tlen_le [c]
    have hlt5 : ([c].take (tlen [c])).length = tlen [c] := by rw [List.length_take, Nat.min_eq_left (tlen_le _)]
    have hcut := own_cut HO5.out hl5
    rw [← List.map_take, ht, hdv] at hcut
    rw [ht, hdv] at hlt5
    unfold OwnD
    rw [hlt5]
    exact hcut
/-- multiplyByWord: the digits of N, one's own, become those of N * K + c. -/
theorem mulWord_any (v : Value) (N K c B : Nat) (w : World) (hv : OwnD w B v N) (hm : (ds N).length ≤ 1000000) (hK : K < D) (hc : c < D) (hB : B ≤ w.heap.size) :
    Calls Tryz.prog 63 #[v, U K, U c] w fun e w' => ∃ v', e = .returned v' ∧ OwnD w' B v' (N * K + c) ∧ Ch B none1 w w' := by
  have h0 := hv
  obtain ⟨h1, h2⟩ := h0
  rcases h2 with ⟨rfl, h3⟩ | ⟨g, cap, cur, rfl, hb, hg, hn, hcm, hs, ht⟩
  · have hN : N = 0 := by
      have h := dv_ds N
      rw [List.eq_nil_of_length_eq_zero h3] at h
      simpa [dv] using h.symm
    subst hN
    have h := mulWord_none K c B w hc hB
    rwa [Nat.zero_mul, Nat.zero_add]
  · rw [Nat.mul_one] at ht
    have hcur : cur.toList = (ds N).map U ++ cur.toList.drop (ds N).length := by rw [← ht, List.take_append_drop]
    have h := mulWord_some (ds N).length cap K c g B (cur.toList.drop (ds N).length) (ds N) w (dok_ds N) rfl hm hK hc (by rw [← hcur]; simpa using hs) hcm hb (by
      unfold Blk
      rw [← hcur]
      simpa using hg)
    rwa [dv_ds] at h
end Go.Proofs.YtcghnkdfhiancaaGreatDoor
namespace Go.Proofs.YtcghnkdfhiancaaGreatDoor
open Go.RowKit
theorem mul18 (v : Value) (N c B : Nat) (w : World) (hv : OwnD w B v N) (hm : (ds N).length ≤ 1000000) (hc : c < 1000000000000000000) (hB : B ≤ w.heap.size) :
    Calls Tryz.prog 63 #[v, .int .u64 1000000000000000000, U c] w fun e w' => ∃ v', e = .returned v' ∧ OwnD w' B v' (N * 1000000000000000000 + c) ∧ Ch B none1 w w' :=
  mulWord_any v N 1000000000000000000 c B w hv hm (by unfold D; omega) (by unfold D; omega) hB
theorem all_take {l : List UInt8} (h : l.all isDig = true) (k : Nat) : (l.take k).all isDig = true := by
  rw [List.all_eq_true] at h ⊢
  exact fun x hx => h x (List.mem_of_mem_take hx)
theorem all_right {l m : List UInt8} (h : (l ++ m).all isDig = true) : m.all isDig = true := by
  rw [List.all_append, Bool.and_eq_true] at h; exact h.2
theorem all_left {l m : List UInt8} (h : (l ++ m).all isDig = true) : l.all isDig = true := by
  rw [List.all_append, Bool.and_eq_true] at h; exact h.1
theorem all_get {l : List UInt8} (h : l.all isDig = true) (k : Nat) (hk : k < l.length) : 48 ≤ l[k].toNat ∧ l[k].toNat ≤ 57 := by
  rw [List.all_eq_true] at h
  have := h _ (List.getElem_mem hk)
  simpa [isDig] using this
theorem ds_dec_len {l : List UInt8} (h : l.all isDig = true) : (ds (dcv l)).length ≤ l.length := by
  rw [ds_len]
  exact Nat.lt_of_lt_of_le (dcv_lt l h) (Nat.pow_le_pow_left (by unfold D; omega) _)
theorem chunk18 (pre r : List UInt8) (m : Nat) (hm : m = (r.length - 1) % 18) (hr : 0 < r.length) (h : pre = [] ∨ r.length % 18 = 0) :
    dcv pre * 1000000000000000000 + dcv (r.take (m + 1)) = dcv (pre ++ r.take (m + 1)) := by
  rw [dcv_append]
  rcases h with rfl | h
  · simp [dcv]
  · have : (r.take (m + 1)).length = 18 := by rw [List.length_take]; omega
    rw [this]
theorem tmod18 (n : Nat) (h : 0 < n) : ((n : Int) - 1).tmod 18 = (((n - 1) % 18 : Nat) : Int) := by
  rw [show ((n : Int) - 1) = ((n - 1 : Nat) : Int) by omega]
  rfl
set_option maxRecDepth 100000 in
set_option maxHeartbeats 1600000 in
theorem digitsOfDecimal_any (l : List UInt8) (w : World) (hl : l.length ≤ 1000000) (hall : l.all isDig = true) :
    Calls Tryz.prog 41 #[S l] w fun e w' => ∃ v, e = .returned v ∧ OwnD w' w.heap.size v (dcv l) ∧ Ch w.heap.size none1 w w' := by
  have HALL := Lib.hid hall
  clear hall
  obtain ⟨wo, rfl⟩ : ∃ wo : World, wo = w := ⟨_, rfl⟩
  go_enter Tryz.func41, Tryz.ntmps41
  go_wp2_with fail
  go_loopg [0, 3] (l.length) (fun gh s d wr => ∃ pre r : List UInt8, l = pre ++ r ∧ gh = r.length ∧ s = S r ∧ OwnD wr wo.heap.size d (dcv pre) ∧ (pre = [] ∨ r.length % 18 = 0) ∧ Ch wo.heap.size none1 wo wr)
  case atStart => exact ⟨[], l, rfl, rfl, rfl, OwnD.nil _ _, .inl rfl, Ch.refl _ _ _⟩
  case round =>
    obtain ⟨pre, r, hpr, rfl, rfl, hown, h18, hC⟩ := hrel
    have HPR := Lib.hid hpr
    have HOWN := Lib.hid hown
    have H18 := Lib.hid h18
    have HC := Lib.hid hC
    have hrl : r.length ≤ 1000000 := by have := congrArg List.length hpr; rw [List.length_append] at this; omega
    clear hpr hown h18 hC
    rcases Nat.eq_zero_or_pos r.length with h0 | hpos
    · obtain rfl : r = [] := List.eq_nil_of_length_eq_zero h0
      have he : l = pre := by have := HPR.out; rwa [List.append_nil] at this
      have HE := Lib.hid he
      clear he
      go_wp2_with fail
      go_ret
      exact ⟨_, rfl, by rw [HE.out]; exact HOWN.out, HC.out⟩
    · have hne : r.isEmpty = false := by cases r with
        | nil => simp at hpos
        | cons _ _ => rfl
      have hmod := tmod18 r.length hpos
      have hmr : (r.length - 1) % 18 < 18 := Nat.mod_lt _ (by omega)
      have hmn : (r.length - 1) % 18 + 1 ≤ r.length := by omega
      obtain ⟨m, hm⟩ : ∃ m, (r.length - 1) % 18 = m := ⟨_, rfl⟩
      rw [hm] at hmod hmr hmn
      have HM := Lib.hid hm
      clear hm
      have hra := all_right (l := pre) (m := r) (by have := HALL.out; rwa [HPR.out] at this)
      have HRA := Lib.hid hra
      clear hra
      go_wp2_with fail
      go_loopg [5, 15] (m + 1) (fun gh c i wi => wr = wi ∧ ∃ k : Nat, k ≤ m + 1 ∧ gh = m + 1 - k ∧ i = .int .i64 (k : Int) ∧ c = U (dcv (r.take k)))
      case atStart => exact ⟨rfl, 0, Nat.zero_le _, rfl, rfl, by simp [dcv]⟩
      case round =>
        obtain ⟨rfl, k, hk, rfl, rfl, rfl⟩ := hrel
        have hcl := dcv_lt (r.take k) (all_take HRA.out k)
        have hp18 : 10 ^ (r.take k).length ≤ 10 ^ k := Nat.pow_le_pow_right (by omega) (by rw [List.length_take]; omega)
        by_cases hlt : k < m + 1
        · have hkr : k < r.length := by omega
          obtain ⟨hd1, hd2⟩ := all_get HRA.out k hkr
          have hst : dcv (r.take (k + 1)) = dcv (r.take k) * 10 + (r[k].toNat - 48) := by rw [List.take_succ_eq_append_getElem hkr, dcv_snoc]
          obtain ⟨b, hb⟩ : ∃ b, r[k] = b := ⟨_, rfl⟩
          rw [hb] at hd1 hd2 hst
          have hg : ∀ h', (ByteArray.mk r.toArray)[k]'h' = b := fun _ => hb
          have hc17 : dcv (r.take k) < 100000000000000000 := by
            have : 10 ^ k ≤ 10 ^ 17 := Nat.pow_le_pow_right (by omega) (by omega)
            have h17 : (10 : Nat) ^ 17 = 100000000000000000 := by decide
            omega
          obtain ⟨c, hc⟩ : ∃ c, dcv (r.take k) = c := ⟨_, rfl⟩
          rw [hc] at hst hc17 ⊢
          have HST := Lib.hid hst
          clear hst hb hc hcl hp18
          go_wp2_with fail
          go_roundg (m + 1 - (k + 1))
          case measure => omega
          case rel => exact ⟨rfl, k + 1, by omega, rfl, by go_num, by rw [HST.out]; go_num⟩
        · obtain rfl : k = m + 1 := by omega
          have hc18 : dcv (r.take (m + 1)) < 1000000000000000000 := by
            have : 10 ^ (m + 1) ≤ 10 ^ 18 := Nat.pow_le_pow_right (by omega) (by omega)
            have h17 : (10 : Nat) ^ 18 = 1000000000000000000 := by decide
            omega
          have hch := chunk18 pre r m HM.out.symm hpos H18.out
          obtain ⟨c, hc⟩ : ∃ c, dcv (r.take (m + 1)) = c := ⟨_, rfl⟩
          rw [hc] at hc18 hch ⊢
          have HCH := Lib.hid hch
          clear hch hc hcl hp18
          have hdl : (ds (dcv pre)).length ≤ 1000000 := by
            have h1 := ds_dec_len (all_left (l := pre) (m := r) (by have := HALL.out; rwa [HPR.out] at this))
            have h2 := congrArg List.length HPR.out
            rw [List.length_append] at h2
            omega
          go_wp2_with fail
          refine (mul18 _ (dcv pre) c wo.heap.size _ HOWN.out hdl hc18 HC.out.size).mono ?_
          rintro e w2 ⟨v2, rfl, hown2, hC2⟩
          rw [HCH.out] at hown2
          have HO2 := Lib.hid hown2
          have HC2 := Lib.hid (HC.out.trans hC2)
          clear hown2 hC2
          go_wp2_with fail
          go_roundg (r.length - (m + 1))
          case measure => omega
          case rel => exact ⟨pre ++ r.take (m + 1), r.drop (m + 1), by rw [List.append_assoc, List.take_append_drop]; exact HPR.out, by rw [List.length_drop], by rw [ext_drop _ _ _ rfl], HO2.out, .inr (by rw [List.length_drop]; have := HM.out; omega), HC2.out⟩
end Go.Proofs.YtcghnkdfhiancaaGreatDoor
