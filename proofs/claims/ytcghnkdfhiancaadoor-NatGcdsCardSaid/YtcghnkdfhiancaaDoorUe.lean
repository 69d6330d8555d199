/- The reference implementation's Int, small, Cmp. -/
import Derived.Test.YtcghnkdfhiancaaDoorUc
import Derived.Deep.RegionHeld3
namespace Go.Proofs.YtcghnkdfhiancaaDoor
open Go.RowKit
def b3 (x : Nat) : List UInt8 := [UInt8.ofNat (x / 65536), UInt8.ofNat (x / 256), UInt8.ofNat x]
theorem bv_b3 (x : Nat) (h : x < E24) : bv (b3 x) = x := by
  unfold E24 at h
  simp only [b3, bv, List.foldl, UInt8.toNat_ofNat']
  omega
def byts (xs : List Nat) : List UInt8 := xs.reverse.flatMap b3
theorem byts_cons (x : Nat) (xs : List Nat) : byts (x :: xs) = byts xs ++ b3 x := by simp [byts]
theorem byts_len (xs : List Nat) : (byts xs).length = 3 * xs.length := by
  induction xs with
  | nil => rfl
  | cons x xs ih => rw [byts_cons, List.length_append, ih, List.length_cons]; simp [b3]; omega
theorem bv_byts (xs : List Nat) (h : Eok xs) : bv (byts xs) = ev xs := by
  induction xs with
  | nil => rfl
  | cons x xs ih =>
    have h1 := h x (List.mem_cons_self ..)
    rw [byts_cons, bv_append, ih (fun y hy => h y (List.mem_cons_of_mem _ hy)), show (b3 x).length = 3 from rfl, bv_b3 x h1, ev_cons, show (256 : Nat) ^ 3 = E24 from by decide, Nat.mul_comm]
    omega
theorem u8_wrap (n : Int) : IntKind.u8.wrap n = n % 256 := by
  simp [IntKind.wrap, IntKind.bits, IntKind.signed]
theorem b3_vals (x : Nat) : [Value.int .u8 (IntKind.u8.wrap ((x : Int) / 65536)), .int .u8 (IntKind.u8.wrap ((x : Int) / 256)), .int .u8 (IntKind.u8.wrap (x : Int))] = (b3 x).map Y := by
  simp only [b3, List.map_cons, List.map_nil]
  rw [u8_wrap, u8_wrap, u8_wrap, ← Y_of (x / 65536) ((x : Int) / 65536 % 256) (by omega), ← Y_of (x / 256) ((x : Int) / 256 % 256) (by omega), ← Y_of x ((x : Int) % 256) rfl]
theorem three_cells (w : World) (u0 u1 u2 : Value) (t : TypeId) : ∀ j x, [u0, u1, u2][j]? = some x → (w.alloc (.cells #[u0, u1, u2] t (0, 0))).cell? ((⟨w.heap.size, 0, none⟩ : Addr).add j) = some x := by
  intro j x hj
  have := (Blk.new w #[u0, u1, u2] t).adds j x (by simpa using hj)
  exact this
theorem three_one (a b c : Int) : ∀ u ∈ [Value.int .u8 a, .int .u8 b, .int .u8 c], u.oneCell' = true := fun u hu => by
  simp only [List.mem_cons, List.mem_nil_iff, or_false] at hu
  rcases hu with rfl | rfl | rfl <;> rfl
set_option maxRecDepth 100000 in
set_option maxHeartbeats 1600000 in
theorem rnumber_any (p : Option Addr) (n cap : Nat) (xs : List Nat) (w : World) (hd : Di w p n xs) (hn : n ≤ 33333333333) :
    Calls Tryd.prog 42 #[.slice p n cap] w (Yld w (S (nb (ev xs)))) := by
  obtain ⟨i0, hi, hz0, hz1, hz2⟩ := info_parts Tryd.info5
  have hxl := hd.len
  have HX := Lib.hid hxl; clear hxl
  have HD := Lib.hid hd; clear hd
  have HBL := Lib.hid byts_len
  go_enter Tryd.func42, Tryd.ntmps42
  go_wp2_with fail
  obtain ⟨wo, rfl⟩ : ∃ wo : World, wo = w := ⟨_, rfl⟩
  go_loopw [3, 4] (fun b i wr => ∃ k : Nat, k ≤ n ∧ i = .int .i64 ((k : Int) - 1) ∧ Own wr wo.heap.size 5 b ((byts (xs.drop k)).map Y) ∧ Ch wo.heap.size none1 wo wr) (fun _ i _ => (intOf i + 1).toNat)
  case atStart => exact ⟨n, Nat.le_refl _, rfl, by rw [List.drop_of_length_le (by rw [HX.out]; exact Nat.le_refl _)]; exact Own.nil _ _ _, Ch.refl _ _ _⟩
  case round =>
    obtain ⟨k, hk, rfl, hown, hC⟩ := hrel
    have HO := Lib.hid hown; clear hown
    have HCH := Lib.hid hC; clear hC
    rcases k with _ | k
    · have hcv := own_conv wr _ _ _ HO.out
      have hlen : (byts (xs.drop 0)).length ≤ 1152921504606846975 := by rw [byts_len, List.drop_zero, HX.out]; omega
      have HL := Lib.hid hlen; clear hlen
      rw [List.drop_zero] at hcv HL
      go_wp2_with fail
      refine (canon_any _ _ HL.out).mono ?_
      rintro e w' ⟨rfl, rfl⟩
      go_wp2_with fail
      go_ret
      exact ⟨ret_S (trimL_of_nb (bv_byts xs HD.out.lt)), HCH.out⟩
    · obtain ⟨g, rfl⟩ := HD.out.addr (by omega)
      have hg := (HD.out.on HCH.out).get0 k (by omega)
      have hkx : k < xs.length := by rw [HX.out]; omega
      have hb := HD.out.lt.get k hkx
      have hdr : byts (xs.drop k) = byts (xs.drop (k + 1)) ++ b3 xs[k] := by rw [List.drop_eq_getElem_cons hkx, byts_cons]
      obtain ⟨x, hx⟩ : ∃ x, xs[k] = x := ⟨_, rfl⟩
      rw [hx] at hg hb hdr
      unfold E24 at hb
      have hvals : (byts (xs.drop (k + 1))).map Y ++ [Value.int .u8 (IntKind.u8.wrap ((x : Int) / 65536)), .int .u8 (IntKind.u8.wrap ((x : Int) / 256)), .int .u8 (IntKind.u8.wrap (x : Int))] = (byts (xs.drop k)).map Y := by rw [hdr, List.map_append, b3_vals x]
      have HV := Lib.hid hvals; clear hvals
      have hll : ((byts (xs.drop (k + 1))).map Y).length + 3 ≤ 1000000000000 := by rw [List.length_map, byts_len, List.length_drop, HX.out]; omega
      have HL := Lib.hid hll; clear hll
      have HSZ := Lib.hid HCH.out.size
      clear hx hdr
      have hkn : (k : Int) < (n : Int) := by omega
      have hk0 : (0 : Int) ≤ (k : Int) := by omega
      have hgl : g < wo.heap.size := HD.out.lt_size _ rfl
      have HGA := Lib.hid (fun o => show (wr.alloc o).drew.cell? ⟨g, k, none⟩ = some (I x) from ((Ch.alloc0 (w := wr) o).cell (p := ⟨g, k, none⟩) (Nat.lt_of_lt_of_le hgl HSZ.out) (fun q => q)).trans hg)
      have HGL := Lib.hid hgl
      clear hgl
      have HG := Lib.hid (show wr.drew.cell? ⟨g, k, none⟩ = some (I x) from hg)
      have HL2 := Lib.hid (show ((byts (xs.drop (k + 1))).map Y).length + 3 ≤ maxLen by have := HL.out; unfold maxLen; omega)
      have HL3 := Lib.hid (show (((byts (xs.drop (k + 1))).map Y).length + 3) * 1 ≤ 140737488355328 by have := HL.out; omega)
      go_wp2_with fail
      go_region_held3 (fun w' => w'.cell? ⟨g, k, none⟩ = some (I x))
        (first
          | (with_reducible exact HG.out)
          | (with_reducible exact (hC1.cell (p := ⟨g, k, none⟩) HGL.out (fun q => q)).trans (HGA.out _))
          | (with_reducible exact HGA.out _)
          | go_keep)
        (first
          | (refine step_append_src _ (by rfl) _ _ 22 (by rfl) wo.heap.size 5 i0 _ 1 Tryd.underlying22 hi hz0 hz1 hz2 rfl _ _ _ (by rfl) (HO.out.alloc _).drew _ 3 3 [_, _, _] (by rfl) rfl (fun h => by cases h) (fun ad ha => by obtain rfl := Option.some.inj ha; exact three_cells _ _ _ _ _) (three_one _ _ _) HL2.out HL3.out (size_alloc_le _ HSZ.out) ?_; intro v' w1 hown' hgr; have hC1 := Own.grow (HO.out.alloc _).drew hgr (size_alloc_le _ HSZ.out); clear hgr))
      go_wp2_with fail
      go_roundw
      case rel => exact ⟨k, by omega, by go_num, by rw [← HV.out, Own, List.length_append]; exact hown', ((HCH.out.alloc HSZ.out _).drew).trans hC1⟩
      case measure => simp [intOf]
end Go.Proofs.YtcghnkdfhiancaaDoor
namespace Go.Proofs.YtcghnkdfhiancaaDoor
open Go.RowKit
theorem refOf_any (n : Int) (w : World) (h0 : -9223372036854775808 ≤ n) (h1 : n ≤ 9223372036854775807) :
    Calls Tryd.prog 29 #[.int .i64 n] w (Yld w (S (nb n.toNat))) := by
  by_cases hp : 0 < n
  · obtain ⟨N, rfl⟩ := Int.eq_ofNat_of_zero_le (Int.le_of_lt hp)
    exact refOf_pos N w (by omega) (by omega)
  · have hz : nb n.toNat = [] := by rw [show n.toNat = 0 from by omega, nb_zero]
    rw [hz]
    exact refOf_neg n w h0 (by omega)
theorem take_bv_le (l : List UInt8) (k : Nat) : bv (l.take k) ≤ bv l := by
  by_cases h : k ≤ l.length
  · have := bv_take_div l (l.length - k) (by omega)
    rw [show l.length - (l.length - k) = k from by omega] at this
    rw [this]; exact Nat.div_le_self _ _
  · rw [List.take_of_length_le (by omega)]; exact Nat.le_refl _
set_option maxRecDepth 100000 in
set_option maxHeartbeats 800000 in
theorem refInt_yes (a : List UInt8) (w : World) (ha : a.length ≤ 1152921504606846975) (h1 : bv a ≤ 9223372036854775807) :
    Calls Tryd.prog 30 #[S a] w fun e w' => e = .returned (.tuple #[.int .i64 (bv a : Nat), .bool true]) ∧ w' = w := by
  have ha1 := trimL_len a
  have hbv := bv_trim a
  have h8 : (trimL a).length ≤ 8 := (trim_len8 a).2 (by omega)
  obtain ⟨l, hl⟩ : ∃ l, trimL a = l := ⟨_, rfl⟩
  have HC0 := Lib.hid (canon_any a)
  have hr := rt_trim a
  rw [hl] at ha1 hbv h8 HC0 hr
  have htk := take_bv_le l
  rw [hbv] at htk
  have HB := Lib.hid hbv
  have hfirst : ∀ h : 0 < l.length, l.length = 8 → (l[0].toNat : Int) ≤ 127 := fun h he => by
    have h2 := htk 1
    have h3 := bv_take_div l 7 (by omega)
    rw [show l.length - 7 = 1 from by omega, hbv] at h3
    have h4 : bv (l.take 1) = l[0].toNat := by
      rw [List.take_succ_eq_append_getElem h, List.take_zero, List.nil_append]
      simp [bv]
    rw [h4] at h3
    have : bv a / 256 ^ 7 ≤ 127 := by
      have : bv a / 256 ^ 7 < 128 := (Nat.div_lt_iff_lt_mul (by decide)).2 (by omega)
      omega
    omega
  clear hbv hr hl
  have HTK := Lib.hid htk; clear htk
  have hloop : ∀ k, k < l.length → bv (l.take (k + 1)) = bv (l.take k) * 256 + (l[k]?.getD 0).toNat := fun k hk => by
    rw [List.take_succ_eq_append_getElem hk, bv_snoc, List.getElem?_eq_getElem hk]; rfl
  have HLP := Lib.hid hloop; clear hloop
  have hfull : bv (l.take l.length) = bv a := by rw [List.take_length, HB.out]
  have HF := Lib.hid hfull; clear hfull
  have hnine : ¬ (8 : Int) < (l.length : Int) := by omega
  by_cases he8 : l.length = 8
  · have hp0 : 0 < l.length := by omega
    have hf := hfirst hp0 he8
    obtain ⟨b0, hb0⟩ : ∃ b, l[0] = b := ⟨_, rfl⟩
    rw [hb0] at hf
    have hg0 : ∀ h', (ByteArray.mk l.toArray)[0]'h' = b0 := fun _ => hb0
    have hne : ¬ (127 : Int) < (b0.toNat : Int) := by omega
    have he : ((l.length : Int) == 8) = true := by simp; omega
    clear hfirst hb0
    go_enter Tryd.func30, Tryd.ntmps30
    go_wp2_with fail
    refine (HC0.out _ (by omega)).mono ?_
    rintro e w' ⟨rfl, rfl⟩
    go_wp2_with fail
    go_loop [4, 5] (fun n i => ∃ k : Nat, k ≤ l.length ∧ i = I k ∧ n = I (bv (l.take k))) (fun _ i => l.length - (intOf i).toNat)
    case atStart => exact ⟨0, Nat.zero_le _, rfl, rfl⟩
    case round =>
      obtain ⟨k, hk, rfl, rfl⟩ := hrel
      by_cases hlt : k < l.length
      · have hst := HLP.out k hlt
        have hle := HTK.out (k + 1)
        rw [List.getElem?_eq_getElem hlt] at hst
        simp only [Option.getD_some] at hst
        obtain ⟨b, hb⟩ : ∃ b, l[k] = b := ⟨_, rfl⟩
        rw [hb] at hst
        obtain ⟨t, ht⟩ : ∃ t, bv (l.take (k + 1)) = t := ⟨_, rfl⟩
        obtain ⟨d, hd⟩ : ∃ d, bv (l.take k) = d := ⟨_, rfl⟩
        rw [ht] at hle
        rw [ht, hd] at hst
        rw [hd]
        have hbb := u8_lt b
        have hdb : d * 256 ≤ 9223372036854775807 := by omega
        have htb : d * 256 + b.toNat ≤ 9223372036854775807 := by omega
        have hg : ∀ h', (ByteArray.mk l.toArray)[k]'h' = b := fun _ => hb
        have HST := Lib.hid hst
        have HT := Lib.hid ht
        clear hst ht hd hb hle
        go_wp2_with fail
        go_round
        case rel => exact ⟨k + 1, by omega, by go_num, by rw [HT.out, HST.out]; go_num⟩
        case measure => simp [intOf]; omega
      · obtain rfl : k = l.length := by omega
        rw [HF.out]
        go_wp2_with fail
        go_ret2
        exact ⟨rfl, rfl⟩
  · have he : ((l.length : Int) == 8) = false := by simp; omega
    clear hfirst
    go_enter Tryd.func30, Tryd.ntmps30
    go_wp2_with fail
    refine (HC0.out _ (by omega)).mono ?_
    rintro e w' ⟨rfl, rfl⟩
    go_wp2_with fail
    go_loop [4, 5] (fun n i => ∃ k : Nat, k ≤ l.length ∧ i = I k ∧ n = I (bv (l.take k))) (fun _ i => l.length - (intOf i).toNat)
    case atStart => exact ⟨0, Nat.zero_le _, rfl, rfl⟩
    case round =>
      obtain ⟨k, hk, rfl, rfl⟩ := hrel
      by_cases hlt : k < l.length
      · have hst := HLP.out k hlt
        have hle := HTK.out (k + 1)
        rw [List.getElem?_eq_getElem hlt] at hst
        simp only [Option.getD_some] at hst
        obtain ⟨b, hb⟩ : ∃ b, l[k] = b := ⟨_, rfl⟩
        rw [hb] at hst
        obtain ⟨t, ht⟩ : ∃ t, bv (l.take (k + 1)) = t := ⟨_, rfl⟩
        obtain ⟨d, hd⟩ : ∃ d, bv (l.take k) = d := ⟨_, rfl⟩
        rw [ht] at hle
        rw [ht, hd] at hst
        rw [hd]
        have hbb := u8_lt b
        have hdb : d * 256 ≤ 9223372036854775807 := by omega
        have htb : d * 256 + b.toNat ≤ 9223372036854775807 := by omega
        have hg : ∀ h', (ByteArray.mk l.toArray)[k]'h' = b := fun _ => hb
        have HST := Lib.hid hst
        have HT := Lib.hid ht
        clear hst ht hd hb hle
        go_wp2_with fail
        go_round
        case rel => exact ⟨k + 1, by omega, by go_num, by rw [HT.out, HST.out]; go_num⟩
        case measure => simp [intOf]; omega
      · obtain rfl : k = l.length := by omega
        rw [HF.out]
        go_wp2_with fail
        go_ret2
        exact ⟨rfl, rfl⟩
set_option maxRecDepth 100000 in
set_option maxHeartbeats 800000 in
theorem refInt_no (a : List UInt8) (w : World) (ha : a.length ≤ 1152921504606846975) (h1 : ¬ bv a ≤ 9223372036854775807) :
    Calls Tryd.prog 30 #[S a] w fun e w' => e = .returned (.tuple #[.int .i64 0, .bool false]) ∧ w' = w := by
  have ha1 := trimL_len a
  have hbv := bv_trim a
  have HC0 := Lib.hid (canon_any a)
  have hr := trim_len a 7
  obtain ⟨l, hl⟩ : ∃ l, trimL a = l := ⟨_, rfl⟩
  rw [hl] at ha1 hbv HC0 hr
  clear hl
  have h7 : ¬ l.length ≤ 7 := fun q => by
    have := hr.1 q
    omega
  by_cases he8 : l.length = 8
  · have hp0 : 0 < l.length := by omega
    have hf : (127 : Int) < (l[0].toNat : Int) := by
      have h3 := bv_take_div l 7 (by omega)
      rw [show l.length - 7 = 1 from by omega, hbv] at h3
      have h4 : bv (l.take 1) = l[0].toNat := by
        rw [List.take_succ_eq_append_getElem hp0, List.take_zero, List.nil_append]
        simp [bv]
      rw [h4] at h3
      have : 128 ≤ bv a / 256 ^ 7 := (Nat.le_div_iff_mul_le (by decide)).2 (by omega)
      omega
    obtain ⟨b0, hb0⟩ : ∃ b, l[0] = b := ⟨_, rfl⟩
    rw [hb0] at hf
    have hg0 : ∀ h', (ByteArray.mk l.toArray)[0]'h' = b0 := fun _ => hb0
    have hnine : ¬ (8 : Int) < (l.length : Int) := by omega
    have he : ((l.length : Int) == 8) = true := by simp; omega
    clear hb0 hr hbv h1
    go_enter Tryd.func30, Tryd.ntmps30
    go_wp2_with fail
    refine (HC0.out _ (by omega)).mono ?_
    rintro e w' ⟨rfl, rfl⟩
    go_wp2_with fail
    go_ret2
    exact ⟨rfl, rfl⟩
  · have hnine : (8 : Int) < (l.length : Int) := by omega
    clear hr hbv h1 h7 he8
    go_enter Tryd.func30, Tryd.ntmps30
    go_wp2_with fail
    refine (HC0.out _ (by omega)).mono ?_
    rintro e w' ⟨rfl, rfl⟩
    go_wp2_with fail
    go_ret2
    exact ⟨rfl, rfl⟩
end Go.Proofs.YtcghnkdfhiancaaDoor
