/- Contracts of package nat's functions that make digits. -/
import Derived.Test.YtcghnkdfhiancaaDoorNb
import Derived.Test.YtcghnkdfhiancaaDoorNd
namespace Go.Proofs.YtcghnkdfhiancaaDoor
open Go.RowKit
theorem Tryd.info52 : (Tryd.prog.info? 52).map (fun i => (i.zero, i.size, i.bytes)) = some (some (.int .u64 0), 1, 8) := by kernel_rfl
theorem len8_is (b : UInt8) (m : Nat) (w : World) (h : Lib.bitLen b.toNat = m) :
    Calls Tryd.prog 60 #[.int .u8 (b.toNat : Int)] w fun e w' => e = .returned (.int .i64 (m : Nat)) ∧ w' = w := by
  have := u8_lt b
  have := Tryd.bits_Len8 (b.toNat : Int) w (by omega) (by omega)
  rw [Int.toNat_natCast, h] at this
  exact this
set_option maxHeartbeats 400000 in
theorem bits_any (a : List UInt8) (w : World) (ha : a.length ≤ 1152921504606846975) :
    Calls Tryd.prog 31 #[S a] w fun e w' => e = .returned (.int .i64 (nbits (bv a) : Nat)) ∧ w' = w := by
  have ha1 := trimL_len a
  by_cases h0 : trimL a = []
  · have H0 := Lib.hid h0
    go_enter Tryd.func31, Tryd.ntmps31
    go_wp2_with fail
    refine (trimmed_any a _ (by unfold maxLen; omega)).mono ?_
    rintro e w' ⟨rfl, rfl⟩
    go_wp2_with fail
    go_ret
    exact ⟨ret_nat (by rw [(trimL_nil_iff a).1 H0.out, nbits_zero]), rfl⟩
  · obtain ⟨b, l, h1⟩ : ∃ b l, trimL a = b :: l := by
      cases h : trimL a with
      | nil => exact absurd h h0
      | cons b l => exact ⟨b, l, rfl⟩
    clear h0
    have hl : l.length + 1 ≤ a.length := by rw [h1] at ha1; simpa using ha1
    have hT := trimmed_any a
    rw [h1] at hT
    have HT := Lib.hid hT; clear hT
    have hb0 : ¬ b = 0 := by
      have := rt_trim a
      rw [h1] at this
      rcases this with q | ⟨c, m, q, hc⟩
      · simp at q
      · simp only [List.cons.injEq] at q
        rw [q.1]; exact hc
    have hb1 : b.toNat ≠ 0 := fun q => hb0 (UInt8.toNat_inj.1 q)
    have hb2 := u8_lt b
    obtain ⟨m, hm⟩ : ∃ m, Lib.bitLen b.toNat = m := ⟨_, rfl⟩
    have k1 := bitLen_iff b.toNat m (by omega)
    have k2 := bitLen_iff b.toNat (m - 1) (by omega)
    have k3 := bitLen_iff b.toNat 8 (by omega) (by omega)
    have k4 := bitLen_iff b.toNat 0 (by omega) (by omega)
    rw [hm] at k1 k2 k3 k4
    have m8 : m ≤ 8 := k3.2 (by simpa using hb2)
    have m1 : 1 ≤ m := by
      rcases Nat.eq_zero_or_pos m with q | q
      · have := k4.1 (by omega); simp at this; omega
      · exact q
    have hres : nbits (bv a) = 8 * l.length + m := by
      rw [← bv_trim, h1]
      exact nbits_byte b l m ((k1 (by omega)).1 (Nat.le_refl _)) (by have := k2 (by omega); omega) m1
    have HR := Lib.hid hres; clear hres
    have HM := Lib.hid hm; clear hm k1 k2 k3 k4 h1
    go_enter Tryd.func31, Tryd.ntmps31
    go_wp2_with fail
    refine (HT.out _ (by unfold maxLen; omega)).mono ?_
    rintro e w' ⟨rfl, rfl⟩
    go_wp2_with fail
    refine (len8_is _ m _ HM.out).mono ?_
    rintro e w' ⟨rfl, rfl⟩
    go_wp2_with fail
    go_ret
    exact ⟨ret_int (by rw [HR.out]; omega), rfl⟩
set_option maxRecDepth 100000 in
set_option maxHeartbeats 400000 in
theorem digitsOf_any (a : List UInt8) (w : World) (ha : a.length ≤ 140737488351232) :
    Calls Tryd.prog 39 #[S a] w fun e w' => ∃ g, e = .returned (.slice (some ⟨g, 0, none⟩) (ds (bv a)).length (ds (bv a)).length) ∧ Blk w' g 52 ((ds (bv a)).map U) ∧ w.heap.size ≤ g ∧ Ch w.heap.size none1 w w' := by
  have ha1 := trimL_len a
  obtain ⟨i0, hi, hz0, hz1, hz2⟩ := info_parts Tryd.info52
  have hlen : ((trimL a).length + 7) / 8 ≤ 17592186043905 := by omega
  obtain ⟨n, hn⟩ : ∃ n, ((trimL a).length + 7) / 8 = n := ⟨_, rfl⟩
  rw [hn] at hlen
  have hn2 : (((trimL a).length : Int) + 7) / 8 = (n : Int) := by omega
  have HN := Lib.hid hn; clear hn
  have HN2 := Lib.hid hn2; clear hn2
  go_enter Tryd.func39, Tryd.ntmps39
  go_wp2_with fail
  refine (trimmed_any a _ (by unfold maxLen; omega)).mono ?_
  rintro e w' ⟨rfl, rfl⟩
  go_wp2_with (refine wpList_make_blk _ rfl _ _ 57 rfl 52 i0 .u64 0 Tryd.underlying57 hi hz0 hz1 .i64 .i64 _ _ n rfl rfl HN2.out HN2.out (by rw [hz2]; omega) (by unfold maxLen; omega) ?_; intro w1 hB hC)
  have hl := ds_len_bytes a
  have hl2 : (ds (bv a)).length = n := hl.trans HN.out
  have HL := Lib.hid hl2; clear hl hl2
  obtain ⟨wo, rfl⟩ : ∃ wo : World, wo = w' := ⟨_, rfl⟩
  go_loopw [15] (fun i wr => ∃ k : Nat, k ≤ n ∧ i = .int .i64 k ∧ Blk wr wo.heap.size 52 (((ds (bv a)).map U).take k ++ List.replicate (n - k) (U 0)) ∧ Ch wo.heap.size none1 wo wr) (fun i _ => n - (intOf i).toNat)
  case atStart => exact ⟨0, Nat.zero_le _, rfl, hB, hC⟩
  case round =>
    obtain ⟨k, hk, rfl, hB', hC'⟩ := hrel
    by_cases hlt : k < n
    · have hn3 : 8 * k < (trimL a).length := by have := HN.out; omega
      have c : wr.cell? ⟨wo.heap.size, k, none⟩ = some (U 0) := by
        rw [hB'.cell k, List.getElem?_append_right (by rw [List.length_take]; omega), List.length_take, List.length_map, HL.out, Nat.min_eq_left hk, Nat.sub_self, show n - k = (n - k - 1) + 1 from by omega, List.replicate_succ]
        rfl
      have f := hB'.frozen k
      have hv0 : bv (((trimL a).take ((trimL a).length - 8 * k)).drop ((trimL a).length - 8 * k - 8)) = (ds (bv a))[k]'(by rw [HL.out]; exact hlt) := ds_chunk a k _ rfl (by rw [HL.out]; exact hlt)
      obtain ⟨v, hv⟩ : ∃ v, (ds (bv a))[k]'(by rw [HL.out]; exact hlt) = v := ⟨_, rfl⟩
      rw [hv] at hv0
      have HV := Lib.hid hv; clear hv
      have HV0 := Lib.hid hv0; clear hv0
      have hmax : (max (((trimL a).length : Int) - 8 * (k : Int) - 8) 0).toNat = (trimL a).length - 8 * k - 8 := by rw [Int.max_def]; split <;> omega
      have HM := Lib.hid hmax; clear hmax
      have hsz : min ((trimL a).length - 8 * k) (trimL a).length - ((trimL a).length - 8 * k - 8) ≤ 8 := by omega
      have HS := Lib.hid hsz; clear hsz
      go_wp2_with (go_at_call 66; refine (wordOf_is _ v _ ?_ ?_).mono ?_)
      · rw [ext_size, List.length_drop, List.length_take, HM.out]; exact HS.out
      · rw [ext_list, ← HV0.out, HM.out]
      rintro e w1' ⟨rfl, rfl⟩
      go_wp2
      go_roundw
      case rel =>
        refine ⟨k + 1, by omega, by go_num, (hB'.set k (U v)).cast ?_, hC'.setCell (.inl (Nat.le_refl _)) _⟩
        exact fill_set _ k n _ _ hlt (by rw [List.length_map]; exact HL.out) (by
          rw [List.getElem?_map, List.getElem?_eq_getElem (by rw [HL.out]; exact hlt), HV.out]; rfl)
      case measure => simp [intOf]; omega
    · have hkn : k = n := by omega
      have HK := Lib.hid hkn; clear hkn
      go_wp2
      go_ret
      refine ⟨wo.heap.size, ?_, hB'.cast ?_, Nat.le_refl _, hC'⟩
      · rw [HL.out]; rfl
      · rw [HK.out, Nat.sub_self, List.replicate_zero, List.append_nil, List.take_of_length_le (by rw [List.length_map, HL.out]; exact Nat.le_refl _)]
/-- The bytes of digits, the most significant digit first. -/
def bytesOf (xs : List Nat) : List UInt8 := xs.reverse.flatMap be8
theorem bytesOf_cons (x : Nat) (xs : List Nat) : bytesOf (x :: xs) = bytesOf xs ++ be8 x := by simp [bytesOf]
theorem bytesOf_len (xs : List Nat) : (bytesOf xs).length = 8 * xs.length := by
  induction xs with
  | nil => rfl
  | cons x xs ih => rw [bytesOf_cons, List.length_append, ih, be8_len, List.length_cons]; omega
theorem bv_bytesOf (xs : List Nat) (h : Dok xs) : bv (bytesOf xs) = dv xs := by
  induction xs with
  | nil => rfl
  | cons x xs ih =>
    have h1 := h x (List.mem_cons_self ..)
    rw [bytesOf_cons, bv_append, ih (fun y hy => h y (List.mem_cons_of_mem _ hy)), be8_len, bv_be8 x h1, dv_cons, show (256 : Nat) ^ 8 = D from by decide, Nat.mul_comm]
    omega
set_option maxRecDepth 100000 in
set_option maxHeartbeats 400000 in
theorem natural_any (p : Option Addr) (n cap : Nat) (xs : List Nat) (w : World) (hd : Dg w p n xs) (hn : n ≤ 17592186044416) :
    Calls Tryd.prog 41 #[.slice p n cap] w fun e w' => e = .returned (S (nb (dv xs))) ∧ Ch w.heap.size none1 w w' := by
  obtain ⟨i0, hi, hz0, hz1, hz2⟩ := info_parts Tryd.info5
  have hN2 : (8 * (n : Int)) = ((8 * n : Nat) : Int) := by omega
  have HN2 := Lib.hid hN2; clear hN2
  have hxl := hd.len
  have hxl2 : xs.length ≤ 17592186044416 := by omega
  have HX := Lib.hid hxl; clear hxl
  have HD := Lib.hid hd; clear hd
  go_enter Tryd.func41, Tryd.ntmps41
  go_wp2_with (refine wpList_make_cap _ rfl _ _ 22 rfl 5 i0 .u8 0 Tryd.underlying22 hi hz0 hz1 .i64 .i64 _ (8 * n) rfl rfl HN2.out (by rw [hz2]; omega) (by unfold maxLen; omega) ?_; intro w1 cs0 hB hL hC)
  obtain ⟨wo, rfl⟩ : ∃ wo : World, wo = w := ⟨_, rfl⟩
  have HL := Lib.hid hL; clear hL
  go_loopw [3, 4] (fun b i wr => ∃ k : Nat, k ≤ n ∧ i = .int .i64 ((n : Int) - 1 - k) ∧ b = .slice (some ⟨wo.heap.size, 0, none⟩) (8 * k) (8 * n) ∧
      (∃ cs, Blk wr wo.heap.size 5 cs ∧ cs.length = 8 * n ∧ cs.take (8 * k) = (bytesOf (xs.drop (n - k))).map Y) ∧ Ch wo.heap.size none1 wo wr) (fun _ i _ => (intOf i + 1).toNat)
  case atStart => 
    refine ⟨0, Nat.zero_le _, by go_num, rfl, ⟨cs0, hB, HL.out, ?_⟩, hC⟩
    rw [List.drop_of_length_le (by rw [HX.out]; omega)]; rfl
  case round =>
    obtain ⟨k, hk, rfl, rfl, ⟨cs, hB', hL', hT'⟩, hC'⟩ := hrel
    have HL' := Lib.hid hL'; clear hL'
    have HT' := Lib.hid hT'; clear hT'
    by_cases hlt : k < n
    · obtain ⟨g, o, rfl⟩ := HD.out.addr (by omega)
      have hdd := Dg.ch hC' HD.out (fun a ha => ⟨HD.out.lt_size a ha, fun q => q⟩)
      have hg := hdd.get (n - 1 - k) (by omega)
      have hx1 := HD.out.lt _ (List.getElem_mem (l := xs) (n := n - 1 - k) (by rw [HX.out]; omega))
      obtain ⟨x, hx⟩ : ∃ x, xs[n - 1 - k]'(by rw [HX.out]; omega) = x := ⟨_, rfl⟩
      rw [hx] at hg hx1
      have HXX := Lib.hid hx; clear hx
      clear hdd
      have e1 : ((n : Int) - 1 - k).toNat = n - 1 - k := by omega
      go_wp2_with fail
      refine (appendWord_any x _ (8 * k) (8 * n) _ cs _ hx1 hB' (by rw [HL'.out]; omega) (by omega) (by unfold maxLen; omega)).mono ?_
      rintro e w2 ⟨rfl, hB2, hC2⟩
      go_wp2_with fail
      go_roundw
      case rel =>
        refine ⟨k + 1, by omega, by go_num, rfl, ⟨_, hB2, ?_, ?_⟩, hC'.step hC2 (Nat.le_refl _) (fun j hj q => absurd q (by omega))⟩
        · have := HL'.out
          simp only [List.length_append, List.length_take, List.length_map, be8_len, List.length_drop]
          omega
        · have hc : n - k = (n - 1 - k) + 1 := by omega
          have hd2 : xs.drop (n - (k + 1)) = x :: xs.drop (n - k) := by
            rw [hc, show n - (k + 1) = n - 1 - k from by omega, List.drop_eq_getElem_cons (by rw [HX.out]; omega), HXX.out]
          rw [hd2, bytesOf_cons, List.map_append, ← HT'.out]
          refine List.take_left' ?_
          have := HL'.out
          simp only [List.length_append, List.length_take, List.length_map, be8_len]
          omega
      case measure => simp [intOf]; omega
    · have hkn : k = n := by omega
      have hl3 : (bytesOf xs).length = 8 * k := by rw [bytesOf_len, HX.out, hkn]
      have ht3 : cs.take (8 * k) = (bytesOf xs).map Y := by rw [HT'.out, hkn, Nat.sub_self, List.drop_zero]
      have hcv := run_convert_blk (P := Tryd.prog) wr 22 24 5 Tryd.underlying22 Tryd.underlying5 Tryd.underlying24 wo.heap.size 0 (8 * k) (8 * n) (bytesOf xs) 5 cs hB' hl3 (fun i hi => by
        have h1 := congrArg (·[i]?) ht3
        simp only [List.getElem?_take, List.getElem?_map] at h1
        rw [if_pos (by omega), List.getElem?_eq_getElem hi] at h1
        rw [Nat.zero_add, h1]; rfl)
      have HKN := Lib.hid hkn; clear hkn ht3
      have H3 := Lib.hid hl3; clear hl3
      go_wp2_with fail
      refine (trimmed_any _ _ (by rw [H3.out]; unfold maxLen; omega)).mono ?_
      rintro e w' ⟨rfl, rfl⟩
      go_wp2_with fail
      go_ret
      exact ⟨ret_S (trimL_of_nb (bv_bytesOf xs HD.out.lt)), hC'⟩
end Go.Proofs.YtcghnkdfhiancaaDoor
