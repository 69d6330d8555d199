/- Contracts of package nat's shifts, and of one step of a division. -/
import Derived.Test.YtcghnkdfhiancaaDoorNo
import Derived.Lib.SliceRun
namespace Go.Proofs.YtcghnkdfhiancaaDoor
open Go.RowKit
set_option maxRecDepth 100000 in
set_option maxHeartbeats 1600000 in
theorem clone_any (g o n cap : Nat) (xs : List Nat) (w : World) (hd : Dg w (some ⟨g, o, none⟩) n xs) (hn0 : 0 < n) (hn : n ≤ 8796093022209) :
    Calls Tryd.prog 80 #[.slice (some ⟨g, o, none⟩) n cap] w fun e w' => ∃ v, e = .returned v ∧ w'.ownsRow w.heap.size 52 1 v n (xs.map U) ∧ Ch w.heap.size none1 w w' := by
  obtain ⟨i0, hi, hz0, hz1, hz2⟩ := info_parts Tryd.info52
  have HX := Lib.hid hd.len
  have hnil := fun w => Lib.run_eql_slice_nil (P := Tryd.prog) w 57 52 (some ⟨g, o, none⟩) n cap 0 0 Tryd.underlying57
  have hnews : ∀ j u, (xs.map U)[j]? = some u → (w.alloc (.cells #[] 52)).cell? ((⟨g, o, none⟩ : Addr).add j) = some u := fun j u hj => by
    rw [plain_add]
    have hjl : j < n := by
      rcases Nat.lt_or_ge j n with h | h
      · exact h
      · rw [List.getElem?_eq_none (by rw [List.length_map, HX.out]; exact h)] at hj; simp at hj
    have hc := (Dg.ch ((Ch.refl w.heap.size none1 w).alloc (Nat.le_refl _) (.cells #[] 52)) hd (fun a ha => ⟨hd.lt_size a ha, fun q => q⟩)).get j hjl
    rw [hc, ← hj, List.getElem?_map, List.getElem?_eq_getElem (by rw [HX.out]; exact hjl)]
    rfl
  have HNEWS := Lib.hid hnews; clear hnews hd
  go_enter Tryd.func80, Tryd.ntmps80
  go_wp2_with (at_builtin; refine wpList_append_own _ rfl _ _ 57 rfl w.heap.size 52 i0 (.int .u64 0) 1 8 Tryd.underlying57 hi hz0 hz1 hz2 rfl (by decide) _ 0 [] rfl (World.ownsRow_lit w #[] 0 (Nat.le_refl _) (by decide) rfl) ⟨g, o, none⟩ n cap (xs.map U) rfl (by rw [List.length_map, HX.out, Nat.mul_one]) HNEWS.out (by simp [one_int]) (by unfold maxLen; omega) (by omega) (by simp) ?_; intro v' w4 hown' hgrow _)
  have hC := ((Ch.refl w.heap.size none1 w).alloc (Nat.le_refl _) (.cells #[] 52)).step (Ch.of_grown_own hgrow) (Nat.le_refl _) (fun k hk q => absurd q (by omega))
  clear hgrow
  go_wp2_with fail
  go_ret
  exact ⟨v', rfl, by simpa using hown', hC⟩
/-- The estimate of a digit. -/
def est (h l v : Nat) : Nat := if v ≤ h then D - 1 else (h * D + l) / v
theorem est_lt (h l v : Nat) (hl : l < D) : est h l v < D := by
  unfold est
  split
  · have := D_pos; omega
  · exact q_lt h l v (by omega) hl
set_option maxRecDepth 100000 in
set_option maxHeartbeats 800000 in
theorem estimate_any (h l v : Nat) (w : World) (hl : l < D) (hv : v < D) :
    Calls Tryd.prog 104 #[U h, U l, U v] w fun e w' => e = .returned (U (est h l v)) ∧ ∃ k, w' = w.drewN k := by
  by_cases hc : v ≤ h
  · have he : est h l v = D - 1 := if_pos hc
    rw [he]
    go_enter Tryd.func104, Tryd.ntmps104
    go_wp2_with fail
    go_ret
    exact ⟨rfl, 0, rfl⟩
  · have he : est h l v = (h * D + l) / v := if_neg hc
    rw [he]
    have hd := fun w => div64_quiet h l v _ _ w (by omega) hl hv rfl rfl
    generalize (h * D + l) / v = q at *
    generalize (h * D + l) % v = r at *
    have HD := Lib.hid hd; clear hd he
    go_enter Tryd.func104, Tryd.ntmps104
    go_wp2_with fail
    refine (HD.out _).mono ?_
    rintro e w2 ⟨rfl, k, rfl⟩
    go_wp2_with fail
    go_ret
    exact ⟨rfl, k, rfl⟩
/-- An estimate is no less than the digit. -/
theorem est_ge (xs ys : List Nat) (m q : Nat) (hx : Dok xs) (_hy : Dok ys) (hxl : xs.length = m + 1) (hyl : ys.length = m) (hm : 0 < m) (hq : q < D) (h : q * dv ys ≤ dv xs) : q ≤ est (xs[m]'(by omega)) (xs[m - 1]'(by omega)) (ys[m - 1]'(by omega)) := by
  unfold est
  split
  · omega
  · rename_i hc
    rw [Nat.le_div_iff_mul_le (by omega)]
    have h1 := dv_take_succ xs m (by omega)
    have h2 := dv_take_succ xs (m - 1) (by omega)
    have h3 := dv_take_succ ys (m - 1) (by omega)
    have h4 := dv_lt (hx.take (m - 1))
    rw [List.length_take, Nat.min_eq_left (by omega)] at h4
    rw [show m - 1 + 1 = m from by omega] at h2 h3
    rw [List.take_of_length_le (by omega)] at h1 h3
    generalize xs[m]'(by omega) = a at *
    generalize xs[m - 1]'(by omega) = b at *
    generalize ys[m - 1]'(by omega) = c at *
    have hP : D ^ m = D ^ (m - 1) * D := by rw [← Nat.pow_succ]; congr 1; omega
    rw [hP] at h1
    rw [h2] at h1
    have hpos : 0 < D ^ (m - 1) := Nat.pow_pos D_pos
    generalize D ^ (m - 1) = P at *
    have h5 : P * (q * c) ≤ q * dv ys := by
      rw [h3, Nat.mul_add, Nat.mul_left_comm]; omega
    have h6 : dv xs < P * (a * D + b + 1) := by
      rw [h1, Nat.mul_add, Nat.mul_add, Nat.mul_one, Nat.mul_comm a D, ← Nat.mul_assoc]; omega
    have h7 : P * (q * c) < P * (a * D + b + 1) := by omega
    have h8 := Nat.lt_of_mul_lt_mul_left h7
    omega
theorem shl_low (x s c : Nat) (hs : s ≤ 64) (hc : c < 2 ^ s) : x * 2 ^ s % D ||| c = x * 2 ^ s % D + c := by
  have hD : D = 2 ^ (64 - s) * 2 ^ s := by rw [← Nat.pow_add, show 64 - s + s = 64 by omega]; rfl
  rw [hD, Nat.mul_mod_mul_right]
  exact or_mul _ _ _ hc
theorem shl_step (B P S x c m c' dz dx : Nat) (h : dz + P * c = dx * S) (hm : m + B * c' = x * S) : (dz + P * (m + c)) + P * B * c' = (dx + P * x) * S := by
  have : P * (m + B * c') = P * (x * S) := by rw [hm]
  grind
theorem pow_le64 (s : Nat) (hs : s ≤ 64) : 2 ^ s ≤ 18446744073709551616 := Nat.pow_le_pow_right (n := 2) (by omega) hs
set_option maxRecDepth 100000 in
set_option maxHeartbeats 800000 in
theorem shiftedLeft_any (p : Option Addr) (n cap s : Nat) (xs : List Nat) (w : World) (hd : Dg w p n xs) (hn : n ≤ 8796093022209) (hs : s < 64) :
    Calls Tryd.prog 96 #[.slice p n cap, U s] w fun e w' => ∃ g zs, e = .returned (.slice (some ⟨g, 0, none⟩) ((n + 1 : Nat)) ((n + 1 : Nat))) ∧ w.heap.size ≤ g ∧ Blk w' g 52 (zs.map U) ∧ Dok zs ∧ zs.length = n + 1 ∧ dv zs = dv xs * 2 ^ s ∧ Ch w.heap.size none1 w w' := by
  obtain ⟨i0, hi, hz0, hz1, hz2⟩ := info_parts Tryd.info52
  have HD := Lib.hid hd; clear hd
  have HX := Lib.hid HD.out.len
  have hnn : ((n : Int) + 1) = ((n + 1 : Nat) : Int) := by omega
  have HNN := Lib.hid hnn; clear hnn
  go_enter Tryd.func96, Tryd.ntmps96
  go_wp2_with (refine wpList_make_blk _ rfl _ _ 57 rfl 52 i0 .u64 0 Tryd.underlying57 hi hz0 hz1 .i64 .i64 _ _ (n + 1) rfl rfl HNN.out HNN.out (by rw [hz2]; omega) (by unfold maxLen; omega) ?_; intro w1 hB hC)
  obtain ⟨wo, rfl⟩ : ∃ wo : World, wo = w := ⟨_, rfl⟩
  go_loopw [6, 15] (fun cv i wr => ∃ (k c : Nat) (zs : List Nat), k ≤ n ∧ c < 2 ^ s ∧ i = .int .i64 k ∧ cv = U c ∧ Dok zs ∧ zs.length = k ∧ dv zs + D ^ k * c = dv (xs.take k) * 2 ^ s ∧ Blk wr wo.heap.size 52 ([] ++ (zs ++ 0 :: List.replicate (n - k) 0).map U ++ []) ∧ Ch wo.heap.size none1 wo wr)
    (fun _ i _ => n - (intOf i).toNat)
  case atStart => exact ⟨0, 0, [], Nat.zero_le _, Nat.two_pow_pos s, rfl, rfl, Dok.nil, rfl, by simp [dv], hB.cast (by simp [List.replicate_succ]), hC⟩
  case round =>
    clear hB hC
    obtain ⟨k, c, zs, hk, hc, rfl, rfl, hz, hzl, hzv, hB', hC'⟩ := hrel
    have HZ := Lib.hid hzl; clear hzl
    have HV := Lib.hid hzv; clear hzv
    have c1 := hB'.cell (0 + k)
    rw [mid_get [] [] zs _ 0 0 k rfl HZ.out, Nat.zero_add] at c1
    have f1 := hB'.frozen k
    have hcb := Nat.lt_of_lt_of_le hc (pow_le64 s (by omega))
    by_cases hlt : k < n
    · obtain ⟨gx, ox, rfl⟩ := HD.out.addr (by omega)
      have hkx : k < xs.length := by rw [HX.out]; exact hlt
      have hxg := (Dg.ch hC' HD.out (fun a ha => ⟨HD.out.lt_size a ha, fun q => q⟩)).get k hlt
      have hts := dv_take_succ xs k hkx
      have hxb := HD.out.lt _ (List.getElem_mem hkx)
      obtain ⟨x, hx1⟩ : ∃ x, xs[k] = x := ⟨_, rfl⟩
      rw [hx1] at hxg hts hxb
      have HT := Lib.hid hts; clear hts hx1
      have hm := Nat.mod_lt (x * 2 ^ s) D_pos
      have r1 : bits .or .u64 (IntKind.u64.wrap ((x : Int) * 2 ^ s)) (c : Int) = ((x * 2 ^ s % D + c : Nat) : Int) := by
        rw [shl_mod, u64_or _ _ hm hcb, shl_low x s c (by omega) hc]
      have hsum : x * 2 ^ s % D + c < D := by
        rw [← shl_low x s c (by omega) hc]
        exact Nat.or_lt_two_pow (n := 64) hm hcb
      have r2 := shr_cast x (64 - s)
      have hc2 := part_lt x s (by omega) hxb
      have hst := shl_step D (D ^ k) (2 ^ s) x c _ _ (dv zs) (dv (xs.take k)) HV.out (by rw [Nat.add_comm, Nat.mul_comm]; exact shl_split x s (by omega))
      generalize x * 2 ^ s % D + c = d at *
      generalize x / 2 ^ (64 - s) = c' at *
      have HS := Lib.hid hst; clear hst hm
      have HSUM := Lib.hid hsum; clear hsum
      have HC2 := Lib.hid hc2; clear hc2
      go_wp2_with fail
      go_roundw
      case rel =>
        refine ⟨k + 1, c', zs ++ [d], by omega, HC2.out, by go_num, rfl, hz.append (Dok.cons HSUM.out Dok.nil), by rw [List.length_append, HZ.out]; rfl, ?_, ?_, hC'.setCell (.inl (Nat.le_refl _)) _⟩
        · rw [dv_snoc, HZ.out, HT.out, Nat.pow_succ]; exact HS.out
        · have := (hB'.set (0 + k) (U d)).cast (mid_set [] [] zs _ 0 d 0 k rfl HZ.out)
          rw [Nat.zero_add] at this
          rw [show n - k = (n - (k + 1)) + 1 from by omega, List.replicate_succ] at this
          exact this
      case measure => simp [intOf]; omega
    · obtain rfl : k = n := by omega
      have hxt : xs.take k = xs := List.take_of_length_le (by rw [HX.out]; exact Nat.le_refl _)
      have hv := HV.out
      rw [hxt] at hv
      have HV2 := Lib.hid hv; clear hv hxt
      go_wp2_with fail
      go_ret
      refine ⟨wo.heap.size, zs ++ [c], rfl, Nat.le_refl _, ?_, hz.append (Dok.cons hcb Dok.nil), by rw [List.length_append, HZ.out]; rfl, by rw [dv_snoc, HZ.out]; exact HV2.out, hC'.setCell (.inl (Nat.le_refl _)) _⟩
      have := (hB'.set (0 + k) (U c)).cast (mid_set [] [] zs _ 0 c 0 k rfl HZ.out)
      rw [Nat.zero_add] at this
      exact this.cast (by simp)
end Go.Proofs.YtcghnkdfhiancaaDoor
