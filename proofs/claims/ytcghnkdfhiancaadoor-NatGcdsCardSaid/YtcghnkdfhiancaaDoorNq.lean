/- Contracts of package nat's shift to the right, and of one step of a division. -/
import Derived.Test.YtcghnkdfhiancaaDoorNo
import Derived.Lib.SliceRun
namespace Go.Proofs.YtcghnkdfhiancaaDoor
open Go.RowKit
set_option maxRecDepth 100000 in
set_option maxHeartbeats 1600000 in
theorem clone_any (g o n cap : Nat) (xs : List Nat) (w : World) (hd : Dg w (some ⟨g, o, none⟩) n xs) (hn0 : 0 < n) (hn : n ≤ 8796093022209) :
    Calls Tryd.prog 80 #[.slice (some ⟨g, o, none⟩) n cap] w fun e w' => ∃ v, e = .returned v ∧ w'.ownsRow w.heap.size 52 1 v n (xs.map U) ∧ Ch w.heap.size none1 w w' := by
  obtain ⟨i0, hi, hz0, hz1, hz2⟩ := info_parts Tryd.info52
  have HX := Lib.hid hd.len
  have hnil := fun w => Lib.run_eql_slice_nil (P := Tryd.prog) w 57 52 (some ⟨g, o, none⟩) n cap 0 0 Tryd.underlying57
  have hnews : ∀ j u, (xs.map U)[j]? = some u → (w.alloc (.cells #[] 52)).cell? ((⟨g, o, none⟩ : Addr).add j) = some u := fun j u hj => by
    rw [plain_add]
    have hjl : j < n := by
      rcases Nat.lt_or_ge j n with h | h
      · exact h
      · rw [List.getElem?_eq_none (by rw [List.length_map, HX.out]; exact h)] at hj; simp at hj
    have hc := (Dg.ch ((Ch.refl w.heap.size none1 w).alloc (Nat.le_refl _) (.cells #[] 52)) hd (fun a ha => ⟨hd.lt_size a ha, fun q => q⟩)).get j hjl
    rw [hc, ← hj, List.getElem?_map, List.getElem?_eq_getElem (by rw [HX.out]; exact hjl)]
    rfl
  have HNEWS := Lib.hid hnews; clear hnews hd
  go_enter Tryd.func80, Tryd.ntmps80
  go_wp2_with (at_builtin; refine wpList_append_own _ rfl _ _ 57 rfl w.heap.size 52 i0 (.int .u64 0) 1 8 Tryd.underlying57 hi hz0 hz1 hz2 rfl (by decide) _ 0 [] rfl (World.ownsRow_lit w #[] 0 (Nat.le_refl _) (by decide) rfl) ⟨g, o, none⟩ n cap (xs.map U) rfl (by rw [List.length_map, HX.out, Nat.mul_one]) HNEWS.out (by simp [one_int]) (by unfold maxLen; omega) (by omega) (by simp) ?_; intro v' w4 hown' hgrow _)
  have hC := ((Ch.refl w.heap.size none1 w).alloc (Nat.le_refl _) (.cells #[] 52)).step (Ch.of_grown_own hgrow) (Nat.le_refl _) (fun k hk q => absurd q (by omega))
  clear hgrow
  go_wp2_with fail
  go_ret
  exact ⟨v', rfl, by simpa using hown', hC⟩
/-- The estimate of a digit. -/
def est (h l v : Nat) : Nat := if v ≤ h then D - 1 else (h * D + l) / v
theorem est_lt (h l v : Nat) (hl : l < D) : est h l v < D := by
  unfold est
  split
  · have := D_pos; omega
  · exact q_lt h l v (by omega) hl
set_option maxRecDepth 100000 in
set_option maxHeartbeats 800000 in
theorem estimate_any (h l v : Nat) (w : World) (hl : l < D) (hv : v < D) :
    Calls Tryd.prog 104 #[U h, U l, U v] w fun e w' => e = .returned (U (est h l v)) ∧ ∃ k, w' = w.drewN k := by
  by_cases hc : v ≤ h
  · have he : est h l v = D - 1 := if_pos hc
    rw [he]
    go_enter Tryd.func104, Tryd.ntmps104
    go_wp2_with fail
    go_ret
    exact ⟨rfl, 0, rfl⟩
  · have he : est h l v = (h * D + l) / v := if_neg hc
    rw [he]
    have hd := fun w => div64_quiet h l v _ _ w (by omega) hl hv rfl rfl
    generalize (h * D + l) / v = q at *
    generalize (h * D + l) % v = r at *
    have HD := Lib.hid hd; clear hd he
    go_enter Tryd.func104, Tryd.ntmps104
    go_wp2_with fail
    refine (HD.out _).mono ?_
    rintro e w2 ⟨rfl, k, rfl⟩
    go_wp2_with fail
    go_ret
    exact ⟨rfl, k, rfl⟩
/-- An estimate is no less than the digit. -/
theorem est_ge (xs ys : List Nat) (m q : Nat) (hx : Dok xs) (_hy : Dok ys) (hxl : xs.length = m + 1) (hyl : ys.length = m) (hm : 0 < m) (hq : q < D) (h : q * dv ys ≤ dv xs) : q ≤ est (xs[m]'(by omega)) (xs[m - 1]'(by omega)) (ys[m - 1]'(by omega)) := by
  unfold est
  split
  · omega
  · rename_i hc
    rw [Nat.le_div_iff_mul_le (by omega)]
    have h1 := dv_take_succ xs m (by omega)
    have h2 := dv_take_succ xs (m - 1) (by omega)
    have h3 := dv_take_succ ys (m - 1) (by omega)
    have h4 := dv_lt (hx.take (m - 1))
    rw [List.length_take, Nat.min_eq_left (by omega)] at h4
    rw [show m - 1 + 1 = m from by omega] at h2 h3
    rw [List.take_of_length_le (by omega)] at h1 h3
    generalize xs[m]'(by omega) = a at *
    generalize xs[m - 1]'(by omega) = b at *
    generalize ys[m - 1]'(by omega) = c at *
    have hP : D ^ m = D ^ (m - 1) * D := by rw [← Nat.pow_succ]; congr 1; omega
    rw [hP] at h1
    rw [h2] at h1
    have hpos : 0 < D ^ (m - 1) := Nat.pow_pos D_pos
    generalize D ^ (m - 1) = P at *
    have h5 : P * (q * c) ≤ q * dv ys := by
      rw [h3, Nat.mul_add, Nat.mul_left_comm]; omega
    have h6 : dv xs < P * (a * D + b + 1) := by
      rw [h1, Nat.mul_add, Nat.mul_add, Nat.mul_one, Nat.mul_comm a D, ← Nat.mul_assoc]; omega
    have h7 : P * (q * c) < P * (a * D + b + 1) := by omega
    have h8 := Nat.lt_of_mul_lt_mul_left h7
    omega
theorem shl_low (x s c : Nat) (hs : s ≤ 64) (hc : c < 2 ^ s) : x * 2 ^ s % D ||| c = x * 2 ^ s % D + c := by
  have hD : D = 2 ^ (64 - s) * 2 ^ s := by rw [← Nat.pow_add, show 64 - s + s = 64 by omega]; rfl
  rw [hD, Nat.mul_mod_mul_right]
  exact or_mul _ _ _ hc
theorem shl_step (B P S x c m c' dz dx : Nat) (h : dz + P * c = dx * S) (hm : m + B * c' = x * S) : (dz + P * (m + c)) + P * B * c' = (dx + P * x) * S := by
  have : P * (m + B * c') = P * (x * S) := by rw [hm]
  grind
theorem pow_le64 (s : Nat) (hs : s ≤ 64) : 2 ^ s ≤ 18446744073709551616 := Nat.pow_le_pow_right (n := 2) (by omega) hs
set_option maxRecDepth 100000 in
set_option maxHeartbeats 800000 in
theorem shiftedLeft_any (p : Option Addr) (n cap s : Nat) (xs : List Nat) (w : World) (hd : Dg w p n xs) (hn : n ≤ 8796093022209) (hs : s < 64) :
    Calls Tryd.prog 96 #[.slice p n cap, U s] w fun e w' => ∃ g zs, e = .returned (.slice (some ⟨g, 0, none⟩) ((n + 1 : Nat)) ((n + 1 : Nat))) ∧ w.heap.size ≤ g ∧ Blk w' g 52 (zs.map U) ∧ Dok zs ∧ zs.length = n + 1 ∧ dv zs = dv xs * 2 ^ s ∧ Ch w.heap.size none1 w w' := by
  obtain ⟨i0, hi, hz0, hz1, hz2⟩ := info_parts Tryd.info52
  have HD := Lib.hid hd; clear hd
  have HX := Lib.hid HD.out.len
  have hnn : ((n : Int) + 1) = ((n + 1 : Nat) : Int) := by omega
  have HNN := Lib.hid hnn; clear hnn
  go_enter Tryd.func96, Tryd.ntmps96
  go_wp2_with (refine wpList_make_blk _ rfl _ _ 57 rfl 52 i0 .u64 0 Tryd.underlying57 hi hz0 hz1 .i64 .i64 _ _ (n + 1) rfl rfl HNN.out HNN.out (by rw [hz2]; omega) (by unfold maxLen; omega) ?_; intro w1 hB hC)
  obtain ⟨wo, rfl⟩ : ∃ wo : World, wo = w := ⟨_, rfl⟩
  go_loopw [6, 15] (fun cv i wr => ∃ (k c : Nat) (zs : List Nat), k ≤ n ∧ c < 2 ^ s ∧ i = .int .i64 k ∧ cv = U c ∧ Dok zs ∧ zs.length = k ∧ dv zs + D ^ k * c = dv (xs.take k) * 2 ^ s ∧ Blk wr wo.heap.size 52 ([] ++ (zs ++ 0 :: List.replicate (n - k) 0).map U ++ []) ∧ Ch wo.heap.size none1 wo wr)
    (fun _ i _ => n - (intOf i).toNat)
  case atStart => exact ⟨0, 0, [], Nat.zero_le _, Nat.two_pow_pos s, rfl, rfl, Dok.nil, rfl, by simp [dv], hB.cast (by simp [List.replicate_succ]), hC⟩
  case round =>
    clear hB hC
    obtain ⟨k, c, zs, hk, hc, rfl, rfl, hz, hzl, hzv, hB', hC'⟩ := hrel
    have HZ := Lib.hid hzl; clear hzl
    have HV := Lib.hid hzv; clear hzv
    have c1 := hB'.cell (0 + k)
    rw [mid_get [] [] zs _ 0 0 k rfl HZ.out, Nat.zero_add] at c1
    have f1 := hB'.frozen k
    have hcb := Nat.lt_of_lt_of_le hc (pow_le64 s (by omega))
    by_cases hlt : k < n
    · obtain ⟨gx, ox, rfl⟩ := HD.out.addr (by omega)
      have hkx : k < xs.length := by rw [HX.out]; exact hlt
      have hxg := (Dg.ch hC' HD.out (fun a ha => ⟨HD.out.lt_size a ha, fun q => q⟩)).get k hlt
      have hts := dv_take_succ xs k hkx
      have hxb := HD.out.lt _ (List.getElem_mem hkx)
      obtain ⟨x, hx1⟩ : ∃ x, xs[k] = x := ⟨_, rfl⟩
      rw [hx1] at hxg hts hxb
      have HT := Lib.hid hts; clear hts hx1
      have hm := Nat.mod_lt (x * 2 ^ s) D_pos
      have r1 : bits .or .u64 (IntKind.u64.wrap ((x : Int) * 2 ^ s)) (c : Int) = ((x * 2 ^ s % D + c : Nat) : Int) := by
        rw [shl_mod, u64_or _ _ hm hcb, shl_low x s c (by omega) hc]
      have hsum : x * 2 ^ s % D + c < D := by
        rw [← shl_low x s c (by omega) hc]
        exact Nat.or_lt_two_pow (n := 64) hm hcb
      have r2 := shr_cast x (64 - s)
      have hc2 := part_lt x s (by omega) hxb
      have hst := shl_step D (D ^ k) (2 ^ s) x c _ _ (dv zs) (dv (xs.take k)) HV.out (by rw [Nat.add_comm, Nat.mul_comm]; exact shl_split x s (by omega))
      generalize x * 2 ^ s % D + c = d at *
      generalize x / 2 ^ (64 - s) = c' at *
      have HS := Lib.hid hst; clear hst hm
      have HSUM := Lib.hid hsum; clear hsum
      have HC2 := Lib.hid hc2; clear hc2
      go_wp2_with fail
      go_roundw
      case rel =>
        refine ⟨k + 1, c', zs ++ [d], by omega, HC2.out, by go_num, rfl, hz.append (Dok.cons HSUM.out Dok.nil), by rw [List.length_append, HZ.out]; rfl, ?_, ?_, hC'.setCell (.inl (Nat.le_refl _)) _⟩
        · rw [dv_snoc, HZ.out, HT.out, Nat.pow_succ]; exact HS.out
        · have := (hB'.set (0 + k) (U d)).cast (mid_set [] [] zs _ 0 d 0 k rfl HZ.out)
          rw [Nat.zero_add] at this
          rw [show n - k = (n - (k + 1)) + 1 from by omega, List.replicate_succ] at this
          exact this
      case measure => simp [intOf]; omega
    · obtain rfl : k = n := by omega
      have hxt : xs.take k = xs := List.take_of_length_le (by rw [HX.out]; exact Nat.le_refl _)
      have hv := HV.out
      rw [hxt] at hv
      have HV2 := Lib.hid hv; clear hv hxt
      go_wp2_with fail
      go_ret
      refine ⟨wo.heap.size, zs ++ [c], rfl, Nat.le_refl _, ?_, hz.append (Dok.cons hcb Dok.nil), by rw [List.length_append, HZ.out]; rfl, by rw [dv_snoc, HZ.out]; exact HV2.out, hC'.setCell (.inl (Nat.le_refl _)) _⟩
      have := (hB'.set (0 + k) (U c)).cast (mid_set [] [] zs _ 0 c 0 k rfl HZ.out)
      rw [Nat.zero_add] at this
      exact this.cast (by simp)
end Go.Proofs.YtcghnkdfhiancaaDoor
namespace Go.Proofs.YtcghnkdfhiancaaDoor
open Go.RowKit
/-- One digit of a shift to the right. -/
theorem shr_digit (x r s dz : Nat) (hs : s ≤ 64) (hx : x < D) (hr : r < 2 ^ s) :
    (x / 2 ^ s ||| r * 2 ^ (64 - s)) = (x + D * r) / 2 ^ s ∧ (x + D * r) / 2 ^ s < D ∧ (x + D * (2 ^ s * dz + r)) / 2 ^ s = (x + D * r) / 2 ^ s + D * dz ∧ (x + D * (2 ^ s * dz + r)) % 2 ^ s = x % 2 ^ s ∧ x * 2 ^ (64 - s) % D = x % 2 ^ s * 2 ^ (64 - s) := by
  have hD : D = 2 ^ s * 2 ^ (64 - s) := by rw [← Nat.pow_add, show s + (64 - s) = 64 by omega]; rfl
  have hS := Nat.two_pow_pos s
  have h1 : x / 2 ^ s < 2 ^ (64 - s) := by
    rw [Nat.div_lt_iff_lt_mul hS, Nat.mul_comm, ← hD]; exact hx
  have h2 : (x + D * r) / 2 ^ s = x / 2 ^ s + r * 2 ^ (64 - s) := by
    rw [hD, Nat.mul_assoc, Nat.add_mul_div_left _ _ hS, Nat.mul_comm (2 ^ (64 - s)) r]
  refine ⟨?_, ?_, ?_, ?_, ?_⟩
  · rw [h2, Nat.or_comm, or_mul _ _ _ h1, Nat.add_comm]
  · rw [Nat.div_lt_iff_lt_mul hS]
    have := Nat.mul_le_mul_left D (show r + 1 ≤ 2 ^ s from hr)
    rw [Nat.mul_add] at this
    omega
  · rw [Nat.mul_add, ← Nat.add_assoc, show x + D * (2 ^ s * dz) + D * r = x + D * r + 2 ^ s * (D * dz) from by rw [Nat.mul_left_comm]; omega, Nat.add_mul_div_left _ _ hS]
  · rw [hD, Nat.mul_assoc, Nat.add_mul_mod_self_left]
  · rw [hD, Nat.mul_mod_mul_right]
set_option maxRecDepth 100000 in
set_option maxHeartbeats 1600000 in
theorem shiftRight_any (n cap s g o : Nat) (t : TypeId) (pre post : List Value) (xs : List Nat) (w : World) (hx : Dok xs) (hn : xs.length = n) (hm : n ≤ 1152921504606846975) (hs : s < 64)
    (hB : Blk w g t (pre ++ xs.map U ++ post)) (ho : pre.length = o) :
    Calls Tryd.prog 98 #[.slice (some ⟨g, o, none⟩) n cap, U s] w fun e w' => ∃ zs, e = .returned (.tuple #[]) ∧ Dok zs ∧ zs.length = n ∧ dv zs = dv xs / 2 ^ s ∧
      Blk w' g t (pre ++ zs.map U ++ post) ∧ Ch w.heap.size (· = g) w w' := by
  have HN := Lib.hid hn; clear hn
  have HO := Lib.hid ho; clear ho
  go_enter Tryd.func98, Tryd.ntmps98
  go_wp2_with fail
  obtain ⟨wo, rfl⟩ : ∃ wo : World, wo = w := ⟨_, rfl⟩
  go_loopw [4, 5] (fun cv i wr => ∃ (k r : Nat) (zs : List Nat), k ≤ n ∧ r < 2 ^ s ∧ i = .int .i64 ((k : Int) - 1) ∧ cv = U (r * 2 ^ (64 - s)) ∧ Dok zs ∧ zs.length = n - k ∧ dv (xs.drop k) = 2 ^ s * dv zs + r ∧ Blk wr g t (pre ++ (xs.take k ++ zs).map U ++ post) ∧ Ch wo.heap.size (· = g) wo wr)
    (fun _ i _ => (intOf i + 1).toNat)
  case atStart => exact ⟨n, 0, [], Nat.le_refl _, Nat.two_pow_pos s, rfl, by simp, Dok.nil, by simp, by rw [List.drop_of_length_le (by rw [HN.out]; exact Nat.le_refl _)]; rfl, by rw [List.take_of_length_le (by rw [HN.out]; exact Nat.le_refl _), List.append_nil]; exact hB, Ch.refl _ _ _⟩
  case round =>
    clear hB
    obtain ⟨k, r, zs, hk, hr, rfl, rfl, hz, hzl, hzv, hB', hC'⟩ := hrel
    have HZ := Lib.hid hzl; clear hzl
    have HV := Lib.hid hzv; clear hzv
    rcases k with _ | k
    · have h0 := HV.out
      rw [List.drop_zero] at h0
      have e2 : dv zs = dv xs / 2 ^ s := by rw [h0, Nat.mul_add_div (Nat.two_pow_pos s), Nat.div_eq_of_lt hr, Nat.add_zero]
      have E2 := Lib.hid e2
      clear e2 h0
      go_wp2_with fail
      go_end0
      exact ⟨zs, rfl, hz, by rw [HZ.out]; omega, E2.out, hB'.cast (by simp), hC'⟩
    · have hkl : k < xs.length := by rw [HN.out]; omega
      have hdr := List.drop_eq_getElem_cons hkl
      obtain ⟨x, hx1⟩ : ∃ x, xs[k] = x := ⟨_, rfl⟩
      have hxb : x < D := by rw [← hx1]; exact hx.get k hkl
      rw [hx1] at hdr
      have HDR := Lib.hid hdr; clear hdr
      have c1 := hB'.cell (o + k)
      rw [mid_get' pre post xs zs x o k HO.out hkl hx1] at c1
      have f1 := hB'.frozen (o + k)
      clear hx1
      have e1 : ((k : Int) + 1 - 1) = (k : Int) := by omega
      obtain ⟨g1, g2, g3, g4, g5⟩ := shr_digit x r s (dv zs) (by omega) hxb hr
      have hcb : r * 2 ^ (64 - s) < 18446744073709551616 := by
        have := Nat.mul_lt_mul_of_pos_right hr (Nat.two_pow_pos (64 - s))
        rw [← Nat.pow_add, show s + (64 - s) = 64 by omega] at this
        exact this
      have hxs : x / 2 ^ s < 18446744073709551616 := Nat.lt_of_le_of_lt (Nat.div_le_self _ _) hxb
      have r1 : bits .or .u64 ((x : Int) / 2 ^ s) ((r * 2 ^ (64 - s) : Nat) : Int) = (((x + D * r) / 2 ^ s : Nat) : Int) := by
        rw [shr_cast, u64_or _ _ hxs hcb, g1]
      have r2 := shl_mod x (64 - s)
      rw [g5] at r2
      have hrn := Nat.mod_lt x (Nat.two_pow_pos s)
      generalize r * 2 ^ (64 - s) = cin at *
      generalize hnew : (x + D * r) / 2 ^ s = d at *
      have G3 := Lib.hid g3
      have G4 := Lib.hid g4
      have G2 := Lib.hid g2
      have HRN := Lib.hid hrn
      clear g1 g2 g3 g4 g5 hnew hrn hxs hr
      generalize hco : x % 2 ^ s * 2 ^ (64 - s) = cout at *
      have HCO := Lib.hid hco; clear hco
      go_wp2_with fail
      go_roundw
      case rel =>
        refine ⟨k, x % 2 ^ s, d :: zs, by omega, HRN.out, by go_num, by rw [HCO.out], Dok.cons G2.out hz, by rw [List.length_cons, HZ.out]; omega, ?_, (hB'.set (o + k) (U d)).cast (mid_set' pre post xs zs d o k HO.out hkl), hC'.setCell (.inr rfl) _⟩
        rw [HDR.out, dv_cons, dv_cons, HV.out, ← G3.out, ← G4.out]
        exact (Nat.div_add_mod _ _).symm
      case measure => simp [intOf]
theorem step_bound (V N _m q : Nat) (hV : 0 < V) (h : N < D * V) (hq : q = N / V) : q < D := by
  subst hq
  rw [Nat.div_lt_iff_lt_mul hV]; exact h
theorem step_zero (V N e z : Nat) (hV : 0 < V) (hge : N / V ≤ e) (hz : z + V * e = N) : e = N / V ∧ z = N % V := by
  have h1 : e ≤ N / V := by rw [Nat.le_div_iff_mul_le hV, Nat.mul_comm]; omega
  have h2 : e = N / V := by omega
  refine ⟨h2, ?_⟩
  have := Nat.div_add_mod N V
  rw [← h2] at this
  omega
theorem step_gt (V N d z B : Nat) (hV : 0 < V) (hz : z + V * d = N + B) (hzb : z < B) : N / V < d := by
  rw [Nat.div_lt_iff_lt_mul hV, Nat.mul_comm]; omega
theorem step_back (V N d z z2 c B : Nat) (hV : 0 < V) (hd : N / V < d) (hz : z + V * d = N + B) (hzb : z < B) (_hz2 : z2 < B) (hVB : V ≤ B) (h : z2 + B * c = z + V) :
    (c = 0 ∧ z2 + V * (d - 1) = N + B) ∨ (c ≠ 0 ∧ d - 1 = N / V ∧ z2 = N % V) := by
  have hd0 : 0 < d := Nat.lt_of_le_of_lt (Nat.zero_le _) hd
  obtain ⟨e, rfl⟩ : ∃ e, d = e + 1 := ⟨d - 1, by omega⟩
  rw [Nat.mul_add, Nat.mul_one] at hz
  rw [Nat.add_sub_cancel]
  rcases Nat.eq_zero_or_pos c with h0 | h0
  · subst h0
    left
    rw [Nat.mul_zero] at h
    exact ⟨rfl, by omega⟩
  · right
    have hc : c = 1 := by
      rcases Nat.lt_or_ge c 2 with q | q
      · omega
      · have := Nat.mul_le_mul_left B q
        omega
    subst hc
    have := step_zero V N e z2 hV (by omega) (by omega)
    exact ⟨by omega, this.1, this.2⟩
set_option maxRecDepth 100000 in
set_option maxHeartbeats 1600000 in
theorem divideStep_any (m cap capy g o gy oy : Nat) (t : TypeId) (pre post : List Value) (xs ys : List Nat) (w : World) (hx : Dok xs) (hn : xs.length = m + 1) (hm : cap ≤ 1152921504606846975) (hnc : m + 1 ≤ cap) (hm0 : 0 < m)
    (hB : Blk w g t (pre ++ xs.map U ++ post)) (ho : pre.length = o) (hd : Dg w (some ⟨gy, oy, none⟩) m ys) (hne : gy ≠ g) (hV : 0 < dv ys) (hlt : dv xs < D * dv ys) :
    Calls Tryd.prog 97 #[.slice (some ⟨g, o, none⟩) ((m + 1 : Nat)) cap, .slice (some ⟨gy, oy, none⟩) m capy] w fun e w' => ∃ zs, e = .returned (U (dv xs / dv ys)) ∧ Dok zs ∧ zs.length = m + 1 ∧ dv zs = dv xs % dv ys ∧
      Blk w' g t (pre ++ zs.map U ++ post) ∧ Ch w.heap.size (· = g) w w' := by
  have hyl := hd.len
  have hnl : ∀ a : Addr, (some ⟨gy, oy, none⟩ : Option Addr) = some a → a.block ≠ g := fun a ha => by
    simp only [Option.some.injEq] at ha; subst ha; exact hne
  have hsz := hd.lt_size
  have hqD := step_bound (dv ys) (dv xs) m _ hV hlt rfl
  have hge := est_ge xs ys m (dv xs / dv ys) hx hd.lt hn hyl hm0 hqD (Nat.div_mul_le_self _ _)
  have c1 : w.cell? ⟨g, o + m, none⟩ = some (U (xs[m]'(by omega))) := by
    have := hB.cell (o + m)
    rwa [show xs = xs.take (m + 1) ++ [] from by rw [List.append_nil, List.take_of_length_le (by omega)], mid_get' pre post xs [] _ o m ho (by omega) rfl] at this
  have c2 : w.cell? ⟨g, o + (m - 1), none⟩ = some (U (xs[m - 1]'(by omega))) := by
    have := hB.cell (o + (m - 1))
    rwa [show xs = xs.take (m - 1 + 1) ++ xs.drop (m - 1 + 1) from (List.take_append_drop _ _).symm, mid_get' pre post xs _ _ o (m - 1) ho (by omega) rfl] at this
  have c3 := hd.get (m - 1) (by omega)
  have hx1 : xs[m]'(by omega) < D := hx.get m (by omega)
  have hx2 : xs[m - 1]'(by omega) < D := hx.get (m - 1) (by omega)
  have hy1 : ys[m - 1]'(by omega) < D := hd.lt _ (List.getElem_mem _)
  have hes := fun w => estimate_any (xs[m]'(by omega)) (xs[m - 1]'(by omega)) (ys[m - 1]'(by omega)) w hx2 hy1
  have hel := est_lt (xs[m]'(by omega)) (xs[m - 1]'(by omega)) (ys[m - 1]'(by omega)) hx2
  generalize xs[m]'(by omega) = xa at *
  generalize xs[m - 1]'(by omega) = xb at *
  generalize ys[m - 1]'(by omega) = ya at *
  generalize est xa xb ya = e0 at *
  have hi2 : 0 ≤ (m : Int) - 1 := by omega
  have HES := Lib.hid hes; clear hes
  have hen := num_D hel
  have HEL := Lib.hid hel; clear hel hlt hqD
  have HN := Lib.hid hn; clear hn
  have HO := Lib.hid ho; clear ho
  have HD := Lib.hid hd; clear hd
  have HYL := Lib.hid hyl; clear hyl
  have HSZ := Lib.hid hsz; clear hsz
  have HNL := Lib.hid hnl; clear hnl
  go_enter Tryd.func97, Tryd.ntmps97
  go_wp2_with fail
  go_step3
  go_wp2_with fail
  go_quiet ((go_at_call 104; exact Calls.quiet_of (HES.out _)))
  have hB0 := hB.drewN nq
  have hD0 := Dg.ch ((Ch.refl w.heap.size none1 w).drewN nq) HD.out (fun a ha => ⟨HSZ.out a ha, fun q => q⟩)
  have hC0 := (Ch.refl w.heap.size (· = g) w).drewN nq
  have HD0 := Lib.hid hD0; clear hD0 c1 c2 c3
  go_wp2_with fail
  refine (subtractProduct_any m cap capy g o e0 t _ pre post xs ys _ hx HN.out (by unfold maxLen; omega) hnc HEL.out hB0 HO.out HD0.out HNL.out).mono ?_
  rintro e w2 ⟨b, zs, rfl, hb, hz, hzl, hzv, hB2, hC2⟩
  have HZ := Lib.hid hzl; clear hzl
  have hC := hC0.step hC2 (Nat.le_refl _) (fun _ _ q => q)
  have hzlt := dv_lt hz
  rw [HZ.out] at hzlt
  have hylt := dv_lt HD.out.lt
  rw [HYL.out] at hylt
  have hBm : D ^ m ≤ D ^ (m + 1) := Nat.pow_le_pow_right D_pos (by omega)
  by_cases hb0 : b = 0
  · subst hb0
    rw [Nat.mul_zero, Nat.add_zero] at hzv
    have hfin := step_zero (dv ys) (dv xs) e0 (dv zs) hV hge hzv
    have HF := Lib.hid hfin; clear hfin hzv hge
    go_wp2_with fail
    rw [Exit.noGoto_ret]
    go_ret
    exact ⟨zs, ret_nat HF.out.1, hz, HZ.out, HF.out.2, hB2, hC⟩
  · obtain rfl : b = 1 := by omega
    rw [Nat.mul_one] at hzv
    obtain ⟨BB, hBB⟩ : ∃ BB, D ^ (m + 1) = BB := ⟨_, rfl⟩
    rw [hBB] at hzlt hBm hzv
    have HV := Lib.hid hzv; clear hzv
    have HBB := Lib.hid hBB; clear hBB
    have HZLT := Lib.hid hzlt; clear hzlt
    obtain ⟨w1, rfl⟩ : ∃ w1 : World, w1 = w2 := ⟨_, rfl⟩
    have hC1 := hC
    clear hge
    go_wp2_with fail
    go_step3
    go_wp2_with fail
    go_loopw [6] (fun dg wr => ∃ (d : Nat) (zs : List Nat), dg = U d ∧ d ≤ e0 ∧ Dok zs ∧ zs.length = m + 1 ∧ dv zs + dv ys * d = dv xs + BB ∧ Blk wr g t (pre ++ zs.map U ++ post) ∧ Ch w.heap.size (· = g) w wr)
      (fun dg _ => (intOf dg).toNat)
    case atStart => exact ⟨e0, zs, rfl, Nat.le_refl _, hz, HZ.out, HV.out, hB2, hC1⟩
    case round =>
      clear hB2 hC1 hC hz HZ HV HZLT
      obtain ⟨d, zs, rfl, hdD, hz, hzl, hzv, hB', hC'⟩ := hrel
      have hzlt := dv_lt hz
      rw [hzl, HBB.out] at hzlt
      have hgt := step_gt (dv ys) (dv xs) d (dv zs) BB hV hzv hzlt
      have hd1 : 1 ≤ d := Nat.lt_of_le_of_lt (Nat.zero_le _) hgt
      have e1 : ((d : Int) - 1) = ((d - 1 : Nat) : Int) := by omega
      have E1 := Lib.hid e1; clear e1
      have HZ := Lib.hid hzl; clear hzl
      have HV := Lib.hid hzv; clear hzv
      have HGT := Lib.hid hgt; clear hgt
      have HZLT := Lib.hid hzlt; clear hzlt
      have hDy := Dg.ch hC' HD.out (fun a ha => ⟨HSZ.out a ha, HNL.out a ha⟩)
      have HDY := Lib.hid hDy; clear hDy
      go_wp2_with fail
      refine (add_any (m + 1) m cap capy g o t _ pre post zs ys _ hz HZ.out (by unfold maxLen; omega) hnc (by omega) hB' HO.out HDY.out HNL.out).mono ?_
      rintro e w2 ⟨c, zs2, rfl, hcD, hz2, hzl2, hzv2, hB2, hC2⟩
      have hzlt2 := dv_lt hz2
      rw [hzl2, HBB.out] at hzlt2
      rw [HBB.out] at hzv2
      have hsb := step_back (dv ys) (dv xs) d (dv zs) (dv zs2) c BB hV HGT.out HV.out HZLT.out hzlt2 (by omega) hzv2
      have HSB := Lib.hid hsb; clear hsb hzlt2 hzv2
      have HZ2 := Lib.hid hzl2; clear hzl2
      have hC3 := hC'.step hC2 (Nat.le_refl _) (fun _ _ q => q)
      by_cases hc0 : c = 0
      · subst hc0
        go_wp2_with fail
        go_roundw
        case rel =>
          refine ⟨d - 1, zs2, by rw [E1.out], by omega, hz2, HZ2.out, ?_, hB2, hC3⟩
          rcases HSB.out with q | q
          · exact q.2
          · exact absurd rfl q.1
        case measure => simp [intOf]; omega
      · have hbb := ne_bool hc0
        have hf : d - 1 = dv xs / dv ys ∧ dv zs2 = dv xs % dv ys := by
          rcases HSB.out with q | q
          · exact absurd q.1 hc0
          · exact q.2
        have HF := Lib.hid hf; clear hf
        go_wp2_with fail
        rw [Exit.noGoto_ret]
        go_ret
        refine ⟨zs2, ?_, hz2, HZ2.out, HF.out.2, hB2, hC3⟩
        rw [← HF.out.1]
        exact ret_int E1.out
end Go.Proofs.YtcghnkdfhiancaaDoor
