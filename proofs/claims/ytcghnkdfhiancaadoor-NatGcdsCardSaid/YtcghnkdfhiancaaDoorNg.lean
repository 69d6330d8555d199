/- Contracts of package nat's products of digits by a word. -/
import Derived.Test.YtcghnkdfhiancaaDoorNf
namespace Go.Proofs.YtcghnkdfhiancaaDoor
open Go.RowKit
theorem mul_lt_sq (y f : Nat) (hy : y < D) (hf : f < D) : y * f ≤ (D - 1) * (D - 1) := Nat.mul_le_mul (by omega) (by omega)
theorem sq_D : (D - 1) * (D - 1) + 2 * D = D * D + 1 := by decide
theorem carry_lt (q A : Nat) (h : D * q ≤ A) (hA : A < D * D) : q < D := by
  rcases Nat.lt_or_ge q D with h1 | h1
  · exact h1
  · have := Nat.mul_le_mul_left D h1
    omega
/-- One digit of a sum with a product. -/
theorem mac (x y f c : Nat) (hx : x < D) (hy : y < D) (hf : f < D) (hc : c < D) :
    y * f / D + (y * f % D + c) / D + (x + (y * f % D + c) % D) / D < D ∧
    (x + (y * f % D + c) % D) % D + D * (y * f / D + (y * f % D + c) / D + (x + (y * f % D + c) % D) / D) = x + y * f + c := by
  have h1 := Nat.mod_add_div (y * f) D
  have h2 := Nat.mod_add_div (y * f % D + c) D
  have h3 := Nat.mod_add_div (x + (y * f % D + c) % D) D
  have h4 := mul_lt_sq y f hy hf
  have h5 := sq_D
  have e : (x + (y * f % D + c) % D) % D + D * (y * f / D + (y * f % D + c) / D + (x + (y * f % D + c) % D) / D) = x + y * f + c := by
    rw [Nat.mul_add, Nat.mul_add]; omega
  refine ⟨carry_lt _ (x + y * f + c) (by omega) (by omega), e⟩
theorem mac_step' (B P f x y c s q dz dx dy : Nat) (h : dz + P * c = dx + dy * f) (hs : s + B * q = x + y * f + c) : (dz + P * s) + P * B * q = (dx + P * x) + (dy + P * y) * f := by
  have : P * (s + B * q) = P * (x + y * f + c) := by rw [hs]
  grind
theorem mac_step (P f x y c s q dz dx dy : Nat) (h : dz + P * c = dx + dy * f) (hs : s + D * q = x + y * f + c) : (dz + P * s) + P * D * q = (dx + P * x) + (dy + P * y) * f :=
  mac_step' D P f x y c s q dz dx dy h hs
theorem mul64_is (y f hi lo : Nat) (w : World) (hy : y < D) (hf : f < D) (h1 : y * f / D = hi) (h2 : y * f % D = lo) :
    Calls Tryd.prog 51 #[U y, U f] w fun e w' => e = .returned (.tuple #[U hi, U lo]) ∧ w' = w := by
  subst h1 h2
  exact Tryd.bits_Mul64 y f hy hf w
theorem num_D {x : Nat} (h : x < D) : x ≤ 18446744073709551615 := by unfold D at h; omega
theorem addp_end (zs ys zs2 xs : List Nat) (n m c c' f : Nat) (hn : xs.length = n) (hm : m ≤ n) (hz : zs.length = m) (h1 : dv zs + D ^ m * c = dv (xs.take m) + dv ys * f) (h2 : dv zs2 + D ^ (n - m) * c' = dv (xs.drop m) + c) :
    dv (zs ++ zs2) + D ^ n * c' = dv xs + dv ys * f := by
  have h3 := dv_take_drop xs m (by omega)
  have hD : D ^ n = D ^ m * D ^ (n - m) := by rw [← Nat.pow_add]; congr 1; omega
  rw [dv_append, hz, h3, hD]
  generalize D ^ m = p at *
  generalize D ^ (n - m) = q at *
  have : p * (dv zs2 + q * c') = p * (dv (xs.drop m) + c) := by rw [h2]
  grind
set_option maxRecDepth 100000 in
set_option maxHeartbeats 800000 in
theorem addProduct_any (n m cap capy g o fa : Nat) (t : TypeId) (p : Option Addr) (pre post : List Value) (xs ys : List Nat) (w : World) (hx : Dok xs) (hn : xs.length = n) (hm : cap ≤ maxLen) (hnc : n ≤ cap) (hmn : m ≤ n) (hf : fa < D)
    (hB : Blk w g t (pre ++ xs.map U ++ post)) (ho : pre.length = o) (hd : Dg w p m ys) (hne : ∀ a, p = some a → a.block ≠ g) :
    Calls Tryd.prog 72 #[.slice (some ⟨g, o, none⟩) n cap, .slice p m capy, U fa] w fun e w' => ∃ c' zs, e = .returned (.tuple #[]) ∧ Dok zs ∧ zs.length = n ∧ dv zs + D ^ n * c' = dv xs + dv ys * fa ∧
      Blk w' g t (pre ++ zs.map U ++ post) ∧ Ch w.heap.size (· = g) w w' := by
  unfold maxLen at hm
  have HN := Lib.hid hn; clear hn
  have HO := Lib.hid ho; clear ho
  have HD := Lib.hid hd; clear hd
  have HY := Lib.hid HD.out.len
  go_enter Tryd.func72, Tryd.ntmps72
  go_wp2_with fail
  obtain ⟨wo, rfl⟩ : ∃ wo : World, wo = w := ⟨_, rfl⟩
  go_loopw [6, 14] (fun cv i wr => ∃ (k : Nat) (c' : Nat) (zs : List Nat), k ≤ m ∧ c' < D ∧ i = .int .i64 k ∧ cv = U c' ∧ Dok zs ∧ zs.length = k ∧ dv zs + D ^ k * c' = dv (xs.take k) + dv (ys.take k) * fa ∧ Blk wr g t (pre ++ (zs ++ xs.drop k).map U ++ post) ∧ Ch wo.heap.size (· = g) wo wr)
    (fun _ i _ => m - (intOf i).toNat)
  case atStart => exact ⟨0, 0, [], Nat.zero_le _, D_pos, rfl, rfl, Dok.nil, rfl, by simp [dv], by simpa using hB, Ch.refl _ _ _⟩
  case round =>
    obtain ⟨k, c', zs, hk, hc', rfl, rfl, hz, hzl, hzv, hB', hC'⟩ := hrel
    have HZ := Lib.hid hzl; clear hzl
    have HV := Lib.hid hzv; clear hzv
    by_cases hlt : k < m
    · obtain ⟨gy, oy, rfl⟩ := HD.out.addr (by omega)
      have hkl : k < xs.length := by rw [HN.out]; omega
      have hky : k < ys.length := by rw [HY.out]; exact hlt
      have hyg := (Dg.ch hC' HD.out (fun a ha => ⟨HD.out.lt_size a ha, hne a ha⟩)).get k hlt
      have hdr := List.drop_eq_getElem_cons hkl
      have hts := dv_take_succ xs k hkl
      have hty := dv_take_succ ys k hky
      have hyb := HD.out.lt _ (List.getElem_mem hky)
      obtain ⟨x, hx1⟩ : ∃ x, xs[k] = x := ⟨_, rfl⟩
      obtain ⟨y, hy1⟩ : ∃ y, ys[k] = y := ⟨_, rfl⟩
      have hxb : x < D := by rw [← hx1]; exact hx.get k hkl
      rw [hx1] at hdr hts
      rw [hy1] at hyg hty hyb
      rw [hdr] at hB'
      have HT := Lib.hid hts; clear hts
      have HTY := Lib.hid hty; clear hty
      clear hx1 hy1 hdr
      have cl : wr.cell? ⟨g, o + k, none⟩ = some (U x) := by rw [hB'.cell]; exact mid_get pre post zs _ x o k HO.out HZ.out
      have f := hB'.frozen (o + k)
      obtain ⟨hq, hst⟩ := mac x y fa c' hxb hyb hf hc'
      have hmul := fun w => mul64_is y fa _ _ w hyb hf rfl rfl
      have hlo := Nat.mod_lt (y * fa) D_pos
      generalize y * fa / D = hi at *
      generalize y * fa % D = lo at *
      have hadd1 := add64_run0 lo c'
      have hl2 := Nat.mod_lt (lo + c') D_pos
      generalize (lo + c') % D = lo2 at *
      generalize (lo + c') / D = m1 at *
      have hadd2 := add64_run0 x lo2
      have hs2 := Nat.mod_lt (x + lo2) D_pos
      generalize (x + lo2) % D = s at *
      generalize (x + lo2) / D = m2 at *
      have hst2 := mac_step (D ^ k) fa x y c' s (hi + m1 + m2) (dv zs) (dv (xs.take k)) (dv (ys.take k)) HV.out hst
      have HS := Lib.hid hst2; clear hst2 hst
      have hq2 := num_D hq
      have HM := Lib.hid hmul; clear hmul
      go_wp2_with fail
      refine (HM.out _).mono ?_
      rintro e w' ⟨rfl, rfl⟩
      go_wp2_with fail
      go_roundw
      case rel =>
        refine ⟨k + 1, hi + m1 + m2, zs ++ [s], by omega, hq, by go_num, by go_num, hz.append (Dok.cons hs2 Dok.nil), by rw [List.length_append, HZ.out]; rfl, ?_, ?_, hC'.setCell (.inr rfl) _⟩
        · rw [dv_snoc, HZ.out, HT.out, HTY.out, Nat.pow_succ]
          exact HS.out
        · exact (hB'.set (o + k) (U s)).cast (mid_set pre post zs _ x s o k HO.out HZ.out)
      case measure => simp [intOf]; omega
    · obtain rfl : k = m := by omega
      have hyt : ys.take k = ys := List.take_of_length_le (by rw [HY.out]; exact Nat.le_refl _)
      have hv2 := HV.out
      rw [hyt] at hv2
      have HV2 := Lib.hid hv2; clear hv2 hyt
      by_cases hmc : k < cap
      · go_wp2_with fail
        refine (addWord_any c' (n - k) (cap - k) g (o + k) t _ post _ _ (hx.drop k) (by rw [List.length_drop, HN.out]) (by unfold maxLen; omega) hc' (blk_split hB') (by rw [List.length_append, List.length_map, HO.out, HZ.out])).mono ?_
        rintro e w2 ⟨c2, zs2, rfl, hc2, hz2, hzl2, hzv2, hB2, hC2⟩
        have HZ2 := Lib.hid hzl2; clear hzl2
        have HV3 := Lib.hid hzv2; clear hzv2
        go_wp2_with fail
        go_end0
        exact ⟨c2, zs ++ zs2, rfl, hz.append hz2, by rw [List.length_append, HZ.out, HZ2.out]; omega, addp_end zs ys zs2 xs n k c' c2 fa HN.out hmn HZ.out HV2.out HV3.out, blk_join hB2, hC'.step hC2 (Nat.le_refl _) (fun _ _ q => q)⟩
      · obtain rfl : k = n := by omega
        obtain rfl : k = cap := by omega
        have hB3 : Blk wr g t (pre ++ zs.map U ++ post) := hB'.cast (by rw [List.drop_of_length_le (by rw [HN.out]; exact Nat.le_refl _), List.append_nil])
        have hxt : xs.take k = xs := List.take_of_length_le (by rw [HN.out]; exact Nat.le_refl _)
        have hv3 := HV2.out
        rw [hxt] at hv3
        have HV3 := Lib.hid hv3; clear hv3 hxt
        go_wp2_with fail
        refine (addWord_any c' 0 0 g o t pre _ [] _ Dok.nil rfl (by decide) hc' (blk_end hB3) HO.out).mono ?_
        rintro e w2 ⟨c2, zs2, rfl, hc2, hz2, hzl2, hzv2, hB2, hC2⟩
        have HZ2 := Lib.hid hzl2; clear hzl2
        have HV4 := Lib.hid hzv2; clear hzv2
        go_wp2_with fail
        go_end0
        refine ⟨c2, zs, rfl, hz, HZ.out, ?_, blk_end' hB2 HZ2.out, hC'.step hC2 (Nat.le_refl _) (fun _ _ q => q)⟩
        have h4 := HV4.out
        rw [List.eq_nil_of_length_eq_zero HZ2.out] at h4
        simp [dv] at h4
        rw [h4]; exact HV3.out
end Go.Proofs.YtcghnkdfhiancaaDoor
