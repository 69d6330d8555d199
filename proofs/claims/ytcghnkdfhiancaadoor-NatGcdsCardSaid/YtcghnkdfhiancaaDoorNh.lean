/- Contracts of package nat's subtractions of digits. -/
import Derived.Test.YtcghnkdfhiancaaDoorNg
namespace Go.Proofs.YtcghnkdfhiancaaDoor
open Go.RowKit
theorem sub64_run0 (x y : Nat) (w : World) :
    (callFunc 67 #[U x, U y, .int .u64 0]).run Tryd.prog w = .ok (.value (.tuple #[U ((x + D - y) % D), U (if x < y then 1 else 0)])) w :=
  sub64_run x y 0 (by omega) w
theorem sub64_runz (x c : Nat) (hc : c ≤ 1) (w : World) :
    (callFunc 67 #[U x, .int .u64 0, U c]).run Tryd.prog w = .ok (.value (.tuple #[U ((x + D - 0 - c) % D), U (if x < 0 + c then 1 else 0)])) w :=
  sub64_run x 0 c hc w
theorem sub_one (x y c : Nat) (hx : x < D) (hy : y < D) (hc : c ≤ 1) : (x + D - y - c) % D + y + c = x + D * (if x < y + c then 1 else 0) := by
  unfold D at *
  split <;> omega
theorem sub_bit (p : Prop) [Decidable p] : (if p then 1 else 0 : Nat) ≤ 1 := by split <;> omega
theorem mbc (x y f c : Nat) (hx : x < D) (hy : y < D) (hf : f < D) (hc : c < D) :
    y * f / D + (y * f % D + c) / D + (if x < (y * f % D + c) % D then 1 else 0) < D ∧
    (x + D - (y * f % D + c) % D) % D + y * f + c = x + D * (y * f / D + (y * f % D + c) / D + (if x < (y * f % D + c) % D then 1 else 0)) := by
  have h1 := Nat.mod_add_div (y * f) D
  have h2 := Nat.mod_add_div (y * f % D + c) D
  have h3 := sub_one x ((y * f % D + c) % D) 0 hx (Nat.mod_lt _ D_pos) (by omega)
  have h4 := mul_lt_sq y f hy hf
  have h5 := sq_D
  have h6 := Nat.mod_lt (x + D - (y * f % D + c) % D) D_pos
  simp only [Nat.add_zero, Nat.sub_zero] at h3
  have e : (x + D - (y * f % D + c) % D) % D + y * f + c = x + D * (y * f / D + (y * f % D + c) / D + (if x < (y * f % D + c) % D then 1 else 0)) := by
    rw [Nat.mul_add, Nat.mul_add]; omega
  refine ⟨carry_lt _ ((x + D - (y * f % D + c) % D) % D + y * f + c) (by omega) (by omega), e⟩
theorem mbc_step (B P f x y c s q dz dx dy : Nat) (h : dz + dy * f = dx + P * c) (hs : s + y * f + c = x + B * q) : (dz + P * s) + (dy + P * y) * f = (dx + P * x) + P * B * q := by
  have : P * (s + y * f + c) = P * (x + B * q) := by rw [hs]
  grind
theorem sub_step (B P x y c s q dz dx dy : Nat) (h : dz + dy = dx + P * c) (hs : s + y + c = x + B * q) : (dz + P * s) + (dy + P * y) = (dx + P * x) + P * B * q := by
  have : P * (s + y + c) = P * (x + B * q) := by rw [hs]
  grind
theorem sub_top (B P dz s dy dx x c q P' : Nat) (hP : P' = P * B) (h : dz + dy = dx + P * c) (hs : s + c = x + B * q) : dz + P * s + dy = dx + P * x + P' * q := by
  have : P * (s + c) = P * (x + B * q) := by rw [hs]
  subst hP
  grind
set_option maxRecDepth 100000 in
set_option maxHeartbeats 800000 in
theorem subtractProduct_any (m cap capy g o fa : Nat) (t : TypeId) (p : Option Addr) (pre post : List Value) (xs ys : List Nat) (w : World) (hx : Dok xs) (hn : xs.length = m + 1) (hm : cap ≤ maxLen) (hnc : m + 1 ≤ cap) (hf : fa < D)
    (hB : Blk w g t (pre ++ xs.map U ++ post)) (ho : pre.length = o) (hd : Dg w p m ys) (hne : ∀ a, p = some a → a.block ≠ g) :
    Calls Tryd.prog 105 #[.slice (some ⟨g, o, none⟩) ((m + 1 : Nat)) cap, .slice p m capy, U fa] w fun e w' => ∃ b zs, e = .returned (U b) ∧ b ≤ 1 ∧ Dok zs ∧ zs.length = m + 1 ∧ dv zs + dv ys * fa = dv xs + D ^ (m + 1) * b ∧
      Blk w' g t (pre ++ zs.map U ++ post) ∧ Ch w.heap.size (· = g) w w' := by
  unfold maxLen at hm
  have HN := Lib.hid hn; clear hn
  have HO := Lib.hid ho; clear ho
  have HD := Lib.hid hd; clear hd
  have HY := Lib.hid HD.out.len
  go_enter Tryd.func105, Tryd.ntmps105
  go_wp2_with fail
  obtain ⟨wo, rfl⟩ : ∃ wo : World, wo = w := ⟨_, rfl⟩
  go_loopw [6, 14] (fun cv i wr => ∃ (k : Nat) (c' : Nat) (zs : List Nat), k ≤ m ∧ c' < D ∧ i = .int .i64 k ∧ cv = U c' ∧ Dok zs ∧ zs.length = k ∧ dv zs + dv (ys.take k) * fa = dv (xs.take k) + D ^ k * c' ∧ Blk wr g t (pre ++ (zs ++ xs.drop k).map U ++ post) ∧ Ch wo.heap.size (· = g) wo wr)
    (fun _ i _ => m - (intOf i).toNat)
  case atStart => exact ⟨0, 0, [], Nat.zero_le _, D_pos, rfl, rfl, Dok.nil, rfl, by simp [dv], by simpa using hB, Ch.refl _ _ _⟩
  case round =>
    obtain ⟨k, c', zs, hk, hc', rfl, rfl, hz, hzl, hzv, hB', hC'⟩ := hrel
    have HZ := Lib.hid hzl; clear hzl
    have HV := Lib.hid hzv; clear hzv
    have hkl : k < xs.length := by rw [HN.out]; omega
    have hdr := List.drop_eq_getElem_cons hkl
    have hts := dv_take_succ xs k hkl
    obtain ⟨x, hx1⟩ : ∃ x, xs[k] = x := ⟨_, rfl⟩
    have hxb : x < D := by rw [← hx1]; exact hx.get k hkl
    rw [hx1] at hdr hts
    rw [hdr] at hB'
    have HT := Lib.hid hts; clear hts
    have HDR := Lib.hid hdr; clear hdr
    clear hx1
    have cl : wr.cell? ⟨g, o + k, none⟩ = some (U x) := by rw [hB'.cell]; exact mid_get pre post zs _ x o k HO.out HZ.out
    have f := hB'.frozen (o + k)
    by_cases hlt : k < m
    · obtain ⟨gy, oy, rfl⟩ := HD.out.addr (by omega)
      have hky : k < ys.length := by rw [HY.out]; exact hlt
      have hyg := (Dg.ch hC' HD.out (fun a ha => ⟨HD.out.lt_size a ha, hne a ha⟩)).get k hlt
      have hty := dv_take_succ ys k hky
      have hyb := HD.out.lt _ (List.getElem_mem hky)
      obtain ⟨y, hy1⟩ : ∃ y, ys[k] = y := ⟨_, rfl⟩
      rw [hy1] at hyg hty hyb
      have HTY := Lib.hid hty; clear hty
      clear hy1
      obtain ⟨hq, hst⟩ := mbc x y fa c' hxb hyb hf hc'
      have hmul := fun w => mul64_is y fa _ _ w hyb hf rfl rfl
      have hlo := Nat.mod_lt (y * fa) D_pos
      generalize y * fa / D = hi at *
      generalize y * fa % D = lo at *
      have hadd1 := add64_run0 lo c'
      have hl2 := Nat.mod_lt (lo + c') D_pos
      generalize (lo + c') % D = lo2 at *
      generalize (lo + c') / D = m1 at *
      have hadd2 := sub64_run0 x lo2
      have hs2 := Nat.mod_lt (x + D - lo2) D_pos
      generalize (x + D - lo2) % D = s at *
      generalize (if x < lo2 then 1 else 0) = m2 at *
      have hst2 := mbc_step D (D ^ k) fa x y c' s (hi + m1 + m2) (dv zs) (dv (xs.take k)) (dv (ys.take k)) HV.out hst
      have HS := Lib.hid hst2; clear hst2 hst
      have hq2 := num_D hq
      have HM := Lib.hid hmul; clear hmul
      go_wp2_with fail
      refine (HM.out _).mono ?_
      rintro e w' ⟨rfl, rfl⟩
      go_wp2_with fail
      go_roundw
      case rel =>
        refine ⟨k + 1, hi + m1 + m2, zs ++ [s], by omega, hq, by go_num, by go_num, hz.append (Dok.cons hs2 Dok.nil), by rw [List.length_append, HZ.out]; rfl, ?_, ?_, hC'.setCell (.inr rfl) _⟩
        · rw [dv_snoc, HZ.out, HT.out, HTY.out, Nat.pow_succ]
          exact HS.out
        · exact (hB'.set (o + k) (U s)).cast (mid_set pre post zs _ x s o k HO.out HZ.out)
      case measure => simp [intOf]; omega
    · obtain rfl : k = m := by omega
      have hyt : ys.take k = ys := List.take_of_length_le (by rw [HY.out]; exact Nat.le_refl _)
      have hxt : xs.take (k + 1) = xs := List.take_of_length_le (by rw [HN.out]; exact Nat.le_refl _)
      have hv2 := HV.out
      have ht2 := HT.out
      rw [hyt] at hv2
      rw [hxt] at ht2
      have hst := sub_one x c' 0 hxb hc' (by omega)
      simp only [Nat.add_zero, Nat.sub_zero] at hst
      have hb := sub_bit (x < c')
      have hadd2 := sub64_run0 x c'
      have hs2 := Nat.mod_lt (x + D - c') D_pos
      generalize (x + D - c') % D = s at *
      generalize (if x < c' then 1 else 0) = q at *
      have hfin : dv (zs ++ [s]) + dv ys * fa = dv xs + D ^ (k + 1) * q := by
        rw [dv_snoc, HZ.out, ht2]
        exact sub_top D (D ^ k) (dv zs) s (dv ys * fa) _ x c' q (D ^ (k + 1)) (Nat.pow_succ D k) hv2 hst
      have HF := Lib.hid hfin; clear hfin hst hv2 ht2 hxt hyt
      go_wp2_with fail
      go_ret
      refine ⟨q, zs ++ [s], rfl, hb, hz.append (Dok.cons hs2 Dok.nil), by rw [List.length_append, HZ.out]; rfl, HF.out, ?_, hC'.setCell (.inr rfl) _⟩
      refine (hB'.set (o + k) (U s)).cast ?_
      rw [mid_set pre post zs _ x s o k HO.out HZ.out, List.drop_of_length_le (by rw [HN.out]; exact Nat.le_refl _), List.append_nil]
end Go.Proofs.YtcghnkdfhiancaaDoor
