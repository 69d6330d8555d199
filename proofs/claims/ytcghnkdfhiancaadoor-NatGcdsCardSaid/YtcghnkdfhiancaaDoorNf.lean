/- Contracts of package nat's additions of digits. -/
import Derived.Test.YtcghnkdfhiancaaDoorNe
namespace Go.Proofs.YtcghnkdfhiancaaDoor
open Go.RowKit
theorem add_end (zs ys zs2 xs : List Nat) (n m c c' : Nat) (hn : xs.length = n) (hm : m ≤ n) (hz : zs.length = m) (h1 : dv zs + D ^ m * c = dv (xs.take m) + dv ys) (h2 : dv zs2 + D ^ (n - m) * c' = dv (xs.drop m) + c) :
    dv (zs ++ zs2) + D ^ n * c' = dv xs + dv ys := by
  have h3 := dv_take_drop xs m (by omega)
  have hD : D ^ n = D ^ m * D ^ (n - m) := by rw [← Nat.pow_add]; congr 1; omega
  rw [dv_append, hz, h3, hD]
  generalize D ^ m = p at *
  generalize D ^ (n - m) = q at *
  have : p * (dv zs2 + q * c') = p * (dv (xs.drop m) + c) := by rw [h2]
  grind
theorem blk_split {w : World} {g : Nat} {t : TypeId} {pre post : List Value} {zs ys : List Nat} (h : Blk w g t (pre ++ (zs ++ ys).map U ++ post)) : Blk w g t ((pre ++ zs.map U) ++ ys.map U ++ post) := h.cast (by simp)
theorem blk_join {w : World} {g : Nat} {t : TypeId} {pre post : List Value} {zs ys : List Nat} (h : Blk w g t ((pre ++ zs.map U) ++ ys.map U ++ post)) : Blk w g t (pre ++ (zs ++ ys).map U ++ post) := h.cast (by simp)
theorem blk_end {w : World} {g : Nat} {t : TypeId} {pre post : List Value} {zs : List Nat} (h : Blk w g t (pre ++ zs.map U ++ post)) : Blk w g t (pre ++ ([] : List Nat).map U ++ (zs.map U ++ post)) := h.cast (by simp)
theorem blk_end' {w : World} {g : Nat} {t : TypeId} {pre post : List Value} {zs ys : List Nat} (h : Blk w g t (pre ++ ys.map U ++ (zs.map U ++ post))) (hy : ys.length = 0) : Blk w g t (pre ++ zs.map U ++ post) := by
  have : ys = [] := List.eq_nil_of_length_eq_zero hy
  subst this
  exact h.cast (by simp)
set_option maxRecDepth 100000 in
set_option maxHeartbeats 400000 in
theorem add_any (n m cap capy g o : Nat) (t : TypeId) (p : Option Addr) (pre post : List Value) (xs ys : List Nat) (w : World) (hx : Dok xs) (hn : xs.length = n) (hm : cap ≤ maxLen) (hnc : n ≤ cap) (hmn : m ≤ n)
    (hB : Blk w g t (pre ++ xs.map U ++ post)) (ho : pre.length = o) (hd : Dg w p m ys) (hne : ∀ a, p = some a → a.block ≠ g) :
    Calls Tryd.prog 46 #[.slice (some ⟨g, o, none⟩) n cap, .slice p m capy] w fun e w' => ∃ c' zs, e = .returned (U c') ∧ c' < D ∧ Dok zs ∧ zs.length = n ∧ dv zs + D ^ n * c' = dv xs + dv ys ∧
      Blk w' g t (pre ++ zs.map U ++ post) ∧ Ch w.heap.size (· = g) w w' := by
  unfold maxLen at hm
  have HN := Lib.hid hn; clear hn
  have HO := Lib.hid ho; clear ho
  have HD := Lib.hid hd; clear hd
  have HY := Lib.hid HD.out.len
  go_enter Tryd.func46, Tryd.ntmps46
  go_wp2_with fail
  obtain ⟨wo, rfl⟩ : ∃ wo : World, wo = w := ⟨_, rfl⟩
  go_loopw [4, 9] (fun cv i wr => ∃ (k : Nat) (c' : Nat) (zs : List Nat), k ≤ m ∧ c' ≤ 1 ∧ i = .int .i64 k ∧ cv = U c' ∧ Dok zs ∧ zs.length = k ∧ dv zs + D ^ k * c' = dv (xs.take k) + dv (ys.take k) ∧ Blk wr g t (pre ++ (zs ++ xs.drop k).map U ++ post) ∧ Ch wo.heap.size (· = g) wo wr)
    (fun _ i _ => m - (intOf i).toNat)
  case atStart => exact ⟨0, 0, [], Nat.zero_le _, by omega, rfl, rfl, Dok.nil, rfl, by simp [dv], by simpa using hB, Ch.refl _ _ _⟩
  case round =>
    obtain ⟨k, c', zs, hk, hc', rfl, rfl, hz, hzl, hzv, hB', hC'⟩ := hrel
    have HZ := Lib.hid hzl; clear hzl
    have HV := Lib.hid hzv; clear hzv
    by_cases hlt : k < m
    · obtain ⟨gy, oy, rfl⟩ := HD.out.addr (by omega)
      have hkl : k < xs.length := by rw [HN.out]; omega
      have hky : k < ys.length := by rw [HY.out]; exact hlt
      have hyg := (Dg.ch hC' HD.out (fun a ha => ⟨HD.out.lt_size a ha, hne a ha⟩)).get k hlt
      have hdr := List.drop_eq_getElem_cons hkl
      have hts := dv_take_succ xs k hkl
      have hty := dv_take_succ ys k hky
      have hyb := HD.out.lt _ (List.getElem_mem hky)
      obtain ⟨x, hx1⟩ : ∃ x, xs[k] = x := ⟨_, rfl⟩
      obtain ⟨y, hy1⟩ : ∃ y, ys[k] = y := ⟨_, rfl⟩
      have hxb : x < D := by rw [← hx1]; exact hx.get k hkl
      rw [hx1] at hdr hts
      rw [hy1] at hyg hty hyb
      rw [hdr] at hB'
      have HT := Lib.hid hts; clear hts
      have HTY := Lib.hid hty; clear hty
      clear hx1 hy1 hdr
      have cl : wr.cell? ⟨g, o + k, none⟩ = some (U x) := by rw [hB'.cell]; exact mid_get pre post zs _ x o k HO.out HZ.out
      have f := hB'.frozen (o + k)
      have hadd := add64_run x y c' hc'
      have hst := add_step (D ^ k) x y c' (dv zs) (dv (xs.take k)) (dv (ys.take k)) HV.out
      have hsm := Nat.mod_lt (x + y + c') D_pos
      have hq : (x + y + c') / D ≤ 1 := by
        have : (x + y + c') < 2 * D := by unfold D at *; omega
        have := Nat.div_lt_of_lt_mul (m := x + y + c') (n := D) (k := 2) (by omega)
        omega
      generalize (x + y + c') % D = s at *
      generalize (x + y + c') / D = q at *
      have HS := Lib.hid hst; clear hst
      go_wp2_with fail
      go_roundw
      case rel =>
        refine ⟨k + 1, q, zs ++ [s], by omega, hq, by go_num, rfl, hz.append (Dok.cons hsm Dok.nil), by rw [List.length_append, HZ.out]; rfl, ?_, ?_, hC'.setCell (.inr rfl) _⟩
        · rw [dv_snoc, HZ.out, HT.out, HTY.out, Nat.pow_succ]
          exact HS.out
        · exact (hB'.set (o + k) (U s)).cast (mid_set pre post zs _ x s o k HO.out HZ.out)
      case measure => simp [intOf]; omega
    · obtain rfl : k = m := by omega
      have hyt : ys.take k = ys := List.take_of_length_le (by rw [HY.out]; exact Nat.le_refl _)
      have hv2 := HV.out
      rw [hyt] at hv2
      have HV2 := Lib.hid hv2; clear hv2 hyt
      by_cases hmc : k < cap
      · go_wp2_with fail
        refine (addWord_any c' (n - k) (cap - k) g (o + k) t _ post _ _ (hx.drop k) (by rw [List.length_drop, HN.out]) (by unfold maxLen; omega) (by unfold D; omega) (blk_split hB') (by rw [List.length_append, List.length_map, HO.out, HZ.out])).mono ?_
        rintro e w2 ⟨c2, zs2, rfl, hc2, hz2, hzl2, hzv2, hB2, hC2⟩
        have HZ2 := Lib.hid hzl2; clear hzl2
        have HV3 := Lib.hid hzv2; clear hzv2
        go_wp2_with fail
        go_ret
        exact ⟨c2, zs ++ zs2, rfl, hc2, hz.append hz2, by rw [List.length_append, HZ.out, HZ2.out]; omega, add_end zs ys zs2 xs n k c' c2 HN.out hmn HZ.out HV2.out HV3.out, blk_join hB2, hC'.step hC2 (Nat.le_refl _) (fun _ _ q => q)⟩
      · obtain rfl : k = n := by omega
        obtain rfl : k = cap := by omega
        have hB3 : Blk wr g t (pre ++ zs.map U ++ post) := hB'.cast (by rw [List.drop_of_length_le (by rw [HN.out]; exact Nat.le_refl _), List.append_nil])
        have hxt : xs.take k = xs := List.take_of_length_le (by rw [HN.out]; exact Nat.le_refl _)
        have hv3 := HV2.out
        rw [hxt] at hv3
        have HV3 := Lib.hid hv3; clear hv3 hxt
        go_wp2_with fail
        refine (addWord_any c' 0 0 g o t pre _ [] _ Dok.nil rfl (by decide) (by unfold D; omega) (blk_end hB3) HO.out).mono ?_
        rintro e w2 ⟨c2, zs2, rfl, hc2, hz2, hzl2, hzv2, hB2, hC2⟩
        have HZ2 := Lib.hid hzl2; clear hzl2
        have HV4 := Lib.hid hzv2; clear hzv2
        go_wp2_with fail
        go_ret
        refine ⟨c2, zs, rfl, hc2, hz, HZ.out, ?_, blk_end' hB2 HZ2.out, hC'.step hC2 (Nat.le_refl _) (fun _ _ q => q)⟩
        have h4 := HV4.out
        rw [List.eq_nil_of_length_eq_zero HZ2.out] at h4
        simp [dv] at h4
        rw [h4]; exact HV3.out
end Go.Proofs.YtcghnkdfhiancaaDoor
