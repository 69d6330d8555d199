/- Contracts of package nat's divisions by a word. -/
import Derived.Test.YtcghnkdfhiancaaDoorNl
namespace Go.Proofs.YtcghnkdfhiancaaDoor
open Go.RowKit
theorem div64_any (hi lo y : Nat) (w : World) (hhi : hi < y) (hlo : lo < D) (hy : y < D) :
    Calls Tryd.prog 95 #[U hi, U lo, U y] w fun e w' => e = .returned (.tuple #[U ((hi * D + lo) / y), U ((hi * D + lo) % y)]) ∧ ∃ k, w' = w.drewN k := by
  unfold D at hlo hy
  rcases Nat.eq_zero_or_pos hi with h0 | h0
  · subst h0
    have := div64_small lo y w hlo hy hhi
    rw [Nat.zero_mul, Nat.zero_add]
    exact this
  · obtain ⟨hs64, hY1, hY2⟩ := lz_facts y hy (by omega)
    have hU := un_eq hi lo (lz y) (by omega)
    have hun := un_lt hi lo y (lz y) _ _ hhi hlo hU
    have hp := part_lt lo (lz y) (by omega) hlo
    have hLD : lo * 2 ^ lz y % D < 18446744073709551616 := Nat.mod_lt _ D_pos
    have hhs : hi * 2 ^ lz y < 18446744073709551616 := Nat.lt_of_le_of_lt (Nat.le_add_right _ _) (Nat.lt_trans hun hY2)
    have hpq : lo / 2 ^ (64 - lz y) < 18446744073709551616 := Nat.lt_of_le_of_lt (Nat.div_le_self _ _) hlo
    have rU : bits .or .u64 (IntKind.u64.wrap ((hi : Int) * 2 ^ lz y)) ((lo : Int) / 2 ^ (64 - lz y)) = ((hi * 2 ^ lz y + lo / 2 ^ (64 - lz y) : Nat) : Int) := by
      rw [shl_cast hi (lz y) hhs, shr_cast, u64_or _ _ hhs hpq, or_mul _ _ _ hp]
    have rY := shl_cast y (lz y) hY2
    have rL := shl_mod lo (lz y)
    obtain ⟨Y, hYe⟩ : ∃ Y, y * 2 ^ lz y = Y := ⟨_, rfl⟩
    obtain ⟨un, hune⟩ : ∃ un, hi * 2 ^ lz y + lo / 2 ^ (64 - lz y) = un := ⟨_, rfl⟩
    obtain ⟨L, hLe⟩ : ∃ L, lo * 2 ^ lz y % D = L := ⟨_, rfl⟩
    rw [hYe] at hY1 hY2 rY hun
    rw [hune] at hU hun rU
    rw [hLe] at hU hLD rL
    obtain ⟨a, ha⟩ : ∃ a, Y / 4294967296 = a := ⟨_, rfl⟩
    obtain ⟨b, hb⟩ : ∃ b, Y % 4294967296 = b := ⟨_, rfl⟩
    obtain ⟨l1, hl1⟩ : ∃ l1, L / 4294967296 = l1 := ⟨_, rfl⟩
    obtain ⟨l0, hl0⟩ : ∃ l0, L % 4294967296 = l0 := ⟨_, rfl⟩
    have hLs : L = 4294967296 * l1 + l0 := by omega
    obtain ⟨Q1, R1, q1, r1, e1, m1, b1, le1, le1', d1, s1, t1, sp1, sg1, sb1⟩ := h_pack Y un l1 a b hY1 hY2 hun (by omega) ha hb
    obtain ⟨Q0, R0, q0, r0, e0, m0, b0, le0, le0', d0, s0, t0, sp0, sg0, sb0⟩ := h_pack Y R1 l0 a b hY1 hY2 m1 (by omega) ha hb
    obtain ⟨f1, f2⟩ := h_all 4294967296 D (hi * D + lo) y (lz y) Y un l1 l0 Q1 R1 Q0 R0 (by decide) hYe.symm (by omega) (by rw [← hLs]; exact hU) e1 e0 m0
    rw [← f1, ← f2]
    have rb := u64_mask32 Y hY2
    rw [hb] at rb
    have rl := u64_mask32 L hLD
    rw [hl0] at rl
    have rq1 := u64_div un a (by omega)
    rw [d1] at rq1
    have rq0 := u64_div R1 a (by omega)
    rw [d0] at rq0
    have := div64_core hi lo y (lz y) Y un L a b l1 l0 Q1 R1 q1 r1 Q0 R0 q0 r0 w hhi hlo hy h0 rfl hs64 rY rL rU hY1 hY2 hLD hun (by omega) rb (by omega) rl
      (by omega) (by omega) (by omega) (by omega) (by omega) rq1 s1 t1 le1' le1 b1 sp1 sg1 sb1 (wrap_rest un Q1 Y l1 R1 e1 (by omega)) rq0 s0 t0 le0' le0 b0 m1 sp0 sg0 sb0 (wrap_rest R1 Q0 Y l0 R0 e0 (by omega)) (R0 / 2 ^ lz y) (shr_cast R0 (lz y))
    exact this.mono fun e w' h => ⟨h.1, 0, by rw [h.2]; rfl⟩
theorem div64_is (hi lo y q r : Nat) (w : World) (hhi : hi < y) (hlo : lo < D) (hy : y < D) (hq : (hi * D + lo) / y = q) (hr : (hi * D + lo) % y = r) :
    Calls Tryd.prog 95 #[U hi, U lo, U y] w fun e w' => e = .returned (.tuple #[U q, U r]) ∧ Ch w.heap.size none1 w w' := by
  subst hq hr
  exact (div64_any hi lo y w hhi hlo hy).mono fun e w' h => ⟨h.1, by obtain ⟨_, k, rfl⟩ := h; exact (Ch.refl _ _ _).drewN k⟩
theorem div64_quiet (hi lo y q r : Nat) (w : World) (hhi : hi < y) (hlo : lo < D) (hy : y < D) (hq : (hi * D + lo) / y = q) (hr : (hi * D + lo) % y = r) :
    Calls Tryd.prog 95 #[U hi, U lo, U y] w fun e w' => e = .returned (.tuple #[U q, U r]) ∧ ∃ k, w' = w.drewN k := by
  subst hq hr
  exact div64_any hi lo y w hhi hlo hy
theorem q_lt (hi lo y : Nat) (hhi : hi < y) (hlo : lo < D) : (hi * D + lo) / y < D := by
  rw [Nat.div_lt_iff_lt_mul (by omega)]
  have := Nat.mul_le_mul_right D (show hi + 1 ≤ y from hhi)
  rw [Nat.add_mul, Nat.mul_comm y D] at this
  omega
theorem mid_get' (pre post : List Value) (xs zs : List Nat) (x o k : Nat) (ho : pre.length = o) (hk : k < xs.length) (hx : xs[k] = x) : (pre ++ (xs.take (k + 1) ++ zs).map U ++ post)[o + k]? = some (U x) := by
  rw [List.take_succ_eq_append_getElem hk, hx, List.append_assoc (xs.take k)]
  exact mid_get pre post (xs.take k) zs x o k ho (by rw [List.length_take]; omega)
theorem mid_set' (pre post : List Value) (xs zs : List Nat) (v o k : Nat) (ho : pre.length = o) (hk : k < xs.length) : (pre ++ (xs.take (k + 1) ++ zs).map U ++ post).set (o + k) (U v) = pre ++ (xs.take k ++ (v :: zs)).map U ++ post := by
  rw [List.take_succ_eq_append_getElem hk, List.append_assoc (xs.take k)]
  have := mid_set pre post (xs.take k) zs xs[k] v o k ho (by rw [List.length_take]; omega)
  rw [show [xs[k]] ++ zs = xs[k] :: zs from rfl, this]
  simp
theorem divw_step (B y dx dz r q r' x : Nat) (h : dx = y * dz + r) (hq : r * B + x = y * q + r') : x + B * dx = y * (q + B * dz) + r' := by
  subst h
  grind
set_option maxRecDepth 100000 in
set_option maxHeartbeats 1600000 in
theorem divideByWord_any (n cap y g o : Nat) (t : TypeId) (pre post : List Value) (xs : List Nat) (w : World) (hx : Dok xs) (hn : xs.length = n) (hm : n ≤ 1152921504606846975) (hy0 : 0 < y) (hy : y < D)
    (hB : Blk w g t (pre ++ xs.map U ++ post)) (ho : pre.length = o) :
    Calls Tryd.prog 76 #[.slice (some ⟨g, o, none⟩) n cap, U y] w fun e w' => ∃ zs, e = .returned (U (dv xs % y)) ∧ Dok zs ∧ zs.length = n ∧ dv zs = dv xs / y ∧
      Blk w' g t (pre ++ zs.map U ++ post) ∧ Ch w.heap.size (· = g) w w' := by
  have hlt := hB.lt
  have HN := Lib.hid hn; clear hn
  have HO := Lib.hid ho; clear ho
  go_enter Tryd.func76, Tryd.ntmps76
  go_wp2_with fail
  obtain ⟨wo, rfl⟩ : ∃ wo : World, wo = w := ⟨_, rfl⟩
  go_loopw [4, 5] (fun rv i wr => ∃ (k r : Nat) (zs : List Nat), k ≤ n ∧ r < y ∧ i = .int .i64 ((k : Int) - 1) ∧ rv = U r ∧ Dok zs ∧ zs.length = n - k ∧ dv (xs.drop k) = y * dv zs + r ∧ Blk wr g t (pre ++ (xs.take k ++ zs).map U ++ post) ∧ Ch wo.heap.size (· = g) wo wr)
    (fun _ i _ => (intOf i + 1).toNat)
  case atStart => exact ⟨n, 0, [], Nat.le_refl _, hy0, rfl, rfl, Dok.nil, by simp, by rw [List.drop_of_length_le (by rw [HN.out]; exact Nat.le_refl _)]; rfl, by rw [List.take_of_length_le (by rw [HN.out]; exact Nat.le_refl _), List.append_nil]; exact hB, Ch.refl _ _ _⟩
  case round =>
    clear hB
    obtain ⟨k, r, zs, hk, hr, rfl, rfl, hz, hzl, hzv, hB', hC'⟩ := hrel
    have HZ := Lib.hid hzl; clear hzl
    have HV := Lib.hid hzv; clear hzv
    rcases k with _ | k
    · have h0 := HV.out
      rw [List.drop_zero] at h0
      have e1 : dv xs % y = r := by rw [h0, Nat.mul_add_mod, Nat.mod_eq_of_lt hr]
      have e2 : dv zs = dv xs / y := by rw [h0, Nat.mul_add_div hy0, Nat.div_eq_of_lt hr, Nat.add_zero]
      have E1 := Lib.hid e1
      have E2 := Lib.hid e2
      clear e1 e2 h0
      go_wp2_with fail
      go_ret
      exact ⟨zs, ret_nat E1.out.symm, hz, by rw [HZ.out]; omega, E2.out, hB'.cast (by simp), hC'⟩
    · have hkl : k < xs.length := by rw [HN.out]; omega
      have hdr := List.drop_eq_getElem_cons hkl
      obtain ⟨x, hx1⟩ : ∃ x, xs[k] = x := ⟨_, rfl⟩
      have hxb : x < D := by rw [← hx1]; exact hx.get k hkl
      rw [hx1] at hdr
      have HDR := Lib.hid hdr; clear hdr
      have c1 := hB'.cell (o + k)
      rw [mid_get' pre post xs zs x o k HO.out hkl hx1] at c1
      have f1 := hB'.frozen (o + k)
      clear hx1
      have e1 : ((k : Int) + 1 - 1) = (k : Int) := by omega
      have hq := Nat.div_add_mod (r * D + x) y
      have hrl := Nat.mod_lt (r * D + x) hy0
      have hql := q_lt r x y hr hxb
      have hdiv := fun w => div64_is r x y _ _ w hr hxb hy rfl rfl
      generalize (r * D + x) / y = q at *
      generalize (r * D + x) % y = r2 at *
      have HQ := Lib.hid hq; clear hq
      have HDIV := Lib.hid hdiv; clear hdiv
      have HB := Lib.hid hB'
      go_wp2_with fail
      refine (HDIV.out _).mono ?_
      rintro e w2 ⟨rfl, hC2⟩
      have hlt2 := hB'.lt
      have hB2 := hC2.blk hB' hlt2 (fun q => q)
      have c2 := hB2.cell (o + k)
      have f2 := hB2.frozen (o + k)
      rw [HB.out.cell] at c1
      rw [c1] at c2
      clear c1 f1 hB' HB
      go_wp2_with fail
      go_roundw
      case rel =>
        refine ⟨k, r2, q :: zs, by omega, hrl, by go_num, rfl, Dok.cons hql hz, by rw [List.length_cons, HZ.out]; omega, ?_, (hB2.set (o + k) (U q)).cast (mid_set' pre post xs zs q o k HO.out hkl), (hC'.step0 hC2 (Nat.le_refl _)).setCell (.inr rfl) _⟩
        rw [HDR.out, dv_cons, dv_cons]
        exact divw_step D y _ _ r q r2 x HV.out HQ.out.symm
      case measure => simp [intOf]
end Go.Proofs.YtcghnkdfhiancaaDoor
