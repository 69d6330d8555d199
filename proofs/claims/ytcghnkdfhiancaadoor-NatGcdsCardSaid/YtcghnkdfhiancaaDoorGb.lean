/- Contracts of package nat's difference and leading. -/
import Derived.Test.YtcghnkdfhiancaaDoorNt
namespace Go.Proofs.YtcghnkdfhiancaaDoor
open Go.RowKit
/-- The state of Lehmer's steps: leading bits v, w; multiples a b (first), c e (second). -/
structure Lst (V W : Nat) (v w a b c e : Nat) (s : Bool) : Prop where
  top : e * v + b * w = V
  low : c * v + a * w = W
  det : if s then b * c = a * e + 1 else a * e = b * c + 1
  ord : w ≤ v
theorem Lst.start (V W : Nat) (h : W ≤ V) : Lst V W V W 1 0 0 1 false :=
  ⟨by omega, by omega, by simp, h⟩
theorem Lst.step {V W v w a b c e : Nat} {s : Bool} (h : Lst V W v w a b c e s) (hw : 0 < w) : Lst V W w (v % w) c e (a + v / w * c) (b + v / w * e) (!s) := by
  have hv := Nat.div_add_mod v w
  have hr := Nat.mod_lt v hw
  obtain ⟨h1, h2, h3, h4⟩ := h
  generalize v / w = q at *
  generalize v % w = r at *
  refine ⟨?_, ?_, ?_, by omega⟩
  · subst hv; grind
  · subst hv; grind
  · cases s
    · simp at h3 ⊢; grind
    · simp at h3 ⊢; grind
theorem gcd_same {U Z X Y a b c e : Nat} (h1 : e * U + b * Z = X) (h2 : c * U + a * Z = Y) (h3 : U + b * Y = a * X ∨ U + a * X = b * Y) (h4 : Z + c * X = e * Y ∨ Z + e * Y = c * X) : Nat.gcd U Z = Nat.gcd X Y := by
  apply Nat.dvd_antisymm
  · apply Nat.dvd_gcd
    · rw [← h1]
      exact Nat.dvd_add (Nat.dvd_mul_left_of_dvd (Nat.gcd_dvd_left _ _) _) (Nat.dvd_mul_left_of_dvd (Nat.gcd_dvd_right _ _) _)
    · rw [← h2]
      exact Nat.dvd_add (Nat.dvd_mul_left_of_dvd (Nat.gcd_dvd_left _ _) _) (Nat.dvd_mul_left_of_dvd (Nat.gcd_dvd_right _ _) _)
  · have hX : ∀ k, Nat.gcd X Y ∣ k * X := fun k => Nat.dvd_mul_left_of_dvd (Nat.gcd_dvd_left _ _) _
    have hY : ∀ k, Nat.gcd X Y ∣ k * Y := fun k => Nat.dvd_mul_left_of_dvd (Nat.gcd_dvd_right _ _) _
    apply Nat.dvd_gcd
    · rcases h3 with h | h
      · exact (Nat.dvd_add_left (hY b)).1 (h ▸ hX a)
      · exact (Nat.dvd_add_left (hX a)).1 (h ▸ hY b)
    · rcases h4 with h | h
      · exact (Nat.dvd_add_left (hX c)).1 (h ▸ hY e)
      · exact (Nat.dvd_add_left (hY e)).1 (h ▸ hX c)
theorem Lst.real {V W v w a b c e : Nat} {s : Bool} (h : Lst V W v w a b c e s) (hab : a ≤ b) (hce : c ≤ e) (hw : e ≤ w) (hv : b + e + w ≤ v) (hc : 1 ≤ c)
    {P X Y x y : Nat} (hX : X = V * P + x) (hY : Y = W * P + y) (hx : x < P) (hy : y < P) :
    ∃ U Z : Nat, Z < U ∧ U ≤ Y ∧ Nat.gcd U Z = Nat.gcd X Y ∧ (if s then U + a * X = b * Y ∧ Z + e * Y = c * X else U + b * Y = a * X ∧ Z + c * X = e * Y) := by
  obtain ⟨h1, h2, h3, h4⟩ := h
  have k1 : ∀ m n z, m ≤ n → z ≤ P → m * z ≤ n * P := fun m n z p q => Nat.mul_le_mul p q
  cases s
  · have h3 : a * e = b * c + 1 := by simpa using h3
    have p1 : b * y ≤ v * P := k1 _ _ _ (by omega) (by omega)
    have p2 : c * x ≤ w * P := k1 _ _ _ (by omega) (by omega)
    obtain ⟨U, hU⟩ : ∃ U, U + b * y = v * P + a * x := ⟨v * P + a * x - b * y, by omega⟩
    obtain ⟨Z, hZ⟩ : ∃ Z, Z + c * x = w * P + e * y := ⟨w * P + e * y - c * x, by omega⟩
    have p3 : (b + e) * y < (b + e) * P := Nat.mul_lt_mul_of_pos_left hy (by omega)
    have p4 : (b + e + w) * P ≤ v * P := Nat.mul_le_mul_right _ hv
    have hlt : Z < U := by
      rw [Nat.add_mul] at p3 p4
      rw [Nat.add_mul] at p3 p4
      omega
    have e1 : U + b * Y = a * X := by subst hX hY h1 h2; clear p1 p2 p3 p4 hlt hx hy k1; grind
    have e2 : Z + c * X = e * Y := by subst hX hY h1 h2; clear p1 p2 p3 p4 hlt hx hy k1; grind
    have e3 : e * U + b * Z = X := by clear p1 p2 p3 p4 hlt hx hy k1 hU hZ h1 h2; grind
    have e4 : c * U + a * Z = Y := by clear p1 p2 p3 p4 hlt hx hy k1 hU hZ h1 h2; grind
    refine ⟨U, Z, hlt, ?_, gcd_same e3 e4 (.inl e1) (.inl e2), by simpa using ⟨e1, e2⟩⟩
    have := Nat.mul_le_mul_right U hc
    omega
  · have h3 : b * c = a * e + 1 := by simpa using h3
    have p1 : a * x ≤ v * P := k1 _ _ _ (by omega) (by omega)
    have p2 : e * y ≤ w * P := k1 _ _ _ (by omega) (by omega)
    obtain ⟨U, hU⟩ : ∃ U, U + a * x = v * P + b * y := ⟨v * P + b * y - a * x, by omega⟩
    obtain ⟨Z, hZ⟩ : ∃ Z, Z + e * y = w * P + c * x := ⟨w * P + c * x - e * y, by omega⟩
    have p3 : (a + c) * x < (a + c) * P := Nat.mul_lt_mul_of_pos_left hx (by omega)
    have p5 : (a + c) * P ≤ (b + e) * P := Nat.mul_le_mul_right _ (by omega)
    have p4 : (b + e + w) * P ≤ v * P := Nat.mul_le_mul_right _ hv
    have hlt : Z < U := by
      rw [Nat.add_mul] at p3 p4 p5
      rw [Nat.add_mul] at p3 p4 p5
      omega
    have e1 : U + a * X = b * Y := by subst hX hY h1 h2; clear p1 p2 p3 p4 p5 hlt hx hy k1; grind
    have e2 : Z + e * Y = c * X := by subst hX hY h1 h2; clear p1 p2 p3 p4 p5 hlt hx hy k1; grind
    have e3 : e * U + b * Z = X := by clear p1 p2 p3 p4 p5 hlt hx hy k1 hU hZ h1 h2; grind
    have e4 : c * U + a * Z = Y := by clear p1 p2 p3 p4 p5 hlt hx hy k1 hU hZ h1 h2; grind
    refine ⟨U, Z, hlt, ?_, gcd_same e3 e4 (.inr e1) (.inr e2), by simpa using ⟨e1, e2⟩⟩
    have := Nat.mul_le_mul_right U hc
    omega
/-- What the loop's conditions say: sums below the base, no wrap. -/
theorem Lst.bound {V W v w a b c e : Nat} {s : Bool} (h : Lst V W v w a b c e s) (hw : 0 < w) : b + v / w * e ≤ V ∧ a + v / w * c ≤ W ∧ v / w * e ≤ V ∧ v / w * c ≤ W := by
  obtain ⟨h1, h2, _, _⟩ := h
  have hq : v / w * w ≤ v := Nat.div_mul_le_self v w
  generalize v / w = q at *
  have k1 : e * (q * w) ≤ e * v := Nat.mul_le_mul_left _ hq
  have k2 : c * (q * w) ≤ c * v := Nat.mul_le_mul_left _ hq
  have m1 : (b + q * e) * 1 ≤ (b + q * e) * w := Nat.mul_le_mul_left _ hw
  have m2 : (a + q * c) * 1 ≤ (a + q * c) * w := Nat.mul_le_mul_left _ hw
  have e1 : (b + q * e) * w = b * w + e * (q * w) := by grind
  have e2 : (a + q * c) * w = a * w + c * (q * w) := by grind
  omega
theorem Lst.small {V W v w a b c e r : Nat} {s : Bool} (h : Lst V W v w a b c e s) (hV : V < 18446744073709551616) (hr : r < w) (hn : b + v / w * e ≤ r) : b + v / w * e < 4294967296 ∧ e < 4294967296 := by
  have hw : 0 < w := by omega
  obtain ⟨h1, h2, _, h4⟩ := h
  have hq : v / w * w ≤ v := Nat.div_mul_le_self v w
  have hq1 : 1 ≤ v / w := (Nat.one_le_div_iff hw).2 h4
  generalize v / w = q at *
  have k1 : e * (q * w) ≤ e * v := Nat.mul_le_mul_left _ hq
  have e1 : (b + q * e) * w = b * w + e * (q * w) := by grind
  have k2 : (b + q * e) * (b + q * e) ≤ (b + q * e) * w := Nat.mul_le_mul_left _ (by omega)
  have k3 : 1 * e ≤ q * e := Nat.mul_le_mul_right _ hq1
  have k5 : e ≤ b + q * e := by omega
  generalize b + q * e = n at *
  have k4 : n < 4294967296 := by
    rcases Nat.lt_or_ge n 4294967296 with g | g
    · exact g
    · have := Nat.mul_le_mul g g
      omega
  omega

theorem lead_div (B lo P p t s r : Nat) (hB : B = s * r) (hP : 0 < P) (hr : 0 < r) (hlo : lo < P) :
    (lo + P * (p + B * t)) / (P * r) = t * s + p / r ∧ ∃ x, x < P * r ∧ lo + P * (p + B * t) = (t * s + p / r) * (P * r) + x := by
  have e1 : (lo + P * (p + B * t)) / (P * r) = t * s + p / r := by
    rw [← Nat.div_div_eq_div_mul, Nat.add_mul_div_left _ _ hP, Nat.div_eq_of_lt hlo, Nat.zero_add, hB, show p + s * r * t = p + r * (t * s) from by grind, Nat.add_mul_div_left _ _ hr, Nat.add_comm]
  refine ⟨e1, (lo + P * (p + B * t)) % (P * r), Nat.mod_lt _ (Nat.mul_pos hP hr), ?_⟩
  rw [← e1]
  exact (Nat.div_add_mod' _ _).symm

/-- The first 64 bits of a number of at least two digits, shifted so that its last digit's top bit is bit 63, and those of another one that is not greater. -/
theorem lead_bits (xs : List Nat) (n s t p : Nat) (hn : xs.length = n + 2) (hx : Dok xs) (hs : s ≤ 64) (ht : xs[n + 1]'(by omega) = t) (hp : xs[n]'(by omega) = p) (hts : t * 2 ^ s < D) :
    ∃ x, x < D ^ n * 2 ^ (64 - s) ∧ dv xs = (t * 2 ^ s + p / 2 ^ (64 - s)) * (D ^ n * 2 ^ (64 - s)) + x ∧ t * 2 ^ s + p / 2 ^ (64 - s) < D ∧ dv xs / (D ^ n * 2 ^ (64 - s)) = t * 2 ^ s + p / 2 ^ (64 - s) := by
  have hD : D = 2 ^ s * 2 ^ (64 - s) := by rw [← Nat.pow_add, show s + (64 - s) = 64 by omega]; rfl
  have h1 := dv_take_succ xs (n + 1) (by omega)
  have h2 := dv_take_succ xs n (by omega)
  have h3 : xs.take (n + 1 + 1) = xs := List.take_of_length_le (by omega)
  rw [h3, ht, h2, hp] at h1
  have hlo := dv_lt (hx.take n)
  rw [List.length_take, Nat.min_eq_left (by omega)] at hlo
  have e : dv xs = dv (xs.take n) + D ^ n * (p + D * t) := by rw [h1, Nat.pow_succ]; grind
  obtain ⟨e1, x, hxl, hxe⟩ := lead_div D (dv (xs.take n)) (D ^ n) p t (2 ^ s) (2 ^ (64 - s)) hD (Nat.pow_pos D_pos) (Nat.two_pow_pos _) hlo
  rw [← e] at e1 hxe
  refine ⟨x, hxl, hxe, ?_, e1⟩
  have hpb : p < D := by rw [← hp]; exact hx.get n (by omega)
  have hq : p / 2 ^ (64 - s) < 2 ^ s := (Nat.div_lt_iff_lt_mul (Nat.two_pow_pos _)).2 (by rw [← hD]; exact hpb)
  have hm : (t + 1) * 2 ^ s ≤ D := by
    have : t < 2 ^ (64 - s) := by
      rw [hD, Nat.mul_comm (2 ^ s)] at hts
      exact Nat.lt_of_mul_lt_mul_right hts
    have := Nat.mul_le_mul_right (2 ^ s) (show t + 1 ≤ 2 ^ (64 - s) from this)
    rw [hD, Nat.mul_comm (2 ^ s)]
    exact this
  rw [Nat.add_mul, Nat.one_mul] at hm
  omega
end Go.Proofs.YtcghnkdfhiancaaDoor
namespace Go.Proofs.YtcghnkdfhiancaaDoor
open Go.RowKit
theorem no_over (B z c v : Nat) (h : z + B * c = v) (hv : v < B) : z = v := by
  rcases c with _ | c
  · rw [Nat.mul_zero] at h; exact h
  · rw [Nat.mul_add, Nat.mul_one] at h; omega
theorem no_under (B z y v b : Nat) (h : z + y = v + B * b) (hz : z < B) (hle : y ≤ v) : z = v - y := by
  rcases b with _ | b
  · rw [Nat.mul_zero] at h; omega
  · rw [Nat.mul_add, Nat.mul_one] at h; omega
set_option maxRecDepth 100000 in
set_option maxHeartbeats 1600000 in
theorem difference_any (n capx capy a b : Nat) (p q : Option Addr) (xs ys : List Nat) (w : World) (hx : Dg w p n xs) (hy : Dg w q n ys) (hn : n ≤ 8796093022208) (ha : a < D) (hb : b < D) (hle : dv ys * b ≤ dv xs * a) :
    Calls Tryd.prog 103 #[.slice p n capx, .slice q n capy, U a, U b] w fun e w' => ∃ v, e = .returned v ∧ OwnD w' w.heap.size v (dv xs * a - dv ys * b) ∧ Ch w.heap.size none1 w w' := by
  obtain ⟨i0, hi, hz0, hz1, hz2⟩ := info_parts Tryd.info52
  have hX0 := dv_lt hx.lt
  rw [hx.len] at hX0
  have hXa : dv xs * a < D ^ (n + 1) := by
    rw [Nat.pow_succ]
    exact Nat.lt_of_le_of_lt (Nat.mul_le_mul_right _ (Nat.le_of_lt hX0)) (Nat.mul_lt_mul_of_pos_left ha (Nat.pow_pos D_pos))
  have HX := Lib.hid hx; clear hx
  have HY := Lib.hid hy; clear hy
  have HXA := Lib.hid hXa; clear hXa hX0
  have HLE := Lib.hid hle; clear hle
  have hnn : ((n : Int) + 1) = ((n + 1 : Nat) : Int) := by omega
  have HNN := Lib.hid hnn; clear hnn
  go_enter Tryd.func103, Tryd.ntmps103
  go_wp2_with (refine wpList_make_blk _ rfl _ _ 57 rfl 52 i0 .u64 0 Tryd.underlying57 hi hz0 hz1 .i64 .i64 _ _ (n + 1) rfl rfl HNN.out HNN.out (by rw [hz2]; omega) (by unfold maxLen; omega) ?_; intro w1 hB hC)
  have hB1 : Blk w1 w.heap.size 52 ([] ++ (List.replicate (n + 1) 0).map U ++ []) := hB.cast (by simp [List.map_replicate])
  refine (addProduct_any (n + 1) n (n + 1) capx w.heap.size 0 a 52 p [] [] (List.replicate (n + 1) 0) xs w1 (Dok.zeros _) (by simp) (by unfold maxLen; omega) (Nat.le_refl _) (Nat.le_succ _) ha hB1 rfl (Dg.ch hC HX.out (fun a ha => ⟨HX.out.lt_size a ha, fun q => q⟩)) (fun a ha e => by have := HX.out.lt_size a ha; omega)).mono ?_
  rintro e w2 ⟨c', zs, rfl, hz, hzl, hzv, hB2, hC2⟩
  have hCa : Ch w.heap.size none1 w w2 := hC.step hC2 (Nat.le_refl _) (fun k hk e => by omega)
  rw [dv_zeros, Nat.zero_add] at hzv
  have hzv1 : dv zs = dv xs * a := no_over _ _ _ _ hzv HXA.out
  clear hB hC hB1 hC2 hzv
  have HZV := Lib.hid hzv1; clear hzv1
  have HZL := Lib.hid hzl; clear hzl
  go_wp2_with fail
  refine (subtractProduct_any n (n + 1) capy w.heap.size 0 b 52 q [] [] zs ys w2 hz HZL.out (by unfold maxLen; omega) (Nat.le_refl _) hb hB2 rfl (Dg.ch hCa HY.out (fun a ha => ⟨HY.out.lt_size a ha, fun q => q⟩)) (fun a ha e => by have := HY.out.lt_size a ha; omega)).mono ?_
  rintro e w3 ⟨bb, z3, rfl, _, hz3, hz3l, hz3v, hB3, hC3⟩
  have hCb : Ch w.heap.size none1 w w3 := hCa.step hC3 (Nat.le_refl _) (fun k hk e => by omega)
  have hz3e : dv z3 = dv xs * a - dv ys * b := by
    have h2 := dv_lt hz3
    rw [hz3l] at h2
    rw [HZV.out] at hz3v
    exact no_under _ _ _ _ _ hz3v h2 HLE.out
  have hB4 : Blk w3 w.heap.size 52 (z3.map U) := hB3.cast (by simp)
  have hd4 : Dg w3 (some ⟨w.heap.size, 0, none⟩) (n + 1) z3 := dg_of_blk (post := []) (hB4.cast (by simp)) hz3 (n + 1) hz3l
  have HZE := Lib.hid hz3e; clear hz3e hz3v hB2 hCa hC3 hB3
  go_wp2_with fail
  refine (dtrim_any _ (n + 1) (n + 1) z3 _ hd4 (Nat.le_refl _) (by unfold maxLen; omega)).mono ?_
  rintro e w4 ⟨rfl, rfl⟩
  go_wp2_with fail
  go_ret
  refine ⟨_, rfl, ?_, hCb⟩
  rw [← HZE.out]
  exact OwnD.of_blk hB4 hz3 hz3l (by unfold maxLen; omega) (Nat.le_refl _)
set_option maxRecDepth 100000 in
set_option maxHeartbeats 1600000 in
theorem leading_any (n capx capy : Nat) (p q : Option Addr) (xs ys : List Nat) (w : World) (hx : Dg w p n xs) (hy : Dg w q n ys) (hn : n ≤ 8796093022208) (hn2 : 2 ≤ n) (cx : tlen xs = n) (hle : dv ys ≤ dv xs) :
    Calls Tryd.prog 93 #[.slice p n capx, .slice q n capy] w fun e w' => ∃ v u P x y : Nat, e = .returned (.tuple #[U v, U u]) ∧ Ch w.heap.size none1 w w' ∧ v < D ∧ u ≤ v ∧ dv xs = v * P + x ∧ dv ys = u * P + y ∧ x < P ∧ y < P := by
  obtain ⟨gx, ox, rfl⟩ := hx.addr (by omega)
  obtain ⟨gy, oy, rfl⟩ := hy.addr (by omega)
  have hxl := hx.len
  have hyl := hy.len
  have htop := top_pos xs n hx.len (by omega) cx
  have c1 := hx.get (n - 1) (by omega)
  have c2 := hx.get (n - 1 - 1) (by omega)
  have d1 := hy.get (n - 1) (by omega)
  have d2 := hy.get (n - 1 - 1) (by omega)
  have b1 : xs[n - 1]'(by omega) < D := hx.lt _ (List.getElem_mem _)
  have b2 : xs[n - 1 - 1]'(by omega) < D := hx.lt _ (List.getElem_mem _)
  have b3 : ys[n - 1]'(by omega) < D := hy.lt _ (List.getElem_mem _)
  have b4 : ys[n - 1 - 1]'(by omega) < D := hy.lt _ (List.getElem_mem _)
  obtain ⟨hs64, hY1, hY2⟩ := lz_facts _ b1 htop
  have htt : ys[n - 1]'(by omega) ≤ xs[n - 1]'(by omega) := by
    rcases Nat.lt_or_ge (xs[n - 1]'(by omega)) (ys[n - 1]'(by omega)) with h | h
    · have := cmp_top xs ys (n - 1) hx.lt hy.lt (by omega) (by omega) (by omega) (by rw [List.drop_of_length_le (by omega), List.drop_of_length_le (by omega)]) h
      omega
    · exact h
  have hlz := fun w => lz_any (xs[n - 1]'(by omega)) w b1
  have hY3 : ys[n - 1]'(by omega) * 2 ^ lz (xs[n - 1]'(by omega)) < D := Nat.lt_of_le_of_lt (Nat.mul_le_mul_right _ htt) hY2
  obtain ⟨x, hx1, hx2, hx3, hx4⟩ := lead_bits xs (n - 2) (lz (xs[n - 1]'(by omega))) (xs[n - 1]'(by omega)) (xs[n - 1 - 1]'(by omega)) (by omega) hx.lt (by omega) (by congr 1; omega) (by congr 1) hY2
  obtain ⟨y, hy1, hy2, hy3, hy4⟩ := lead_bits ys (n - 2) (lz (xs[n - 1]'(by omega))) (ys[n - 1]'(by omega)) (ys[n - 1 - 1]'(by omega)) (by omega) hy.lt (by omega) (by congr 1; omega) (by congr 1) hY3
  generalize xs[n - 1]'(by omega) = t at *
  generalize ys[n - 1]'(by omega) = t' at *
  generalize xs[n - 1 - 1]'(by omega) = r at *
  generalize ys[n - 1 - 1]'(by omega) = r' at *
  generalize lz t = s at *
  have hv : t' * 2 ^ s + r' / 2 ^ (64 - s) ≤ t * 2 ^ s + r / 2 ^ (64 - s) := by
    rw [← hx4, ← hy4]; exact Nat.div_le_div_right hle
  have rx : bits .or .u64 (IntKind.u64.wrap ((t : Int) * 2 ^ s)) ((r / 2 ^ (64 - s) : Nat) : Int) = ((t * 2 ^ s + r / 2 ^ (64 - s) : Nat) : Int) := by
    have hp := part_lt r s (by omega) b2
    have hpb := Nat.lt_of_lt_of_le hp (pow_le64 s (by omega))
    have hm := Nat.mod_lt (t * 2 ^ s) D_pos
    rw [shl_mod, u64_or _ _ hm hpb, shl_low t s _ (by omega) hp, Nat.mod_eq_of_lt (show t * 2 ^ s < D from hY2)]
  have ry : bits .or .u64 (IntKind.u64.wrap ((t' : Int) * 2 ^ s)) ((r' / 2 ^ (64 - s) : Nat) : Int) = ((t' * 2 ^ s + r' / 2 ^ (64 - s) : Nat) : Int) := by
    have hp := part_lt r' s (by omega) b4
    have hpb := Nat.lt_of_lt_of_le hp (pow_le64 s (by omega))
    have hm := Nat.mod_lt (t' * 2 ^ s) D_pos
    rw [shl_mod, u64_or _ _ hm hpb, shl_low t' s _ (by omega) hp, Nat.mod_eq_of_lt hY3]
  have sx := shr_cast r (64 - s)
  have sy := shr_cast r' (64 - s)
  have HR := Lib.hid (show ∃ v u P x y : Nat, U (t * 2 ^ s + r / 2 ^ (64 - s)) = U v ∧ U (t' * 2 ^ s + r' / 2 ^ (64 - s)) = U u ∧ v < D ∧ u ≤ v ∧ dv xs = v * P + x ∧ dv ys = u * P + y ∧ x < P ∧ y < P from ⟨_, _, _, x, y, rfl, rfl, hx3, hv, hx2, hy2, hx1, hy1⟩)
  have HLZ := Lib.hid hlz
  clear hlz hx1 hx2 hx3 hx4 hy1 hy2 hy3 hy4 hv hY1 hY2 hY3 htop htt hx hy hle cx
  generalize r / 2 ^ (64 - s) = rs at *
  generalize r' / 2 ^ (64 - s) = rs' at *
  generalize t * 2 ^ s + rs = vv at *
  generalize t' * 2 ^ s + rs' = uu at *
  have hi1 : 0 ≤ (n : Int) - 1 := by omega
  have hi2 : 0 ≤ (n : Int) - 1 - 1 := by omega
  go_enter Tryd.func93, Tryd.ntmps93
  go_wp2_with fail
  refine (HLZ.out _).mono ?_
  rintro e w' ⟨rfl, rfl⟩
  obtain ⟨w, rfl⟩ : ∃ w : World, w = w' := ⟨_, rfl⟩
  go_wp2_with fail
  go_quiet (fail)
  go_wp2_with fail
  go_quiet (fail)
  go_wp2_with fail
  go_ret2
  obtain ⟨v, u, P, x, y, e1, e2, h⟩ := HR.out
  exact ⟨v, u, P, x, y, by rw [← e1, ← e2]; rfl, ((Ch.refl w.heap.size none1 w).drewN _).drewN _, h⟩
end Go.Proofs.YtcghnkdfhiancaaDoor
