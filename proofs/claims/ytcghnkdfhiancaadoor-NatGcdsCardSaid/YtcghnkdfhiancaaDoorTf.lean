/- NatFermat: the walks. -/
import Derived.Test.YtcghnkdfhiancaaDoorTk
import Derived.Test.YtcghnkdfhiancaaDoorRp
import Derived.Deep.RegionHeld3
namespace Go.Proofs.YtcghnkdfhiancaaDoor
open Go.RowKit
/-- A slice of bytes that came in, cut and turned into a string. -/
theorem conv_BS {w : World} {p : Option Addr} {n cap : Nat} {l : List UInt8} (h : BS w (.slice p n cap) l) (k m : Nat) (hm : m = min n k) :
    (convert 22 24 (.slice p m cap)).run Tryd.prog w = .ok (S (l.take k)) w := by
  obtain ⟨p', cap', hv, h1, h2, h3, h4⟩ := h
  simp only [Value.slice.injEq] at hv
  obtain ⟨rfl, rfl, rfl⟩ := hv
  rcases p with _ | x
  · have h0 := h3 rfl
    subst h0
    have hl : l = [] := List.eq_nil_of_length_eq_zero (by omega)
    subst hl
    obtain rfl : m = 0 := by simpa using hm
    have hcv : (convert 22 24 (.slice none 0 0)).run Tryd.prog w = .ok (.string ⟨#[]⟩) w := by kernel_rfl
    simpa using hcv
  · exact conv_take w _ _ 5 Tryd.underlying22 Tryd.underlying5 Tryd.underlying24 x cap l (fun h0 => by
      obtain ⟨g, off, hp, hc⟩ := h4 h0
      exact ⟨g, off, Option.some.inj hp, hc⟩) k m hm
theorem BS.len {w : World} {p : Option Addr} {n cap : Nat} {l : List UInt8} (h : BS w (.slice p n cap) l) : n = l.length ∧ n ≤ cap ∧ cap ≤ maxLen ∧ (p = none → n = 0 ∧ cap = 0) := by
  obtain ⟨p', cap', hv, h1, h2, h3, h4⟩ := h
  simp only [Value.slice.injEq] at hv
  obtain ⟨rfl, rfl, rfl⟩ := hv
  exact ⟨rfl, h1, h2, fun h => by have := h3 h; omega⟩
theorem keep2 {W W' : World} {B : Nat} {u v : Value} (h : Ch W.heap.size none1 W W') (hB : B < W.heap.size) (hc : W.cell? ⟨B, 0, none⟩ = some u ∧ W.cell? ⟨B, 1, none⟩ = some v) : W'.cell? ⟨B, 0, none⟩ = some u ∧ W'.cell? ⟨B, 1, none⟩ = some v :=
  ⟨(h.cell (p := ⟨B, 0, none⟩) hB (fun q => q)).trans hc.1, (h.cell (p := ⟨B, 1, none⟩) hB (fun q => q)).trans hc.2⟩
theorem nbits_posF {n : Nat} (h : 0 < n) : 0 < nbits n := by
  rcases Nat.eq_zero_or_pos (nbits n) with h1 | h1
  · have := (nbits_iff n 0).1 (by omega)
    omega
  · exact h1
theorem C_pow_any {a e m : List UInt8} {n : Nat} (ha : a.length ≤ 10000) (hb : e.length ≤ 10000) (hm : m.length ≤ 10000) (hn : bv a ^ bv e % bv m = n) :
    ∃ (l : List UInt8) (ok : Bool), Ans 25 #[S a, S e, S m] (.tuple #[S l, .bool ok]) ∧ (0 < bv m → nb n = l ∧ ok = true) ∧ (bv m = 0 → l = [] ∧ ok = false) := by
  rcases Nat.eq_zero_or_pos (bv m) with h | h
  · exact ⟨[], false, C_pow_no hm h, fun q => by omega, fun _ => ⟨rfl, rfl⟩⟩
  · exact ⟨nb n, true, C_pow rfl ha hb hm h hn, fun _ => ⟨rfl, rfl⟩, fun q => by omega⟩
set_option maxRecDepth 100000 in
set_option maxHeartbeats 3200000 in
theorem fer_ss_pd (xa : Addr) (na ca : Nat) (hna : na ≤ ca) (_hca : ca ≤ 9223372036854775807) (xz : Addr) (nz cz : Nat) (hnz : nz ≤ cz) (_hcz : cz ≤ 9223372036854775807) (e0 e1 : Nat) (a z : List UInt8) (w : World) (ka : a.length ≤ 24) (kz : z.length ≤ 24) (he0 : e0 < 4294967296) (he1 : e1 < 4294967296)
    (ht : pow10Is w) (hz : 0 < bv z) (hr : bv a % 2305843009213691579 = 0)
    (hca' : ∀ w', Ch w.heap.size none1 w w' → (convert 22 24 (.slice (some xa) (min (na : Int) 24).toNat ca)).run Tryd.prog w' = .ok (S a) w')
    (hcz' : ∀ w', Ch w.heap.size none1 w w' → (convert 22 24 (.slice (some xz) (min (nz : Int) 24).toNat cz)).run Tryd.prog w' = .ok (S z) w') :
    Calls Tryd.prog 10 #[.slice (some xa) na ca, .agg #[.int .u32 (e0 : Int), .int .u32 (e1 : Int)], .slice (some xz) nz cz] w (Yld w (.bool true)) := by
  have la : a.length ≤ 10000 := by omega
  have lz : z.length ≤ 10000 := by omega
  obtain ⟨u, eu, vu⟩ := has_nb e0
  obtain ⟨v, ev', vv⟩ := has_nb e1
  obtain ⟨uv, euv, vuv⟩ := has_nb (e0 + e1)
  have lu := nbl 5 eu (by omega) (by decide)
  have lv := nbl 5 ev' (by omega) (by decide)
  have luv := nbl 5 euv (by omega) (by decide)
  obtain ⟨L, hL⟩ : ∃ L, L = 2305843009213691579 := ⟨_, rfl⟩
  rw [← hL] at hr
  obtain ⟨pl, epl, vpl⟩ := has_nb L
  obtain ⟨pm, epm, vpm⟩ := has_nb (L - 1)
  have lpl := nbl 8 epl (by rw [hL]; decide) (by decide)
  have lpm := nbl 8 epm (by rw [hL]; decide) (by decide)
  have hplp : 0 < bv pl := by rw [vpl, hL]; decide
  have hF := fermat_large L hL (bv a)
  have hL1 : 1 < L := by rw [hL]; decide
  obtain ⟨pu, epu, vpu⟩ := has_nb (bv a ^ e0 % bv z)
  obtain ⟨pw, epw, vpw⟩ := has_nb (bv a ^ e1 % bv z)
  obtain ⟨pb, epb, vpb⟩ := has_nb (bv a ^ (e0 + e1) % bv z)
  have bz := bv_b kz
  have bpu : bv a ^ e0 % bv z < 256 ^ 24 := Nat.lt_trans (Nat.mod_lt _ hz) bz
  have bpw : bv a ^ e1 % bv z < 256 ^ 24 := Nat.lt_trans (Nat.mod_lt _ hz) bz
  have bpb : bv a ^ (e0 + e1) % bv z < 256 ^ 24 := Nat.lt_trans (Nat.mod_lt _ hz) bz
  have lpu := nbl _ epu bpu (by decide)
  have lpw := nbl _ epw bpw (by decide)
  obtain ⟨pp, epp, vpp⟩ := has_nb ((bv a ^ e0 % bv z) * (bv a ^ e1 % bv z))
  have lpp := nbl _ epp (mulb bpu bpw) (by decide)
  obtain ⟨pq, epq, vpq⟩ := has_nb (bv pp / bv z)
  have hsame : bv pp % bv z = bv a ^ (e0 + e1) % bv z := by rw [vpp, Nat.pow_add, ← Nat.mul_mod]
  obtain ⟨kb, hkb⟩ : ∃ k : Int, (nbits (bv z) : Int) = k := ⟨_, rfl⟩
  have hkb0 : 0 < kb := by have := nbits_posF hz; omega
  have hone : bv a ^ bv pm % bv pl = 0 := by rw [vpm, vpl, Nat.pow_mod, hr, Nat.zero_pow (by omega), Nat.zero_mod]
  obtain ⟨pq2, epq2, vpq2⟩ := has_nb (bv a / bv pl)
  have hrr : bv a % bv pl = 0 := by rw [vpl]; exact hr
  have g1 := (C_refOf (n := IntKind.i64.wrap (e0 : Int)) (l := u) (by rw [IntWalk.i64_in _ (by omega)]; exact eu) (by rw [IntWalk.i64_in _ (by omega)]; omega) (by rw [IntWalk.i64_in _ (by omega)]; omega))
  have g2 := (C_refOf (n := IntKind.i64.wrap (e1 : Int)) (l := v) (by rw [IntWalk.i64_in _ (by omega)]; exact ev') (by rw [IntWalk.i64_in _ (by omega)]; omega) (by rw [IntWalk.i64_in _ (by omega)]; omega))
  have g3 := (C_refOf (n := 2305843009213691579) (l := pl) (by rw [← epl, hL]; rfl) (by decide) (by decide))
  have g4 := (C_refOf (n := 2305843009213691578) (l := pm) (by rw [← epm, hL]; rfl) (by decide) (by decide))
  have h1 := C_pow epu la lu lz hz (by rw [vu])
  have h2 := C_pow epw la lv lz hz (by rw [vv])
  have h3 := C_pow epb la luv lz hz (by rw [vuv])
  have h4 := C_bits lz hkb
  have h5 := C_mul epp lpu lpw (by rw [vpu, vpw])
  have h6 := C_quo epq epb lpp lz hz rfl hsame
  have h7 := C_pow nb_zero la lpm lpl hplp hone
  have h8 := C_quo epq2 nb_zero la lpl hplp rfl hrr
  have h9 := C_add euv lu lv (by rw [vu, vv])
  have HS := Lib.hid (sanity_all w ht)
  have HCA := Lib.hid hca'
  have HCZ := Lib.hid hcz'
  have G1 := Lib.hid g1
  have G2 := Lib.hid g2
  have G3 := Lib.hid g3
  have G4 := Lib.hid g4
  have H1 := Lib.hid h1
  have H2 := Lib.hid h2
  have H3 := Lib.hid h3
  have H4 := Lib.hid h4
  have H5 := Lib.hid h5
  have H6 := Lib.hid h6
  have H7 := Lib.hid h7
  have H8 := Lib.hid h8
  have H9 := Lib.hid h9
  clear g1 g2 g3 g4 h1 h2 h3 h4 h5 h6 h7 h8 h9 hca' hcz' ht ka kz la lz eu vu ev' vv euv vuv lu lv luv epl vpl epm vpm lpl lpm hplp hF hL hL1 hone epq2 vpq2 epu vpu epw vpw epb vpb bz bpu bpw bpb lpu lpw epp vpp lpp epq vpq hsame hkb hz hrr hr
  have HC := Lib.hid (Ch.refl w.heap.size none1 w)
  go_enter Tryd.func10, Tryd.ntmps10
  have hlb := Blk.new w #[Value.int .u32 (e0 : Int), .int .u32 (e1 : Int)] 48
  go_wp2_with (first
    | (go_at_call 11; with_reducible refine (HS.out _ (HC.out.alloc (Nat.le_refl _) _)).mono ?_; rintro e w' ⟨rfl, hC⟩))
  have hcw := (HC.out.alloc (Nat.le_refl _) (.cells #[Value.int .u32 (e0 : Int), .int .u32 (e1 : Int)] 48 (0, 0))).trans (hC.mono (size_alloc_le _ (Nat.le_refl _)) (fun _ _ q => q))
  have hbw := hC.blk hlb (Blk.lt hlb) (fun q => q)
  have hlt0 : w.heap.size < w'.heap.size := hbw.lt
  have ca2 := fun n => HCA.out _ (hcw.drewN n)
  have cz2 := fun n => HCZ.out _ (hcw.drewN n)
  have hm1 : (0 : Int) ≤ min (na : Int) 24 := by omega
  have hm2 : min (na : Int) 24 ≤ (ca : Int) := by omega
  have hm3 : (0 : Int) ≤ min (nz : Int) 24 := by omega
  have hm4 : min (nz : Int) 24 ≤ (cz : Int) := by omega
  have HCW := Lib.hid hcw
  have HBW := Lib.hid hbw
  have HLT := Lib.hid hlt0
  clear hcw hbw hC hlb HC HCA HCZ hlt0
  go_quiet (fail)
  clear ca2 cz2
  go_wp2_with fail
  obtain ⟨B, hB⟩ : ∃ B, w.heap.size = B := ⟨_, rfl⟩
  rw [hB] at HBW HLT ⊢
  have hcw0 := HCW.out.drewN nq
  have hbw0 := HBW.out.drewN nq
  obtain ⟨W0, hW0⟩ : ∃ W, w'.drewN nq = W := ⟨_, rfl⟩
  rw [hW0] at hcw0 hbw0 ⊢
  have HCW0 := Lib.hid hcw0.drew
  have HS0 := Lib.hid (show W0.drew.cell? ⟨B, 0, none⟩ = some (.int .u32 (e0 : Int)) ∧ W0.drew.cell? ⟨B, 1, none⟩ = some (.int .u32 (e1 : Int)) from ⟨hbw0.cell 0, hbw0.cell 1⟩)
  have HLT2 := Lib.hid (show B < W0.drew.heap.size from hbw0.lt)
  clear hW0 hcw0 hbw0
  clear HCW HBW HLT
  go_region_held3 (fun w' => w'.cell? ⟨B, 0, none⟩ = some (.int .u32 (e0 : Int)) ∧ w'.cell? ⟨B, 1, none⟩ = some (.int .u32 (e1 : Int)))
    (first
      | (with_reducible exact HS0.out)
      | (with_reducible exact keep2 HY.out HLT2.out HS0.out)
      | (with_reducible exact keep2 HX.out HLT2.out HS0.out)
      | go_keep)
    (first
      | (go_at_call 29; with_reducible refine (G1.out _).mono ?_; rintro e wb ⟨rfl, hCb⟩; have HY := Lib.hid (HX.out.step0 hCb (Nat.le_refl _)); clear hCb HX)
      | (go_at_call 29; with_reducible refine (G2.out _).mono ?_; rintro e wb ⟨rfl, hCb⟩; have HY := Lib.hid (HX.out.step0 hCb (Nat.le_refl _)); clear hCb HX)
      | (go_at_call 29; with_reducible refine (G1.out _).mono ?_; rintro e wa ⟨rfl, hCa⟩; have HX := Lib.hid hCa; clear hCa)
      | (go_at_call 29; with_reducible refine (G2.out _).mono ?_; rintro e wa ⟨rfl, hCa⟩; have HX := Lib.hid hCa; clear hCa))
  all_goals
    have HC := Lib.hid (HCW0.out.trans (HY.out.mono HCW0.out.size (fun _ _ q => q)))
    clear HY HS0 HLT2 HCW0
    go_wp2_with (first
    | (go_at_call 25; with_reducible refine (H1.out _).mono ?_; rintro e w' ⟨rfl, hC⟩; have HC2 := Lib.hid (HC.out.trans (hC.mono HC.out.size (fun _ _ q => q))); clear hC HC; have HC := HC2; clear HC2)
    | (go_at_call 25; with_reducible refine (H2.out _).mono ?_; rintro e w' ⟨rfl, hC⟩; have HC2 := Lib.hid (HC.out.trans (hC.mono HC.out.size (fun _ _ q => q))); clear hC HC; have HC := HC2; clear HC2)
    | (go_at_call 25; with_reducible refine (H3.out _).mono ?_; rintro e w' ⟨rfl, hC⟩; have HC2 := Lib.hid (HC.out.trans (hC.mono HC.out.size (fun _ _ q => q))); clear hC HC; have HC := HC2; clear HC2)
    | (go_at_call 31; with_reducible refine (H4.out _).mono ?_; rintro e w' ⟨rfl, hC⟩; have HC2 := Lib.hid (HC.out.trans (hC.mono HC.out.size (fun _ _ q => q))); clear hC HC; have HC := HC2; clear HC2)
    | (go_at_call 21; with_reducible refine (H5.out _).mono ?_; rintro e w' ⟨rfl, hC⟩; have HC2 := Lib.hid (HC.out.trans (hC.mono HC.out.size (fun _ _ q => q))); clear hC HC; have HC := HC2; clear HC2)
    | (go_at_call 34; with_reducible refine (H6.out _).mono ?_; rintro e w' ⟨rfl, hC⟩; have HC2 := Lib.hid (HC.out.trans (hC.mono HC.out.size (fun _ _ q => q))); clear hC HC; have HC := HC2; clear HC2)
    | (go_at_call 25; with_reducible refine (H7.out _).mono ?_; rintro e w' ⟨rfl, hC⟩; have HC2 := Lib.hid (HC.out.trans (hC.mono HC.out.size (fun _ _ q => q))); clear hC HC; have HC := HC2; clear HC2)
    | (go_at_call 34; with_reducible refine (H8.out _).mono ?_; rintro e w' ⟨rfl, hC⟩; have HC2 := Lib.hid (HC.out.trans (hC.mono HC.out.size (fun _ _ q => q))); clear hC HC; have HC := HC2; clear HC2)
    | (go_at_call 15; with_reducible refine (H9.out _).mono ?_; rintro e w' ⟨rfl, hC⟩; have HC2 := Lib.hid (HC.out.trans (hC.mono HC.out.size (fun _ _ q => q))); clear hC HC; have HC := HC2; clear HC2)
    | (go_at_call 29; with_reducible refine (G3.out _).mono ?_; rintro e w' ⟨rfl, hC⟩; have HC2 := Lib.hid (HC.out.trans (hC.mono HC.out.size (fun _ _ q => q))); clear hC HC; have HC := HC2; clear HC2)
    | (go_at_call 29; with_reducible refine (G4.out _).mono ?_; rintro e w' ⟨rfl, hC⟩; have HC2 := Lib.hid (HC.out.trans (hC.mono HC.out.size (fun _ _ q => q))); clear hC HC; have HC := HC2; clear HC2))
  all_goals
    go_ret
    exact ⟨rfl, HC.out⟩
set_option maxRecDepth 100000 in
set_option maxHeartbeats 3200000 in
theorem fer_ss_pu (xa : Addr) (na ca : Nat) (hna : na ≤ ca) (_hca : ca ≤ 9223372036854775807) (xz : Addr) (nz cz : Nat) (hnz : nz ≤ cz) (_hcz : cz ≤ 9223372036854775807) (e0 e1 : Nat) (a z : List UInt8) (w : World) (ka : a.length ≤ 24) (kz : z.length ≤ 24) (he0 : e0 < 4294967296) (he1 : e1 < 4294967296)
    (ht : pow10Is w) (hz : 0 < bv z) (hr : ¬ bv a % 2305843009213691579 = 0)
    (hca' : ∀ w', Ch w.heap.size none1 w w' → (convert 22 24 (.slice (some xa) (min (na : Int) 24).toNat ca)).run Tryd.prog w' = .ok (S a) w')
    (hcz' : ∀ w', Ch w.heap.size none1 w w' → (convert 22 24 (.slice (some xz) (min (nz : Int) 24).toNat cz)).run Tryd.prog w' = .ok (S z) w') :
    Calls Tryd.prog 10 #[.slice (some xa) na ca, .agg #[.int .u32 (e0 : Int), .int .u32 (e1 : Int)], .slice (some xz) nz cz] w (Yld w (.bool true)) := by
  have la : a.length ≤ 10000 := by omega
  have lz : z.length ≤ 10000 := by omega
  obtain ⟨u, eu, vu⟩ := has_nb e0
  obtain ⟨v, ev', vv⟩ := has_nb e1
  obtain ⟨uv, euv, vuv⟩ := has_nb (e0 + e1)
  have lu := nbl 5 eu (by omega) (by decide)
  have lv := nbl 5 ev' (by omega) (by decide)
  have luv := nbl 5 euv (by omega) (by decide)
  obtain ⟨L, hL⟩ : ∃ L, L = 2305843009213691579 := ⟨_, rfl⟩
  rw [← hL] at hr
  obtain ⟨pl, epl, vpl⟩ := has_nb L
  obtain ⟨pm, epm, vpm⟩ := has_nb (L - 1)
  have lpl := nbl 8 epl (by rw [hL]; decide) (by decide)
  have lpm := nbl 8 epm (by rw [hL]; decide) (by decide)
  have hplp : 0 < bv pl := by rw [vpl, hL]; decide
  have hF := fermat_large L hL (bv a)
  have hL1 : 1 < L := by rw [hL]; decide
  obtain ⟨pu, epu, vpu⟩ := has_nb (bv a ^ e0 % bv z)
  obtain ⟨pw, epw, vpw⟩ := has_nb (bv a ^ e1 % bv z)
  obtain ⟨pb, epb, vpb⟩ := has_nb (bv a ^ (e0 + e1) % bv z)
  have bz := bv_b kz
  have bpu : bv a ^ e0 % bv z < 256 ^ 24 := Nat.lt_trans (Nat.mod_lt _ hz) bz
  have bpw : bv a ^ e1 % bv z < 256 ^ 24 := Nat.lt_trans (Nat.mod_lt _ hz) bz
  have bpb : bv a ^ (e0 + e1) % bv z < 256 ^ 24 := Nat.lt_trans (Nat.mod_lt _ hz) bz
  have lpu := nbl _ epu bpu (by decide)
  have lpw := nbl _ epw bpw (by decide)
  obtain ⟨pp, epp, vpp⟩ := has_nb ((bv a ^ e0 % bv z) * (bv a ^ e1 % bv z))
  have lpp := nbl _ epp (mulb bpu bpw) (by decide)
  obtain ⟨pq, epq, vpq⟩ := has_nb (bv pp / bv z)
  have hsame : bv pp % bv z = bv a ^ (e0 + e1) % bv z := by rw [vpp, Nat.pow_add, ← Nat.mul_mod]
  obtain ⟨kb, hkb⟩ : ∃ k : Int, (nbits (bv z) : Int) = k := ⟨_, rfl⟩
  have hkb0 : 0 < kb := by have := nbits_posF hz; omega
  have hone : bv a ^ bv pm % bv pl = 1 := by rw [vpm, vpl]; exact hF hr
  have hnb1 : nb 1 = [1] := by rw [nb_is [1] 1 (by decide) (by decide)]
  obtain ⟨pq2, epq2, vpq2⟩ := has_nb (bv a / bv pl)
  obtain ⟨pr, epr, vpr⟩ := has_nb (bv a % bv pl)
  have hpr : ¬ pr = [] := fun h => by rw [h, vpl] at vpr; exact hr vpr.symm
  obtain ⟨r0, rs, rfl⟩ : ∃ r0 rs, pr = r0 :: rs := by
    cases pr with
    | nil => exact absurd rfl hpr
    | cons r0 rs => exact ⟨r0, rs, rfl⟩
  have g1 := (C_refOf (n := IntKind.i64.wrap (e0 : Int)) (l := u) (by rw [IntWalk.i64_in _ (by omega)]; exact eu) (by rw [IntWalk.i64_in _ (by omega)]; omega) (by rw [IntWalk.i64_in _ (by omega)]; omega))
  have g2 := (C_refOf (n := IntKind.i64.wrap (e1 : Int)) (l := v) (by rw [IntWalk.i64_in _ (by omega)]; exact ev') (by rw [IntWalk.i64_in _ (by omega)]; omega) (by rw [IntWalk.i64_in _ (by omega)]; omega))
  have g3 := (C_refOf (n := 2305843009213691579) (l := pl) (by rw [← epl, hL]; rfl) (by decide) (by decide))
  have g4 := (C_refOf (n := 2305843009213691578) (l := pm) (by rw [← epm, hL]; rfl) (by decide) (by decide))
  have h1 := C_pow epu la lu lz hz (by rw [vu])
  have h2 := C_pow epw la lv lz hz (by rw [vv])
  have h3 := C_pow epb la luv lz hz (by rw [vuv])
  have h4 := C_bits lz hkb
  have h5 := C_mul epp lpu lpw (by rw [vpu, vpw])
  have h6 := C_quo epq epb lpp lz hz rfl hsame
  have h7 := C_pow hnb1 la lpm lpl hplp hone
  have h8 := C_quo epq2 epr la lpl hplp rfl rfl
  have h9 := C_add euv lu lv (by rw [vu, vv])
  have HS := Lib.hid (sanity_all w ht)
  have HCA := Lib.hid hca'
  have HCZ := Lib.hid hcz'
  have G1 := Lib.hid g1
  have G2 := Lib.hid g2
  have G3 := Lib.hid g3
  have G4 := Lib.hid g4
  have H1 := Lib.hid h1
  have H2 := Lib.hid h2
  have H3 := Lib.hid h3
  have H4 := Lib.hid h4
  have H5 := Lib.hid h5
  have H6 := Lib.hid h6
  have H7 := Lib.hid h7
  have H8 := Lib.hid h8
  have H9 := Lib.hid h9
  clear g1 g2 g3 g4 h1 h2 h3 h4 h5 h6 h7 h8 h9 hca' hcz' ht ka kz la lz eu vu ev' vv euv vuv lu lv luv epl vpl epm vpm lpl lpm hplp hF hL hL1 hone epq2 vpq2 epu vpu epw vpw epb vpb bz bpu bpw bpb lpu lpw epp vpp lpp epq vpq hsame hkb hz hnb1 epr vpr hpr hr
  have HC := Lib.hid (Ch.refl w.heap.size none1 w)
  go_enter Tryd.func10, Tryd.ntmps10
  have hlb := Blk.new w #[Value.int .u32 (e0 : Int), .int .u32 (e1 : Int)] 48
  go_wp2_with (first
    | (go_at_call 11; with_reducible refine (HS.out _ (HC.out.alloc (Nat.le_refl _) _)).mono ?_; rintro e w' ⟨rfl, hC⟩))
  have hcw := (HC.out.alloc (Nat.le_refl _) (.cells #[Value.int .u32 (e0 : Int), .int .u32 (e1 : Int)] 48 (0, 0))).trans (hC.mono (size_alloc_le _ (Nat.le_refl _)) (fun _ _ q => q))
  have hbw := hC.blk hlb (Blk.lt hlb) (fun q => q)
  have hlt0 : w.heap.size < w'.heap.size := hbw.lt
  have ca2 := fun n => HCA.out _ (hcw.drewN n)
  have cz2 := fun n => HCZ.out _ (hcw.drewN n)
  have hm1 : (0 : Int) ≤ min (na : Int) 24 := by omega
  have hm2 : min (na : Int) 24 ≤ (ca : Int) := by omega
  have hm3 : (0 : Int) ≤ min (nz : Int) 24 := by omega
  have hm4 : min (nz : Int) 24 ≤ (cz : Int) := by omega
  have HCW := Lib.hid hcw
  have HBW := Lib.hid hbw
  have HLT := Lib.hid hlt0
  clear hcw hbw hC hlb HC HCA HCZ hlt0
  go_quiet (fail)
  clear ca2 cz2
  go_wp2_with fail
  obtain ⟨B, hB⟩ : ∃ B, w.heap.size = B := ⟨_, rfl⟩
  rw [hB] at HBW HLT ⊢
  have hcw0 := HCW.out.drewN nq
  have hbw0 := HBW.out.drewN nq
  obtain ⟨W0, hW0⟩ : ∃ W, w'.drewN nq = W := ⟨_, rfl⟩
  rw [hW0] at hcw0 hbw0 ⊢
  have HCW0 := Lib.hid hcw0.drew
  have HS0 := Lib.hid (show W0.drew.cell? ⟨B, 0, none⟩ = some (.int .u32 (e0 : Int)) ∧ W0.drew.cell? ⟨B, 1, none⟩ = some (.int .u32 (e1 : Int)) from ⟨hbw0.cell 0, hbw0.cell 1⟩)
  have HLT2 := Lib.hid (show B < W0.drew.heap.size from hbw0.lt)
  clear hW0 hcw0 hbw0
  clear HCW HBW HLT
  go_region_held3 (fun w' => w'.cell? ⟨B, 0, none⟩ = some (.int .u32 (e0 : Int)) ∧ w'.cell? ⟨B, 1, none⟩ = some (.int .u32 (e1 : Int)))
    (first
      | (with_reducible exact HS0.out)
      | (with_reducible exact keep2 HY.out HLT2.out HS0.out)
      | (with_reducible exact keep2 HX.out HLT2.out HS0.out)
      | go_keep)
    (first
      | (go_at_call 29; with_reducible refine (G1.out _).mono ?_; rintro e wb ⟨rfl, hCb⟩; have HY := Lib.hid (HX.out.step0 hCb (Nat.le_refl _)); clear hCb HX)
      | (go_at_call 29; with_reducible refine (G2.out _).mono ?_; rintro e wb ⟨rfl, hCb⟩; have HY := Lib.hid (HX.out.step0 hCb (Nat.le_refl _)); clear hCb HX)
      | (go_at_call 29; with_reducible refine (G1.out _).mono ?_; rintro e wa ⟨rfl, hCa⟩; have HX := Lib.hid hCa; clear hCa)
      | (go_at_call 29; with_reducible refine (G2.out _).mono ?_; rintro e wa ⟨rfl, hCa⟩; have HX := Lib.hid hCa; clear hCa))
  all_goals
    have HC := Lib.hid (HCW0.out.trans (HY.out.mono HCW0.out.size (fun _ _ q => q)))
    clear HY HS0 HLT2 HCW0
    go_wp2_with (first
    | (go_at_call 25; with_reducible refine (H1.out _).mono ?_; rintro e w' ⟨rfl, hC⟩; have HC2 := Lib.hid (HC.out.trans (hC.mono HC.out.size (fun _ _ q => q))); clear hC HC; have HC := HC2; clear HC2)
    | (go_at_call 25; with_reducible refine (H2.out _).mono ?_; rintro e w' ⟨rfl, hC⟩; have HC2 := Lib.hid (HC.out.trans (hC.mono HC.out.size (fun _ _ q => q))); clear hC HC; have HC := HC2; clear HC2)
    | (go_at_call 25; with_reducible refine (H3.out _).mono ?_; rintro e w' ⟨rfl, hC⟩; have HC2 := Lib.hid (HC.out.trans (hC.mono HC.out.size (fun _ _ q => q))); clear hC HC; have HC := HC2; clear HC2)
    | (go_at_call 31; with_reducible refine (H4.out _).mono ?_; rintro e w' ⟨rfl, hC⟩; have HC2 := Lib.hid (HC.out.trans (hC.mono HC.out.size (fun _ _ q => q))); clear hC HC; have HC := HC2; clear HC2)
    | (go_at_call 21; with_reducible refine (H5.out _).mono ?_; rintro e w' ⟨rfl, hC⟩; have HC2 := Lib.hid (HC.out.trans (hC.mono HC.out.size (fun _ _ q => q))); clear hC HC; have HC := HC2; clear HC2)
    | (go_at_call 34; with_reducible refine (H6.out _).mono ?_; rintro e w' ⟨rfl, hC⟩; have HC2 := Lib.hid (HC.out.trans (hC.mono HC.out.size (fun _ _ q => q))); clear hC HC; have HC := HC2; clear HC2)
    | (go_at_call 25; with_reducible refine (H7.out _).mono ?_; rintro e w' ⟨rfl, hC⟩; have HC2 := Lib.hid (HC.out.trans (hC.mono HC.out.size (fun _ _ q => q))); clear hC HC; have HC := HC2; clear HC2)
    | (go_at_call 34; with_reducible refine (H8.out _).mono ?_; rintro e w' ⟨rfl, hC⟩; have HC2 := Lib.hid (HC.out.trans (hC.mono HC.out.size (fun _ _ q => q))); clear hC HC; have HC := HC2; clear HC2)
    | (go_at_call 15; with_reducible refine (H9.out _).mono ?_; rintro e w' ⟨rfl, hC⟩; have HC2 := Lib.hid (HC.out.trans (hC.mono HC.out.size (fun _ _ q => q))); clear hC HC; have HC := HC2; clear HC2)
    | (go_at_call 29; with_reducible refine (G3.out _).mono ?_; rintro e w' ⟨rfl, hC⟩; have HC2 := Lib.hid (HC.out.trans (hC.mono HC.out.size (fun _ _ q => q))); clear hC HC; have HC := HC2; clear HC2)
    | (go_at_call 29; with_reducible refine (G4.out _).mono ?_; rintro e w' ⟨rfl, hC⟩; have HC2 := Lib.hid (HC.out.trans (hC.mono HC.out.size (fun _ _ q => q))); clear hC HC; have HC := HC2; clear HC2))
  all_goals
    go_ret
    exact ⟨rfl, HC.out⟩
set_option maxRecDepth 100000 in
set_option maxHeartbeats 3200000 in
theorem fer_ss_zd (xa : Addr) (na ca : Nat) (hna : na ≤ ca) (_hca : ca ≤ 9223372036854775807) (xz : Addr) (nz cz : Nat) (hnz : nz ≤ cz) (_hcz : cz ≤ 9223372036854775807) (e0 e1 : Nat) (a z : List UInt8) (w : World) (ka : a.length ≤ 24) (kz : z.length ≤ 24) (he0 : e0 < 4294967296) (he1 : e1 < 4294967296)
    (ht : pow10Is w) (hz : bv z = 0) (hr : bv a % 2305843009213691579 = 0)
    (hca' : ∀ w', Ch w.heap.size none1 w w' → (convert 22 24 (.slice (some xa) (min (na : Int) 24).toNat ca)).run Tryd.prog w' = .ok (S a) w')
    (hcz' : ∀ w', Ch w.heap.size none1 w w' → (convert 22 24 (.slice (some xz) (min (nz : Int) 24).toNat cz)).run Tryd.prog w' = .ok (S z) w') :
    Calls Tryd.prog 10 #[.slice (some xa) na ca, .agg #[.int .u32 (e0 : Int), .int .u32 (e1 : Int)], .slice (some xz) nz cz] w (Yld w (.bool true)) := by
  have la : a.length ≤ 10000 := by omega
  have lz : z.length ≤ 10000 := by omega
  obtain ⟨u, eu, vu⟩ := has_nb e0
  obtain ⟨v, ev', vv⟩ := has_nb e1
  obtain ⟨uv, euv, vuv⟩ := has_nb (e0 + e1)
  have lu := nbl 5 eu (by omega) (by decide)
  have lv := nbl 5 ev' (by omega) (by decide)
  have luv := nbl 5 euv (by omega) (by decide)
  obtain ⟨L, hL⟩ : ∃ L, L = 2305843009213691579 := ⟨_, rfl⟩
  rw [← hL] at hr
  obtain ⟨pl, epl, vpl⟩ := has_nb L
  obtain ⟨pm, epm, vpm⟩ := has_nb (L - 1)
  have lpl := nbl 8 epl (by rw [hL]; decide) (by decide)
  have lpm := nbl 8 epm (by rw [hL]; decide) (by decide)
  have hplp : 0 < bv pl := by rw [vpl, hL]; decide
  have hF := fermat_large L hL (bv a)
  have hL1 : 1 < L := by rw [hL]; decide
  have hkb : (nbits (bv z) : Int) = 0 := by rw [hz, nbits_zero]; rfl
  have hone : bv a ^ bv pm % bv pl = 0 := by rw [vpm, vpl, Nat.pow_mod, hr, Nat.zero_pow (by omega), Nat.zero_mod]
  obtain ⟨pq2, epq2, vpq2⟩ := has_nb (bv a / bv pl)
  have hrr : bv a % bv pl = 0 := by rw [vpl]; exact hr
  have g1 := (C_refOf (n := IntKind.i64.wrap (e0 : Int)) (l := u) (by rw [IntWalk.i64_in _ (by omega)]; exact eu) (by rw [IntWalk.i64_in _ (by omega)]; omega) (by rw [IntWalk.i64_in _ (by omega)]; omega))
  have g2 := (C_refOf (n := IntKind.i64.wrap (e1 : Int)) (l := v) (by rw [IntWalk.i64_in _ (by omega)]; exact ev') (by rw [IntWalk.i64_in _ (by omega)]; omega) (by rw [IntWalk.i64_in _ (by omega)]; omega))
  have g3 := (C_refOf (n := 2305843009213691579) (l := pl) (by rw [← epl, hL]; rfl) (by decide) (by decide))
  have g4 := (C_refOf (n := 2305843009213691578) (l := pm) (by rw [← epm, hL]; rfl) (by decide) (by decide))
  have h1 := C_pow_no (a := a) (e := u) lz hz
  have h2 := C_pow_no (a := a) (e := v) lz hz
  have h3 := C_pow_no (a := a) (e := uv) lz hz
  have h4 := C_bits lz hkb
  have h7 := C_pow nb_zero la lpm lpl hplp hone
  have h8 := C_quo epq2 nb_zero la lpl hplp rfl hrr
  have h9 := C_add euv lu lv (by rw [vu, vv])
  have HS := Lib.hid (sanity_all w ht)
  have HCA := Lib.hid hca'
  have HCZ := Lib.hid hcz'
  have G1 := Lib.hid g1
  have G2 := Lib.hid g2
  have G3 := Lib.hid g3
  have G4 := Lib.hid g4
  have H1 := Lib.hid h1
  have H2 := Lib.hid h2
  have H3 := Lib.hid h3
  have H4 := Lib.hid h4
  have H7 := Lib.hid h7
  have H8 := Lib.hid h8
  have H9 := Lib.hid h9
  clear g1 g2 g3 g4 h1 h2 h3 h4 h7 h8 h9 hca' hcz' ht ka kz la lz eu vu ev' vv euv vuv lu lv luv epl vpl epm vpm lpl lpm hplp hF hL hL1 hone epq2 vpq2 hkb hz hrr hr
  have HC := Lib.hid (Ch.refl w.heap.size none1 w)
  go_enter Tryd.func10, Tryd.ntmps10
  have hlb := Blk.new w #[Value.int .u32 (e0 : Int), .int .u32 (e1 : Int)] 48
  go_wp2_with (first
    | (go_at_call 11; with_reducible refine (HS.out _ (HC.out.alloc (Nat.le_refl _) _)).mono ?_; rintro e w' ⟨rfl, hC⟩))
  have hcw := (HC.out.alloc (Nat.le_refl _) (.cells #[Value.int .u32 (e0 : Int), .int .u32 (e1 : Int)] 48 (0, 0))).trans (hC.mono (size_alloc_le _ (Nat.le_refl _)) (fun _ _ q => q))
  have hbw := hC.blk hlb (Blk.lt hlb) (fun q => q)
  have hlt0 : w.heap.size < w'.heap.size := hbw.lt
  have ca2 := fun n => HCA.out _ (hcw.drewN n)
  have cz2 := fun n => HCZ.out _ (hcw.drewN n)
  have hm1 : (0 : Int) ≤ min (na : Int) 24 := by omega
  have hm2 : min (na : Int) 24 ≤ (ca : Int) := by omega
  have hm3 : (0 : Int) ≤ min (nz : Int) 24 := by omega
  have hm4 : min (nz : Int) 24 ≤ (cz : Int) := by omega
  have HCW := Lib.hid hcw
  have HBW := Lib.hid hbw
  have HLT := Lib.hid hlt0
  clear hcw hbw hC hlb HC HCA HCZ hlt0
  go_quiet (fail)
  clear ca2 cz2
  go_wp2_with fail
  obtain ⟨B, hB⟩ : ∃ B, w.heap.size = B := ⟨_, rfl⟩
  rw [hB] at HBW HLT ⊢
  have hcw0 := HCW.out.drewN nq
  have hbw0 := HBW.out.drewN nq
  obtain ⟨W0, hW0⟩ : ∃ W, w'.drewN nq = W := ⟨_, rfl⟩
  rw [hW0] at hcw0 hbw0 ⊢
  have HCW0 := Lib.hid hcw0.drew
  have HS0 := Lib.hid (show W0.drew.cell? ⟨B, 0, none⟩ = some (.int .u32 (e0 : Int)) ∧ W0.drew.cell? ⟨B, 1, none⟩ = some (.int .u32 (e1 : Int)) from ⟨hbw0.cell 0, hbw0.cell 1⟩)
  have HLT2 := Lib.hid (show B < W0.drew.heap.size from hbw0.lt)
  clear hW0 hcw0 hbw0
  clear HCW HBW HLT
  go_region_held3 (fun w' => w'.cell? ⟨B, 0, none⟩ = some (.int .u32 (e0 : Int)) ∧ w'.cell? ⟨B, 1, none⟩ = some (.int .u32 (e1 : Int)))
    (first
      | (with_reducible exact HS0.out)
      | (with_reducible exact keep2 HY.out HLT2.out HS0.out)
      | (with_reducible exact keep2 HX.out HLT2.out HS0.out)
      | go_keep)
    (first
      | (go_at_call 29; with_reducible refine (G1.out _).mono ?_; rintro e wb ⟨rfl, hCb⟩; have HY := Lib.hid (HX.out.step0 hCb (Nat.le_refl _)); clear hCb HX)
      | (go_at_call 29; with_reducible refine (G2.out _).mono ?_; rintro e wb ⟨rfl, hCb⟩; have HY := Lib.hid (HX.out.step0 hCb (Nat.le_refl _)); clear hCb HX)
      | (go_at_call 29; with_reducible refine (G1.out _).mono ?_; rintro e wa ⟨rfl, hCa⟩; have HX := Lib.hid hCa; clear hCa)
      | (go_at_call 29; with_reducible refine (G2.out _).mono ?_; rintro e wa ⟨rfl, hCa⟩; have HX := Lib.hid hCa; clear hCa))
  all_goals
    have HC := Lib.hid (HCW0.out.trans (HY.out.mono HCW0.out.size (fun _ _ q => q)))
    clear HY HS0 HLT2 HCW0
    go_wp2_with (first
    | (go_at_call 25; with_reducible refine (H1.out _).mono ?_; rintro e w' ⟨rfl, hC⟩; have HC2 := Lib.hid (HC.out.trans (hC.mono HC.out.size (fun _ _ q => q))); clear hC HC; have HC := HC2; clear HC2)
    | (go_at_call 25; with_reducible refine (H2.out _).mono ?_; rintro e w' ⟨rfl, hC⟩; have HC2 := Lib.hid (HC.out.trans (hC.mono HC.out.size (fun _ _ q => q))); clear hC HC; have HC := HC2; clear HC2)
    | (go_at_call 25; with_reducible refine (H3.out _).mono ?_; rintro e w' ⟨rfl, hC⟩; have HC2 := Lib.hid (HC.out.trans (hC.mono HC.out.size (fun _ _ q => q))); clear hC HC; have HC := HC2; clear HC2)
    | (go_at_call 31; with_reducible refine (H4.out _).mono ?_; rintro e w' ⟨rfl, hC⟩; have HC2 := Lib.hid (HC.out.trans (hC.mono HC.out.size (fun _ _ q => q))); clear hC HC; have HC := HC2; clear HC2)
    | (go_at_call 25; with_reducible refine (H7.out _).mono ?_; rintro e w' ⟨rfl, hC⟩; have HC2 := Lib.hid (HC.out.trans (hC.mono HC.out.size (fun _ _ q => q))); clear hC HC; have HC := HC2; clear HC2)
    | (go_at_call 34; with_reducible refine (H8.out _).mono ?_; rintro e w' ⟨rfl, hC⟩; have HC2 := Lib.hid (HC.out.trans (hC.mono HC.out.size (fun _ _ q => q))); clear hC HC; have HC := HC2; clear HC2)
    | (go_at_call 15; with_reducible refine (H9.out _).mono ?_; rintro e w' ⟨rfl, hC⟩; have HC2 := Lib.hid (HC.out.trans (hC.mono HC.out.size (fun _ _ q => q))); clear hC HC; have HC := HC2; clear HC2)
    | (go_at_call 29; with_reducible refine (G3.out _).mono ?_; rintro e w' ⟨rfl, hC⟩; have HC2 := Lib.hid (HC.out.trans (hC.mono HC.out.size (fun _ _ q => q))); clear hC HC; have HC := HC2; clear HC2)
    | (go_at_call 29; with_reducible refine (G4.out _).mono ?_; rintro e w' ⟨rfl, hC⟩; have HC2 := Lib.hid (HC.out.trans (hC.mono HC.out.size (fun _ _ q => q))); clear hC HC; have HC := HC2; clear HC2))
  all_goals
    go_ret
    exact ⟨rfl, HC.out⟩
set_option maxRecDepth 100000 in
set_option maxHeartbeats 3200000 in
theorem fer_ss_zu (xa : Addr) (na ca : Nat) (hna : na ≤ ca) (_hca : ca ≤ 9223372036854775807) (xz : Addr) (nz cz : Nat) (hnz : nz ≤ cz) (_hcz : cz ≤ 9223372036854775807) (e0 e1 : Nat) (a z : List UInt8) (w : World) (ka : a.length ≤ 24) (kz : z.length ≤ 24) (he0 : e0 < 4294967296) (he1 : e1 < 4294967296)
    (ht : pow10Is w) (hz : bv z = 0) (hr : ¬ bv a % 2305843009213691579 = 0)
    (hca' : ∀ w', Ch w.heap.size none1 w w' → (convert 22 24 (.slice (some xa) (min (na : Int) 24).toNat ca)).run Tryd.prog w' = .ok (S a) w')
    (hcz' : ∀ w', Ch w.heap.size none1 w w' → (convert 22 24 (.slice (some xz) (min (nz : Int) 24).toNat cz)).run Tryd.prog w' = .ok (S z) w') :
    Calls Tryd.prog 10 #[.slice (some xa) na ca, .agg #[.int .u32 (e0 : Int), .int .u32 (e1 : Int)], .slice (some xz) nz cz] w (Yld w (.bool true)) := by
  have la : a.length ≤ 10000 := by omega
  have lz : z.length ≤ 10000 := by omega
  obtain ⟨u, eu, vu⟩ := has_nb e0
  obtain ⟨v, ev', vv⟩ := has_nb e1
  obtain ⟨uv, euv, vuv⟩ := has_nb (e0 + e1)
  have lu := nbl 5 eu (by omega) (by decide)
  have lv := nbl 5 ev' (by omega) (by decide)
  have luv := nbl 5 euv (by omega) (by decide)
  obtain ⟨L, hL⟩ : ∃ L, L = 2305843009213691579 := ⟨_, rfl⟩
  rw [← hL] at hr
  obtain ⟨pl, epl, vpl⟩ := has_nb L
  obtain ⟨pm, epm, vpm⟩ := has_nb (L - 1)
  have lpl := nbl 8 epl (by rw [hL]; decide) (by decide)
  have lpm := nbl 8 epm (by rw [hL]; decide) (by decide)
  have hplp : 0 < bv pl := by rw [vpl, hL]; decide
  have hF := fermat_large L hL (bv a)
  have hL1 : 1 < L := by rw [hL]; decide
  have hkb : (nbits (bv z) : Int) = 0 := by rw [hz, nbits_zero]; rfl
  have hone : bv a ^ bv pm % bv pl = 1 := by rw [vpm, vpl]; exact hF hr
  have hnb1 : nb 1 = [1] := by rw [nb_is [1] 1 (by decide) (by decide)]
  obtain ⟨pq2, epq2, vpq2⟩ := has_nb (bv a / bv pl)
  obtain ⟨pr, epr, vpr⟩ := has_nb (bv a % bv pl)
  have hpr : ¬ pr = [] := fun h => by rw [h, vpl] at vpr; exact hr vpr.symm
  obtain ⟨r0, rs, rfl⟩ : ∃ r0 rs, pr = r0 :: rs := by
    cases pr with
    | nil => exact absurd rfl hpr
    | cons r0 rs => exact ⟨r0, rs, rfl⟩
  have g1 := (C_refOf (n := IntKind.i64.wrap (e0 : Int)) (l := u) (by rw [IntWalk.i64_in _ (by omega)]; exact eu) (by rw [IntWalk.i64_in _ (by omega)]; omega) (by rw [IntWalk.i64_in _ (by omega)]; omega))
  have g2 := (C_refOf (n := IntKind.i64.wrap (e1 : Int)) (l := v) (by rw [IntWalk.i64_in _ (by omega)]; exact ev') (by rw [IntWalk.i64_in _ (by omega)]; omega) (by rw [IntWalk.i64_in _ (by omega)]; omega))
  have g3 := (C_refOf (n := 2305843009213691579) (l := pl) (by rw [← epl, hL]; rfl) (by decide) (by decide))
  have g4 := (C_refOf (n := 2305843009213691578) (l := pm) (by rw [← epm, hL]; rfl) (by decide) (by decide))
  have h1 := C_pow_no (a := a) (e := u) lz hz
  have h2 := C_pow_no (a := a) (e := v) lz hz
  have h3 := C_pow_no (a := a) (e := uv) lz hz
  have h4 := C_bits lz hkb
  have h7 := C_pow hnb1 la lpm lpl hplp hone
  have h8 := C_quo epq2 epr la lpl hplp rfl rfl
  have h9 := C_add euv lu lv (by rw [vu, vv])
  have HS := Lib.hid (sanity_all w ht)
  have HCA := Lib.hid hca'
  have HCZ := Lib.hid hcz'
  have G1 := Lib.hid g1
  have G2 := Lib.hid g2
  have G3 := Lib.hid g3
  have G4 := Lib.hid g4
  have H1 := Lib.hid h1
  have H2 := Lib.hid h2
  have H3 := Lib.hid h3
  have H4 := Lib.hid h4
  have H7 := Lib.hid h7
  have H8 := Lib.hid h8
  have H9 := Lib.hid h9
  clear g1 g2 g3 g4 h1 h2 h3 h4 h7 h8 h9 hca' hcz' ht ka kz la lz eu vu ev' vv euv vuv lu lv luv epl vpl epm vpm lpl lpm hplp hF hL hL1 hone epq2 vpq2 hkb hz hnb1 epr vpr hpr hr
  have HC := Lib.hid (Ch.refl w.heap.size none1 w)
  go_enter Tryd.func10, Tryd.ntmps10
  have hlb := Blk.new w #[Value.int .u32 (e0 : Int), .int .u32 (e1 : Int)] 48
  go_wp2_with (first
    | (go_at_call 11; with_reducible refine (HS.out _ (HC.out.alloc (Nat.le_refl _) _)).mono ?_; rintro e w' ⟨rfl, hC⟩))
  have hcw := (HC.out.alloc (Nat.le_refl _) (.cells #[Value.int .u32 (e0 : Int), .int .u32 (e1 : Int)] 48 (0, 0))).trans (hC.mono (size_alloc_le _ (Nat.le_refl _)) (fun _ _ q => q))
  have hbw := hC.blk hlb (Blk.lt hlb) (fun q => q)
  have hlt0 : w.heap.size < w'.heap.size := hbw.lt
  have ca2 := fun n => HCA.out _ (hcw.drewN n)
  have cz2 := fun n => HCZ.out _ (hcw.drewN n)
  have hm1 : (0 : Int) ≤ min (na : Int) 24 := by omega
  have hm2 : min (na : Int) 24 ≤ (ca : Int) := by omega
  have hm3 : (0 : Int) ≤ min (nz : Int) 24 := by omega
  have hm4 : min (nz : Int) 24 ≤ (cz : Int) := by omega
  have HCW := Lib.hid hcw
  have HBW := Lib.hid hbw
  have HLT := Lib.hid hlt0
  clear hcw hbw hC hlb HC HCA HCZ hlt0
  go_quiet (fail)
  clear ca2 cz2
  go_wp2_with fail
  obtain ⟨B, hB⟩ : ∃ B, w.heap.size = B := ⟨_, rfl⟩
  rw [hB] at HBW HLT ⊢
  have hcw0 := HCW.out.drewN nq
  have hbw0 := HBW.out.drewN nq
  obtain ⟨W0, hW0⟩ : ∃ W, w'.drewN nq = W := ⟨_, rfl⟩
  rw [hW0] at hcw0 hbw0 ⊢
  have HCW0 := Lib.hid hcw0.drew
  have HS0 := Lib.hid (show W0.drew.cell? ⟨B, 0, none⟩ = some (.int .u32 (e0 : Int)) ∧ W0.drew.cell? ⟨B, 1, none⟩ = some (.int .u32 (e1 : Int)) from ⟨hbw0.cell 0, hbw0.cell 1⟩)
  have HLT2 := Lib.hid (show B < W0.drew.heap.size from hbw0.lt)
  clear hW0 hcw0 hbw0
  clear HCW HBW HLT
  go_region_held3 (fun w' => w'.cell? ⟨B, 0, none⟩ = some (.int .u32 (e0 : Int)) ∧ w'.cell? ⟨B, 1, none⟩ = some (.int .u32 (e1 : Int)))
    (first
      | (with_reducible exact HS0.out)
      | (with_reducible exact keep2 HY.out HLT2.out HS0.out)
      | (with_reducible exact keep2 HX.out HLT2.out HS0.out)
      | go_keep)
    (first
      | (go_at_call 29; with_reducible refine (G1.out _).mono ?_; rintro e wb ⟨rfl, hCb⟩; have HY := Lib.hid (HX.out.step0 hCb (Nat.le_refl _)); clear hCb HX)
      | (go_at_call 29; with_reducible refine (G2.out _).mono ?_; rintro e wb ⟨rfl, hCb⟩; have HY := Lib.hid (HX.out.step0 hCb (Nat.le_refl _)); clear hCb HX)
      | (go_at_call 29; with_reducible refine (G1.out _).mono ?_; rintro e wa ⟨rfl, hCa⟩; have HX := Lib.hid hCa; clear hCa)
      | (go_at_call 29; with_reducible refine (G2.out _).mono ?_; rintro e wa ⟨rfl, hCa⟩; have HX := Lib.hid hCa; clear hCa))
  all_goals
    have HC := Lib.hid (HCW0.out.trans (HY.out.mono HCW0.out.size (fun _ _ q => q)))
    clear HY HS0 HLT2 HCW0
    go_wp2_with (first
    | (go_at_call 25; with_reducible refine (H1.out _).mono ?_; rintro e w' ⟨rfl, hC⟩; have HC2 := Lib.hid (HC.out.trans (hC.mono HC.out.size (fun _ _ q => q))); clear hC HC; have HC := HC2; clear HC2)
    | (go_at_call 25; with_reducible refine (H2.out _).mono ?_; rintro e w' ⟨rfl, hC⟩; have HC2 := Lib.hid (HC.out.trans (hC.mono HC.out.size (fun _ _ q => q))); clear hC HC; have HC := HC2; clear HC2)
    | (go_at_call 25; with_reducible refine (H3.out _).mono ?_; rintro e w' ⟨rfl, hC⟩; have HC2 := Lib.hid (HC.out.trans (hC.mono HC.out.size (fun _ _ q => q))); clear hC HC; have HC := HC2; clear HC2)
    | (go_at_call 31; with_reducible refine (H4.out _).mono ?_; rintro e w' ⟨rfl, hC⟩; have HC2 := Lib.hid (HC.out.trans (hC.mono HC.out.size (fun _ _ q => q))); clear hC HC; have HC := HC2; clear HC2)
    | (go_at_call 25; with_reducible refine (H7.out _).mono ?_; rintro e w' ⟨rfl, hC⟩; have HC2 := Lib.hid (HC.out.trans (hC.mono HC.out.size (fun _ _ q => q))); clear hC HC; have HC := HC2; clear HC2)
    | (go_at_call 34; with_reducible refine (H8.out _).mono ?_; rintro e w' ⟨rfl, hC⟩; have HC2 := Lib.hid (HC.out.trans (hC.mono HC.out.size (fun _ _ q => q))); clear hC HC; have HC := HC2; clear HC2)
    | (go_at_call 15; with_reducible refine (H9.out _).mono ?_; rintro e w' ⟨rfl, hC⟩; have HC2 := Lib.hid (HC.out.trans (hC.mono HC.out.size (fun _ _ q => q))); clear hC HC; have HC := HC2; clear HC2)
    | (go_at_call 29; with_reducible refine (G3.out _).mono ?_; rintro e w' ⟨rfl, hC⟩; have HC2 := Lib.hid (HC.out.trans (hC.mono HC.out.size (fun _ _ q => q))); clear hC HC; have HC := HC2; clear HC2)
    | (go_at_call 29; with_reducible refine (G4.out _).mono ?_; rintro e w' ⟨rfl, hC⟩; have HC2 := Lib.hid (HC.out.trans (hC.mono HC.out.size (fun _ _ q => q))); clear hC HC; have HC := HC2; clear HC2))
  all_goals
    go_ret
    exact ⟨rfl, HC.out⟩
set_option maxRecDepth 100000 in
set_option maxHeartbeats 3200000 in
theorem fer_sn_zd (xa : Addr) (na ca : Nat) (hna : na ≤ ca) (_hca : ca ≤ 9223372036854775807) (e0 e1 : Nat) (a z : List UInt8) (w : World) (ka : a.length ≤ 24) (kz : z.length ≤ 24) (he0 : e0 < 4294967296) (he1 : e1 < 4294967296)
    (ht : pow10Is w) (hz : bv z = 0) (hr : bv a % 2305843009213691579 = 0)
    (hca' : ∀ w', Ch w.heap.size none1 w w' → (convert 22 24 (.slice (some xa) (min (na : Int) 24).toNat ca)).run Tryd.prog w' = .ok (S a) w')
    (hcz' : ∀ w', Ch w.heap.size none1 w w' → (convert 22 24 (.slice none (min (0:Int) 24).toNat 0)).run Tryd.prog w' = .ok (S z) w') :
    Calls Tryd.prog 10 #[.slice (some xa) na ca, .agg #[.int .u32 (e0 : Int), .int .u32 (e1 : Int)], .slice none 0 0] w (Yld w (.bool true)) := by
  have la : a.length ≤ 10000 := by omega
  have lz : z.length ≤ 10000 := by omega
  obtain ⟨u, eu, vu⟩ := has_nb e0
  obtain ⟨v, ev', vv⟩ := has_nb e1
  obtain ⟨uv, euv, vuv⟩ := has_nb (e0 + e1)
  have lu := nbl 5 eu (by omega) (by decide)
  have lv := nbl 5 ev' (by omega) (by decide)
  have luv := nbl 5 euv (by omega) (by decide)
  obtain ⟨L, hL⟩ : ∃ L, L = 2305843009213691579 := ⟨_, rfl⟩
  rw [← hL] at hr
  obtain ⟨pl, epl, vpl⟩ := has_nb L
  obtain ⟨pm, epm, vpm⟩ := has_nb (L - 1)
  have lpl := nbl 8 epl (by rw [hL]; decide) (by decide)
  have lpm := nbl 8 epm (by rw [hL]; decide) (by decide)
  have hplp : 0 < bv pl := by rw [vpl, hL]; decide
  have hF := fermat_large L hL (bv a)
  have hL1 : 1 < L := by rw [hL]; decide
  have hkb : (nbits (bv z) : Int) = 0 := by rw [hz, nbits_zero]; rfl
  have hone : bv a ^ bv pm % bv pl = 0 := by rw [vpm, vpl, Nat.pow_mod, hr, Nat.zero_pow (by omega), Nat.zero_mod]
  obtain ⟨pq2, epq2, vpq2⟩ := has_nb (bv a / bv pl)
  have hrr : bv a % bv pl = 0 := by rw [vpl]; exact hr
  have g1 := (C_refOf (n := IntKind.i64.wrap (e0 : Int)) (l := u) (by rw [IntWalk.i64_in _ (by omega)]; exact eu) (by rw [IntWalk.i64_in _ (by omega)]; omega) (by rw [IntWalk.i64_in _ (by omega)]; omega))
  have g2 := (C_refOf (n := IntKind.i64.wrap (e1 : Int)) (l := v) (by rw [IntWalk.i64_in _ (by omega)]; exact ev') (by rw [IntWalk.i64_in _ (by omega)]; omega) (by rw [IntWalk.i64_in _ (by omega)]; omega))
  have g3 := (C_refOf (n := 2305843009213691579) (l := pl) (by rw [← epl, hL]; rfl) (by decide) (by decide))
  have g4 := (C_refOf (n := 2305843009213691578) (l := pm) (by rw [← epm, hL]; rfl) (by decide) (by decide))
  have h1 := C_pow_no (a := a) (e := u) lz hz
  have h2 := C_pow_no (a := a) (e := v) lz hz
  have h3 := C_pow_no (a := a) (e := uv) lz hz
  have h4 := C_bits lz hkb
  have h7 := C_pow nb_zero la lpm lpl hplp hone
  have h8 := C_quo epq2 nb_zero la lpl hplp rfl hrr
  have h9 := C_add euv lu lv (by rw [vu, vv])
  have HS := Lib.hid (sanity_all w ht)
  have HCA := Lib.hid hca'
  have HCZ := Lib.hid hcz'
  have G1 := Lib.hid g1
  have G2 := Lib.hid g2
  have G3 := Lib.hid g3
  have G4 := Lib.hid g4
  have H1 := Lib.hid h1
  have H2 := Lib.hid h2
  have H3 := Lib.hid h3
  have H4 := Lib.hid h4
  have H7 := Lib.hid h7
  have H8 := Lib.hid h8
  have H9 := Lib.hid h9
  clear g1 g2 g3 g4 h1 h2 h3 h4 h7 h8 h9 hca' hcz' ht ka kz la lz eu vu ev' vv euv vuv lu lv luv epl vpl epm vpm lpl lpm hplp hF hL hL1 hone epq2 vpq2 hkb hz hrr hr
  have HC := Lib.hid (Ch.refl w.heap.size none1 w)
  go_enter Tryd.func10, Tryd.ntmps10
  have hlb := Blk.new w #[Value.int .u32 (e0 : Int), .int .u32 (e1 : Int)] 48
  go_wp2_with (first
    | (go_at_call 11; with_reducible refine (HS.out _ (HC.out.alloc (Nat.le_refl _) _)).mono ?_; rintro e w' ⟨rfl, hC⟩))
  have hcw := (HC.out.alloc (Nat.le_refl _) (.cells #[Value.int .u32 (e0 : Int), .int .u32 (e1 : Int)] 48 (0, 0))).trans (hC.mono (size_alloc_le _ (Nat.le_refl _)) (fun _ _ q => q))
  have hbw := hC.blk hlb (Blk.lt hlb) (fun q => q)
  have hlt0 : w.heap.size < w'.heap.size := hbw.lt
  have ca2 := fun n => HCA.out _ (hcw.drewN n)
  have cz2 := fun n => HCZ.out _ (hcw.drewN n)
  have hm1 : (0 : Int) ≤ min (na : Int) 24 := by omega
  have hm2 : min (na : Int) 24 ≤ (ca : Int) := by omega
  have HCW := Lib.hid hcw
  have HBW := Lib.hid hbw
  have HLT := Lib.hid hlt0
  clear hcw hbw hC hlb HC HCA HCZ hlt0
  go_quiet (fail)
  clear ca2 cz2
  go_wp2_with fail
  obtain ⟨B, hB⟩ : ∃ B, w.heap.size = B := ⟨_, rfl⟩
  rw [hB] at HBW HLT ⊢
  have hcw0 := HCW.out.drewN nq
  have hbw0 := HBW.out.drewN nq
  obtain ⟨W0, hW0⟩ : ∃ W, w'.drewN nq = W := ⟨_, rfl⟩
  rw [hW0] at hcw0 hbw0 ⊢
  have HCW0 := Lib.hid hcw0.drew
  have HS0 := Lib.hid (show W0.drew.cell? ⟨B, 0, none⟩ = some (.int .u32 (e0 : Int)) ∧ W0.drew.cell? ⟨B, 1, none⟩ = some (.int .u32 (e1 : Int)) from ⟨hbw0.cell 0, hbw0.cell 1⟩)
  have HLT2 := Lib.hid (show B < W0.drew.heap.size from hbw0.lt)
  clear hW0 hcw0 hbw0
  clear HCW HBW HLT
  go_region_held3 (fun w' => w'.cell? ⟨B, 0, none⟩ = some (.int .u32 (e0 : Int)) ∧ w'.cell? ⟨B, 1, none⟩ = some (.int .u32 (e1 : Int)))
    (first
      | (with_reducible exact HS0.out)
      | (with_reducible exact keep2 HY.out HLT2.out HS0.out)
      | (with_reducible exact keep2 HX.out HLT2.out HS0.out)
      | go_keep)
    (first
      | (go_at_call 29; with_reducible refine (G1.out _).mono ?_; rintro e wb ⟨rfl, hCb⟩; have HY := Lib.hid (HX.out.step0 hCb (Nat.le_refl _)); clear hCb HX)
      | (go_at_call 29; with_reducible refine (G2.out _).mono ?_; rintro e wb ⟨rfl, hCb⟩; have HY := Lib.hid (HX.out.step0 hCb (Nat.le_refl _)); clear hCb HX)
      | (go_at_call 29; with_reducible refine (G1.out _).mono ?_; rintro e wa ⟨rfl, hCa⟩; have HX := Lib.hid hCa; clear hCa)
      | (go_at_call 29; with_reducible refine (G2.out _).mono ?_; rintro e wa ⟨rfl, hCa⟩; have HX := Lib.hid hCa; clear hCa))
  all_goals
    have HC := Lib.hid (HCW0.out.trans (HY.out.mono HCW0.out.size (fun _ _ q => q)))
    clear HY HS0 HLT2 HCW0
    go_wp2_with (first
    | (go_at_call 25; with_reducible refine (H1.out _).mono ?_; rintro e w' ⟨rfl, hC⟩; have HC2 := Lib.hid (HC.out.trans (hC.mono HC.out.size (fun _ _ q => q))); clear hC HC; have HC := HC2; clear HC2)
    | (go_at_call 25; with_reducible refine (H2.out _).mono ?_; rintro e w' ⟨rfl, hC⟩; have HC2 := Lib.hid (HC.out.trans (hC.mono HC.out.size (fun _ _ q => q))); clear hC HC; have HC := HC2; clear HC2)
    | (go_at_call 25; with_reducible refine (H3.out _).mono ?_; rintro e w' ⟨rfl, hC⟩; have HC2 := Lib.hid (HC.out.trans (hC.mono HC.out.size (fun _ _ q => q))); clear hC HC; have HC := HC2; clear HC2)
    | (go_at_call 31; with_reducible refine (H4.out _).mono ?_; rintro e w' ⟨rfl, hC⟩; have HC2 := Lib.hid (HC.out.trans (hC.mono HC.out.size (fun _ _ q => q))); clear hC HC; have HC := HC2; clear HC2)
    | (go_at_call 25; with_reducible refine (H7.out _).mono ?_; rintro e w' ⟨rfl, hC⟩; have HC2 := Lib.hid (HC.out.trans (hC.mono HC.out.size (fun _ _ q => q))); clear hC HC; have HC := HC2; clear HC2)
    | (go_at_call 34; with_reducible refine (H8.out _).mono ?_; rintro e w' ⟨rfl, hC⟩; have HC2 := Lib.hid (HC.out.trans (hC.mono HC.out.size (fun _ _ q => q))); clear hC HC; have HC := HC2; clear HC2)
    | (go_at_call 15; with_reducible refine (H9.out _).mono ?_; rintro e w' ⟨rfl, hC⟩; have HC2 := Lib.hid (HC.out.trans (hC.mono HC.out.size (fun _ _ q => q))); clear hC HC; have HC := HC2; clear HC2)
    | (go_at_call 29; with_reducible refine (G3.out _).mono ?_; rintro e w' ⟨rfl, hC⟩; have HC2 := Lib.hid (HC.out.trans (hC.mono HC.out.size (fun _ _ q => q))); clear hC HC; have HC := HC2; clear HC2)
    | (go_at_call 29; with_reducible refine (G4.out _).mono ?_; rintro e w' ⟨rfl, hC⟩; have HC2 := Lib.hid (HC.out.trans (hC.mono HC.out.size (fun _ _ q => q))); clear hC HC; have HC := HC2; clear HC2))
  all_goals
    go_ret
    exact ⟨rfl, HC.out⟩
set_option maxRecDepth 100000 in
set_option maxHeartbeats 3200000 in
theorem fer_sn_zu (xa : Addr) (na ca : Nat) (hna : na ≤ ca) (_hca : ca ≤ 9223372036854775807) (e0 e1 : Nat) (a z : List UInt8) (w : World) (ka : a.length ≤ 24) (kz : z.length ≤ 24) (he0 : e0 < 4294967296) (he1 : e1 < 4294967296)
    (ht : pow10Is w) (hz : bv z = 0) (hr : ¬ bv a % 2305843009213691579 = 0)
    (hca' : ∀ w', Ch w.heap.size none1 w w' → (convert 22 24 (.slice (some xa) (min (na : Int) 24).toNat ca)).run Tryd.prog w' = .ok (S a) w')
    (hcz' : ∀ w', Ch w.heap.size none1 w w' → (convert 22 24 (.slice none (min (0:Int) 24).toNat 0)).run Tryd.prog w' = .ok (S z) w') :
    Calls Tryd.prog 10 #[.slice (some xa) na ca, .agg #[.int .u32 (e0 : Int), .int .u32 (e1 : Int)], .slice none 0 0] w (Yld w (.bool true)) := by
  have la : a.length ≤ 10000 := by omega
  have lz : z.length ≤ 10000 := by omega
  obtain ⟨u, eu, vu⟩ := has_nb e0
  obtain ⟨v, ev', vv⟩ := has_nb e1
  obtain ⟨uv, euv, vuv⟩ := has_nb (e0 + e1)
  have lu := nbl 5 eu (by omega) (by decide)
  have lv := nbl 5 ev' (by omega) (by decide)
  have luv := nbl 5 euv (by omega) (by decide)
  obtain ⟨L, hL⟩ : ∃ L, L = 2305843009213691579 := ⟨_, rfl⟩
  rw [← hL] at hr
  obtain ⟨pl, epl, vpl⟩ := has_nb L
  obtain ⟨pm, epm, vpm⟩ := has_nb (L - 1)
  have lpl := nbl 8 epl (by rw [hL]; decide) (by decide)
  have lpm := nbl 8 epm (by rw [hL]; decide) (by decide)
  have hplp : 0 < bv pl := by rw [vpl, hL]; decide
  have hF := fermat_large L hL (bv a)
  have hL1 : 1 < L := by rw [hL]; decide
  have hkb : (nbits (bv z) : Int) = 0 := by rw [hz, nbits_zero]; rfl
  have hone : bv a ^ bv pm % bv pl = 1 := by rw [vpm, vpl]; exact hF hr
  have hnb1 : nb 1 = [1] := by rw [nb_is [1] 1 (by decide) (by decide)]
  obtain ⟨pq2, epq2, vpq2⟩ := has_nb (bv a / bv pl)
  obtain ⟨pr, epr, vpr⟩ := has_nb (bv a % bv pl)
  have hpr : ¬ pr = [] := fun h => by rw [h, vpl] at vpr; exact hr vpr.symm
  obtain ⟨r0, rs, rfl⟩ : ∃ r0 rs, pr = r0 :: rs := by
    cases pr with
    | nil => exact absurd rfl hpr
    | cons r0 rs => exact ⟨r0, rs, rfl⟩
  have g1 := (C_refOf (n := IntKind.i64.wrap (e0 : Int)) (l := u) (by rw [IntWalk.i64_in _ (by omega)]; exact eu) (by rw [IntWalk.i64_in _ (by omega)]; omega) (by rw [IntWalk.i64_in _ (by omega)]; omega))
  have g2 := (C_refOf (n := IntKind.i64.wrap (e1 : Int)) (l := v) (by rw [IntWalk.i64_in _ (by omega)]; exact ev') (by rw [IntWalk.i64_in _ (by omega)]; omega) (by rw [IntWalk.i64_in _ (by omega)]; omega))
  have g3 := (C_refOf (n := 2305843009213691579) (l := pl) (by rw [← epl, hL]; rfl) (by decide) (by decide))
  have g4 := (C_refOf (n := 2305843009213691578) (l := pm) (by rw [← epm, hL]; rfl) (by decide) (by decide))
  have h1 := C_pow_no (a := a) (e := u) lz hz
  have h2 := C_pow_no (a := a) (e := v) lz hz
  have h3 := C_pow_no (a := a) (e := uv) lz hz
  have h4 := C_bits lz hkb
  have h7 := C_pow hnb1 la lpm lpl hplp hone
  have h8 := C_quo epq2 epr la lpl hplp rfl rfl
  have h9 := C_add euv lu lv (by rw [vu, vv])
  have HS := Lib.hid (sanity_all w ht)
  have HCA := Lib.hid hca'
  have HCZ := Lib.hid hcz'
  have G1 := Lib.hid g1
  have G2 := Lib.hid g2
  have G3 := Lib.hid g3
  have G4 := Lib.hid g4
  have H1 := Lib.hid h1
  have H2 := Lib.hid h2
  have H3 := Lib.hid h3
  have H4 := Lib.hid h4
  have H7 := Lib.hid h7
  have H8 := Lib.hid h8
  have H9 := Lib.hid h9
  clear g1 g2 g3 g4 h1 h2 h3 h4 h7 h8 h9 hca' hcz' ht ka kz la lz eu vu ev' vv euv vuv lu lv luv epl vpl epm vpm lpl lpm hplp hF hL hL1 hone epq2 vpq2 hkb hz hnb1 epr vpr hpr hr
  have HC := Lib.hid (Ch.refl w.heap.size none1 w)
  go_enter Tryd.func10, Tryd.ntmps10
  have hlb := Blk.new w #[Value.int .u32 (e0 : Int), .int .u32 (e1 : Int)] 48
  go_wp2_with (first
    | (go_at_call 11; with_reducible refine (HS.out _ (HC.out.alloc (Nat.le_refl _) _)).mono ?_; rintro e w' ⟨rfl, hC⟩))
  have hcw := (HC.out.alloc (Nat.le_refl _) (.cells #[Value.int .u32 (e0 : Int), .int .u32 (e1 : Int)] 48 (0, 0))).trans (hC.mono (size_alloc_le _ (Nat.le_refl _)) (fun _ _ q => q))
  have hbw := hC.blk hlb (Blk.lt hlb) (fun q => q)
  have hlt0 : w.heap.size < w'.heap.size := hbw.lt
  have ca2 := fun n => HCA.out _ (hcw.drewN n)
  have cz2 := fun n => HCZ.out _ (hcw.drewN n)
  have hm1 : (0 : Int) ≤ min (na : Int) 24 := by omega
  have hm2 : min (na : Int) 24 ≤ (ca : Int) := by omega
  have HCW := Lib.hid hcw
  have HBW := Lib.hid hbw
  have HLT := Lib.hid hlt0
  clear hcw hbw hC hlb HC HCA HCZ hlt0
  go_quiet (fail)
  clear ca2 cz2
  go_wp2_with fail
  obtain ⟨B, hB⟩ : ∃ B, w.heap.size = B := ⟨_, rfl⟩
  rw [hB] at HBW HLT ⊢
  have hcw0 := HCW.out.drewN nq
  have hbw0 := HBW.out.drewN nq
  obtain ⟨W0, hW0⟩ : ∃ W, w'.drewN nq = W := ⟨_, rfl⟩
  rw [hW0] at hcw0 hbw0 ⊢
  have HCW0 := Lib.hid hcw0.drew
  have HS0 := Lib.hid (show W0.drew.cell? ⟨B, 0, none⟩ = some (.int .u32 (e0 : Int)) ∧ W0.drew.cell? ⟨B, 1, none⟩ = some (.int .u32 (e1 : Int)) from ⟨hbw0.cell 0, hbw0.cell 1⟩)
  have HLT2 := Lib.hid (show B < W0.drew.heap.size from hbw0.lt)
  clear hW0 hcw0 hbw0
  clear HCW HBW HLT
  go_region_held3 (fun w' => w'.cell? ⟨B, 0, none⟩ = some (.int .u32 (e0 : Int)) ∧ w'.cell? ⟨B, 1, none⟩ = some (.int .u32 (e1 : Int)))
    (first
      | (with_reducible exact HS0.out)
      | (with_reducible exact keep2 HY.out HLT2.out HS0.out)
      | (with_reducible exact keep2 HX.out HLT2.out HS0.out)
      | go_keep)
    (first
      | (go_at_call 29; with_reducible refine (G1.out _).mono ?_; rintro e wb ⟨rfl, hCb⟩; have HY := Lib.hid (HX.out.step0 hCb (Nat.le_refl _)); clear hCb HX)
      | (go_at_call 29; with_reducible refine (G2.out _).mono ?_; rintro e wb ⟨rfl, hCb⟩; have HY := Lib.hid (HX.out.step0 hCb (Nat.le_refl _)); clear hCb HX)
      | (go_at_call 29; with_reducible refine (G1.out _).mono ?_; rintro e wa ⟨rfl, hCa⟩; have HX := Lib.hid hCa; clear hCa)
      | (go_at_call 29; with_reducible refine (G2.out _).mono ?_; rintro e wa ⟨rfl, hCa⟩; have HX := Lib.hid hCa; clear hCa))
  all_goals
    have HC := Lib.hid (HCW0.out.trans (HY.out.mono HCW0.out.size (fun _ _ q => q)))
    clear HY HS0 HLT2 HCW0
    go_wp2_with (first
    | (go_at_call 25; with_reducible refine (H1.out _).mono ?_; rintro e w' ⟨rfl, hC⟩; have HC2 := Lib.hid (HC.out.trans (hC.mono HC.out.size (fun _ _ q => q))); clear hC HC; have HC := HC2; clear HC2)
    | (go_at_call 25; with_reducible refine (H2.out _).mono ?_; rintro e w' ⟨rfl, hC⟩; have HC2 := Lib.hid (HC.out.trans (hC.mono HC.out.size (fun _ _ q => q))); clear hC HC; have HC := HC2; clear HC2)
    | (go_at_call 25; with_reducible refine (H3.out _).mono ?_; rintro e w' ⟨rfl, hC⟩; have HC2 := Lib.hid (HC.out.trans (hC.mono HC.out.size (fun _ _ q => q))); clear hC HC; have HC := HC2; clear HC2)
    | (go_at_call 31; with_reducible refine (H4.out _).mono ?_; rintro e w' ⟨rfl, hC⟩; have HC2 := Lib.hid (HC.out.trans (hC.mono HC.out.size (fun _ _ q => q))); clear hC HC; have HC := HC2; clear HC2)
    | (go_at_call 25; with_reducible refine (H7.out _).mono ?_; rintro e w' ⟨rfl, hC⟩; have HC2 := Lib.hid (HC.out.trans (hC.mono HC.out.size (fun _ _ q => q))); clear hC HC; have HC := HC2; clear HC2)
    | (go_at_call 34; with_reducible refine (H8.out _).mono ?_; rintro e w' ⟨rfl, hC⟩; have HC2 := Lib.hid (HC.out.trans (hC.mono HC.out.size (fun _ _ q => q))); clear hC HC; have HC := HC2; clear HC2)
    | (go_at_call 15; with_reducible refine (H9.out _).mono ?_; rintro e w' ⟨rfl, hC⟩; have HC2 := Lib.hid (HC.out.trans (hC.mono HC.out.size (fun _ _ q => q))); clear hC HC; have HC := HC2; clear HC2)
    | (go_at_call 29; with_reducible refine (G3.out _).mono ?_; rintro e w' ⟨rfl, hC⟩; have HC2 := Lib.hid (HC.out.trans (hC.mono HC.out.size (fun _ _ q => q))); clear hC HC; have HC := HC2; clear HC2)
    | (go_at_call 29; with_reducible refine (G4.out _).mono ?_; rintro e w' ⟨rfl, hC⟩; have HC2 := Lib.hid (HC.out.trans (hC.mono HC.out.size (fun _ _ q => q))); clear hC HC; have HC := HC2; clear HC2))
  all_goals
    go_ret
    exact ⟨rfl, HC.out⟩
set_option maxRecDepth 100000 in
set_option maxHeartbeats 3200000 in
theorem fer_ns_pd (xz : Addr) (nz cz : Nat) (hnz : nz ≤ cz) (_hcz : cz ≤ 9223372036854775807) (e0 e1 : Nat) (a z : List UInt8) (w : World) (ka : a.length ≤ 24) (kz : z.length ≤ 24) (he0 : e0 < 4294967296) (he1 : e1 < 4294967296)
    (ht : pow10Is w) (hz : 0 < bv z) (hr : bv a % 2305843009213691579 = 0)
    (hca' : ∀ w', Ch w.heap.size none1 w w' → (convert 22 24 (.slice none (min (0:Int) 24).toNat 0)).run Tryd.prog w' = .ok (S a) w')
    (hcz' : ∀ w', Ch w.heap.size none1 w w' → (convert 22 24 (.slice (some xz) (min (nz : Int) 24).toNat cz)).run Tryd.prog w' = .ok (S z) w') :
    Calls Tryd.prog 10 #[.slice none 0 0, .agg #[.int .u32 (e0 : Int), .int .u32 (e1 : Int)], .slice (some xz) nz cz] w (Yld w (.bool true)) := by
  have la : a.length ≤ 10000 := by omega
  have lz : z.length ≤ 10000 := by omega
  obtain ⟨u, eu, vu⟩ := has_nb e0
  obtain ⟨v, ev', vv⟩ := has_nb e1
  obtain ⟨uv, euv, vuv⟩ := has_nb (e0 + e1)
  have lu := nbl 5 eu (by omega) (by decide)
  have lv := nbl 5 ev' (by omega) (by decide)
  have luv := nbl 5 euv (by omega) (by decide)
  obtain ⟨L, hL⟩ : ∃ L, L = 2305843009213691579 := ⟨_, rfl⟩
  rw [← hL] at hr
  obtain ⟨pl, epl, vpl⟩ := has_nb L
  obtain ⟨pm, epm, vpm⟩ := has_nb (L - 1)
  have lpl := nbl 8 epl (by rw [hL]; decide) (by decide)
  have lpm := nbl 8 epm (by rw [hL]; decide) (by decide)
  have hplp : 0 < bv pl := by rw [vpl, hL]; decide
  have hF := fermat_large L hL (bv a)
  have hL1 : 1 < L := by rw [hL]; decide
  obtain ⟨pu, epu, vpu⟩ := has_nb (bv a ^ e0 % bv z)
  obtain ⟨pw, epw, vpw⟩ := has_nb (bv a ^ e1 % bv z)
  obtain ⟨pb, epb, vpb⟩ := has_nb (bv a ^ (e0 + e1) % bv z)
  have bz := bv_b kz
  have bpu : bv a ^ e0 % bv z < 256 ^ 24 := Nat.lt_trans (Nat.mod_lt _ hz) bz
  have bpw : bv a ^ e1 % bv z < 256 ^ 24 := Nat.lt_trans (Nat.mod_lt _ hz) bz
  have bpb : bv a ^ (e0 + e1) % bv z < 256 ^ 24 := Nat.lt_trans (Nat.mod_lt _ hz) bz
  have lpu := nbl _ epu bpu (by decide)
  have lpw := nbl _ epw bpw (by decide)
  obtain ⟨pp, epp, vpp⟩ := has_nb ((bv a ^ e0 % bv z) * (bv a ^ e1 % bv z))
  have lpp := nbl _ epp (mulb bpu bpw) (by decide)
  obtain ⟨pq, epq, vpq⟩ := has_nb (bv pp / bv z)
  have hsame : bv pp % bv z = bv a ^ (e0 + e1) % bv z := by rw [vpp, Nat.pow_add, ← Nat.mul_mod]
  obtain ⟨kb, hkb⟩ : ∃ k : Int, (nbits (bv z) : Int) = k := ⟨_, rfl⟩
  have hkb0 : 0 < kb := by have := nbits_posF hz; omega
  have hone : bv a ^ bv pm % bv pl = 0 := by rw [vpm, vpl, Nat.pow_mod, hr, Nat.zero_pow (by omega), Nat.zero_mod]
  obtain ⟨pq2, epq2, vpq2⟩ := has_nb (bv a / bv pl)
  have hrr : bv a % bv pl = 0 := by rw [vpl]; exact hr
  have g1 := (C_refOf (n := IntKind.i64.wrap (e0 : Int)) (l := u) (by rw [IntWalk.i64_in _ (by omega)]; exact eu) (by rw [IntWalk.i64_in _ (by omega)]; omega) (by rw [IntWalk.i64_in _ (by omega)]; omega))
  have g2 := (C_refOf (n := IntKind.i64.wrap (e1 : Int)) (l := v) (by rw [IntWalk.i64_in _ (by omega)]; exact ev') (by rw [IntWalk.i64_in _ (by omega)]; omega) (by rw [IntWalk.i64_in _ (by omega)]; omega))
  have g3 := (C_refOf (n := 2305843009213691579) (l := pl) (by rw [← epl, hL]; rfl) (by decide) (by decide))
  have g4 := (C_refOf (n := 2305843009213691578) (l := pm) (by rw [← epm, hL]; rfl) (by decide) (by decide))
  have h1 := C_pow epu la lu lz hz (by rw [vu])
  have h2 := C_pow epw la lv lz hz (by rw [vv])
  have h3 := C_pow epb la luv lz hz (by rw [vuv])
  have h4 := C_bits lz hkb
  have h5 := C_mul epp lpu lpw (by rw [vpu, vpw])
  have h6 := C_quo epq epb lpp lz hz rfl hsame
  have h7 := C_pow nb_zero la lpm lpl hplp hone
  have h8 := C_quo epq2 nb_zero la lpl hplp rfl hrr
  have h9 := C_add euv lu lv (by rw [vu, vv])
  have HS := Lib.hid (sanity_all w ht)
  have HCA := Lib.hid hca'
  have HCZ := Lib.hid hcz'
  have G1 := Lib.hid g1
  have G2 := Lib.hid g2
  have G3 := Lib.hid g3
  have G4 := Lib.hid g4
  have H1 := Lib.hid h1
  have H2 := Lib.hid h2
  have H3 := Lib.hid h3
  have H4 := Lib.hid h4
  have H5 := Lib.hid h5
  have H6 := Lib.hid h6
  have H7 := Lib.hid h7
  have H8 := Lib.hid h8
  have H9 := Lib.hid h9
  clear g1 g2 g3 g4 h1 h2 h3 h4 h5 h6 h7 h8 h9 hca' hcz' ht ka kz la lz eu vu ev' vv euv vuv lu lv luv epl vpl epm vpm lpl lpm hplp hF hL hL1 hone epq2 vpq2 epu vpu epw vpw epb vpb bz bpu bpw bpb lpu lpw epp vpp lpp epq vpq hsame hkb hz hrr hr
  have HC := Lib.hid (Ch.refl w.heap.size none1 w)
  go_enter Tryd.func10, Tryd.ntmps10
  have hlb := Blk.new w #[Value.int .u32 (e0 : Int), .int .u32 (e1 : Int)] 48
  go_wp2_with (first
    | (go_at_call 11; with_reducible refine (HS.out _ (HC.out.alloc (Nat.le_refl _) _)).mono ?_; rintro e w' ⟨rfl, hC⟩))
  have hcw := (HC.out.alloc (Nat.le_refl _) (.cells #[Value.int .u32 (e0 : Int), .int .u32 (e1 : Int)] 48 (0, 0))).trans (hC.mono (size_alloc_le _ (Nat.le_refl _)) (fun _ _ q => q))
  have hbw := hC.blk hlb (Blk.lt hlb) (fun q => q)
  have hlt0 : w.heap.size < w'.heap.size := hbw.lt
  have ca2 := fun n => HCA.out _ (hcw.drewN n)
  have cz2 := fun n => HCZ.out _ (hcw.drewN n)
  have hm3 : (0 : Int) ≤ min (nz : Int) 24 := by omega
  have hm4 : min (nz : Int) 24 ≤ (cz : Int) := by omega
  have HCW := Lib.hid hcw
  have HBW := Lib.hid hbw
  have HLT := Lib.hid hlt0
  clear hcw hbw hC hlb HC HCA HCZ hlt0
  go_quiet (fail)
  clear ca2 cz2
  go_wp2_with fail
  obtain ⟨B, hB⟩ : ∃ B, w.heap.size = B := ⟨_, rfl⟩
  rw [hB] at HBW HLT ⊢
  have hcw0 := HCW.out.drewN nq
  have hbw0 := HBW.out.drewN nq
  obtain ⟨W0, hW0⟩ : ∃ W, w'.drewN nq = W := ⟨_, rfl⟩
  rw [hW0] at hcw0 hbw0 ⊢
  have HCW0 := Lib.hid hcw0.drew
  have HS0 := Lib.hid (show W0.drew.cell? ⟨B, 0, none⟩ = some (.int .u32 (e0 : Int)) ∧ W0.drew.cell? ⟨B, 1, none⟩ = some (.int .u32 (e1 : Int)) from ⟨hbw0.cell 0, hbw0.cell 1⟩)
  have HLT2 := Lib.hid (show B < W0.drew.heap.size from hbw0.lt)
  clear hW0 hcw0 hbw0
  clear HCW HBW HLT
  go_region_held3 (fun w' => w'.cell? ⟨B, 0, none⟩ = some (.int .u32 (e0 : Int)) ∧ w'.cell? ⟨B, 1, none⟩ = some (.int .u32 (e1 : Int)))
    (first
      | (with_reducible exact HS0.out)
      | (with_reducible exact keep2 HY.out HLT2.out HS0.out)
      | (with_reducible exact keep2 HX.out HLT2.out HS0.out)
      | go_keep)
    (first
      | (go_at_call 29; with_reducible refine (G1.out _).mono ?_; rintro e wb ⟨rfl, hCb⟩; have HY := Lib.hid (HX.out.step0 hCb (Nat.le_refl _)); clear hCb HX)
      | (go_at_call 29; with_reducible refine (G2.out _).mono ?_; rintro e wb ⟨rfl, hCb⟩; have HY := Lib.hid (HX.out.step0 hCb (Nat.le_refl _)); clear hCb HX)
      | (go_at_call 29; with_reducible refine (G1.out _).mono ?_; rintro e wa ⟨rfl, hCa⟩; have HX := Lib.hid hCa; clear hCa)
      | (go_at_call 29; with_reducible refine (G2.out _).mono ?_; rintro e wa ⟨rfl, hCa⟩; have HX := Lib.hid hCa; clear hCa))
  all_goals
    have HC := Lib.hid (HCW0.out.trans (HY.out.mono HCW0.out.size (fun _ _ q => q)))
    clear HY HS0 HLT2 HCW0
    go_wp2_with (first
    | (go_at_call 25; with_reducible refine (H1.out _).mono ?_; rintro e w' ⟨rfl, hC⟩; have HC2 := Lib.hid (HC.out.trans (hC.mono HC.out.size (fun _ _ q => q))); clear hC HC; have HC := HC2; clear HC2)
    | (go_at_call 25; with_reducible refine (H2.out _).mono ?_; rintro e w' ⟨rfl, hC⟩; have HC2 := Lib.hid (HC.out.trans (hC.mono HC.out.size (fun _ _ q => q))); clear hC HC; have HC := HC2; clear HC2)
    | (go_at_call 25; with_reducible refine (H3.out _).mono ?_; rintro e w' ⟨rfl, hC⟩; have HC2 := Lib.hid (HC.out.trans (hC.mono HC.out.size (fun _ _ q => q))); clear hC HC; have HC := HC2; clear HC2)
    | (go_at_call 31; with_reducible refine (H4.out _).mono ?_; rintro e w' ⟨rfl, hC⟩; have HC2 := Lib.hid (HC.out.trans (hC.mono HC.out.size (fun _ _ q => q))); clear hC HC; have HC := HC2; clear HC2)
    | (go_at_call 21; with_reducible refine (H5.out _).mono ?_; rintro e w' ⟨rfl, hC⟩; have HC2 := Lib.hid (HC.out.trans (hC.mono HC.out.size (fun _ _ q => q))); clear hC HC; have HC := HC2; clear HC2)
    | (go_at_call 34; with_reducible refine (H6.out _).mono ?_; rintro e w' ⟨rfl, hC⟩; have HC2 := Lib.hid (HC.out.trans (hC.mono HC.out.size (fun _ _ q => q))); clear hC HC; have HC := HC2; clear HC2)
    | (go_at_call 25; with_reducible refine (H7.out _).mono ?_; rintro e w' ⟨rfl, hC⟩; have HC2 := Lib.hid (HC.out.trans (hC.mono HC.out.size (fun _ _ q => q))); clear hC HC; have HC := HC2; clear HC2)
    | (go_at_call 34; with_reducible refine (H8.out _).mono ?_; rintro e w' ⟨rfl, hC⟩; have HC2 := Lib.hid (HC.out.trans (hC.mono HC.out.size (fun _ _ q => q))); clear hC HC; have HC := HC2; clear HC2)
    | (go_at_call 15; with_reducible refine (H9.out _).mono ?_; rintro e w' ⟨rfl, hC⟩; have HC2 := Lib.hid (HC.out.trans (hC.mono HC.out.size (fun _ _ q => q))); clear hC HC; have HC := HC2; clear HC2)
    | (go_at_call 29; with_reducible refine (G3.out _).mono ?_; rintro e w' ⟨rfl, hC⟩; have HC2 := Lib.hid (HC.out.trans (hC.mono HC.out.size (fun _ _ q => q))); clear hC HC; have HC := HC2; clear HC2)
    | (go_at_call 29; with_reducible refine (G4.out _).mono ?_; rintro e w' ⟨rfl, hC⟩; have HC2 := Lib.hid (HC.out.trans (hC.mono HC.out.size (fun _ _ q => q))); clear hC HC; have HC := HC2; clear HC2))
  all_goals
    go_ret
    exact ⟨rfl, HC.out⟩
set_option maxRecDepth 100000 in
set_option maxHeartbeats 3200000 in
theorem fer_ns_pu (xz : Addr) (nz cz : Nat) (hnz : nz ≤ cz) (_hcz : cz ≤ 9223372036854775807) (e0 e1 : Nat) (a z : List UInt8) (w : World) (ka : a.length ≤ 24) (kz : z.length ≤ 24) (he0 : e0 < 4294967296) (he1 : e1 < 4294967296)
    (ht : pow10Is w) (hz : 0 < bv z) (hr : ¬ bv a % 2305843009213691579 = 0)
    (hca' : ∀ w', Ch w.heap.size none1 w w' → (convert 22 24 (.slice none (min (0:Int) 24).toNat 0)).run Tryd.prog w' = .ok (S a) w')
    (hcz' : ∀ w', Ch w.heap.size none1 w w' → (convert 22 24 (.slice (some xz) (min (nz : Int) 24).toNat cz)).run Tryd.prog w' = .ok (S z) w') :
    Calls Tryd.prog 10 #[.slice none 0 0, .agg #[.int .u32 (e0 : Int), .int .u32 (e1 : Int)], .slice (some xz) nz cz] w (Yld w (.bool true)) := by
  have la : a.length ≤ 10000 := by omega
  have lz : z.length ≤ 10000 := by omega
  obtain ⟨u, eu, vu⟩ := has_nb e0
  obtain ⟨v, ev', vv⟩ := has_nb e1
  obtain ⟨uv, euv, vuv⟩ := has_nb (e0 + e1)
  have lu := nbl 5 eu (by omega) (by decide)
  have lv := nbl 5 ev' (by omega) (by decide)
  have luv := nbl 5 euv (by omega) (by decide)
  obtain ⟨L, hL⟩ : ∃ L, L = 2305843009213691579 := ⟨_, rfl⟩
  rw [← hL] at hr
  obtain ⟨pl, epl, vpl⟩ := has_nb L
  obtain ⟨pm, epm, vpm⟩ := has_nb (L - 1)
  have lpl := nbl 8 epl (by rw [hL]; decide) (by decide)
  have lpm := nbl 8 epm (by rw [hL]; decide) (by decide)
  have hplp : 0 < bv pl := by rw [vpl, hL]; decide
  have hF := fermat_large L hL (bv a)
  have hL1 : 1 < L := by rw [hL]; decide
  obtain ⟨pu, epu, vpu⟩ := has_nb (bv a ^ e0 % bv z)
  obtain ⟨pw, epw, vpw⟩ := has_nb (bv a ^ e1 % bv z)
  obtain ⟨pb, epb, vpb⟩ := has_nb (bv a ^ (e0 + e1) % bv z)
  have bz := bv_b kz
  have bpu : bv a ^ e0 % bv z < 256 ^ 24 := Nat.lt_trans (Nat.mod_lt _ hz) bz
  have bpw : bv a ^ e1 % bv z < 256 ^ 24 := Nat.lt_trans (Nat.mod_lt _ hz) bz
  have bpb : bv a ^ (e0 + e1) % bv z < 256 ^ 24 := Nat.lt_trans (Nat.mod_lt _ hz) bz
  have lpu := nbl _ epu bpu (by decide)
  have lpw := nbl _ epw bpw (by decide)
  obtain ⟨pp, epp, vpp⟩ := has_nb ((bv a ^ e0 % bv z) * (bv a ^ e1 % bv z))
  have lpp := nbl _ epp (mulb bpu bpw) (by decide)
  obtain ⟨pq, epq, vpq⟩ := has_nb (bv pp / bv z)
  have hsame : bv pp % bv z = bv a ^ (e0 + e1) % bv z := by rw [vpp, Nat.pow_add, ← Nat.mul_mod]
  obtain ⟨kb, hkb⟩ : ∃ k : Int, (nbits (bv z) : Int) = k := ⟨_, rfl⟩
  have hkb0 : 0 < kb := by have := nbits_posF hz; omega
  have hone : bv a ^ bv pm % bv pl = 1 := by rw [vpm, vpl]; exact hF hr
  have hnb1 : nb 1 = [1] := by rw [nb_is [1] 1 (by decide) (by decide)]
  obtain ⟨pq2, epq2, vpq2⟩ := has_nb (bv a / bv pl)
  obtain ⟨pr, epr, vpr⟩ := has_nb (bv a % bv pl)
  have hpr : ¬ pr = [] := fun h => by rw [h, vpl] at vpr; exact hr vpr.symm
  obtain ⟨r0, rs, rfl⟩ : ∃ r0 rs, pr = r0 :: rs := by
    cases pr with
    | nil => exact absurd rfl hpr
    | cons r0 rs => exact ⟨r0, rs, rfl⟩
  have g1 := (C_refOf (n := IntKind.i64.wrap (e0 : Int)) (l := u) (by rw [IntWalk.i64_in _ (by omega)]; exact eu) (by rw [IntWalk.i64_in _ (by omega)]; omega) (by rw [IntWalk.i64_in _ (by omega)]; omega))
  have g2 := (C_refOf (n := IntKind.i64.wrap (e1 : Int)) (l := v) (by rw [IntWalk.i64_in _ (by omega)]; exact ev') (by rw [IntWalk.i64_in _ (by omega)]; omega) (by rw [IntWalk.i64_in _ (by omega)]; omega))
  have g3 := (C_refOf (n := 2305843009213691579) (l := pl) (by rw [← epl, hL]; rfl) (by decide) (by decide))
  have g4 := (C_refOf (n := 2305843009213691578) (l := pm) (by rw [← epm, hL]; rfl) (by decide) (by decide))
  have h1 := C_pow epu la lu lz hz (by rw [vu])
  have h2 := C_pow epw la lv lz hz (by rw [vv])
  have h3 := C_pow epb la luv lz hz (by rw [vuv])
  have h4 := C_bits lz hkb
  have h5 := C_mul epp lpu lpw (by rw [vpu, vpw])
  have h6 := C_quo epq epb lpp lz hz rfl hsame
  have h7 := C_pow hnb1 la lpm lpl hplp hone
  have h8 := C_quo epq2 epr la lpl hplp rfl rfl
  have h9 := C_add euv lu lv (by rw [vu, vv])
  have HS := Lib.hid (sanity_all w ht)
  have HCA := Lib.hid hca'
  have HCZ := Lib.hid hcz'
  have G1 := Lib.hid g1
  have G2 := Lib.hid g2
  have G3 := Lib.hid g3
  have G4 := Lib.hid g4
  have H1 := Lib.hid h1
  have H2 := Lib.hid h2
  have H3 := Lib.hid h3
  have H4 := Lib.hid h4
  have H5 := Lib.hid h5
  have H6 := Lib.hid h6
  have H7 := Lib.hid h7
  have H8 := Lib.hid h8
  have H9 := Lib.hid h9
  clear g1 g2 g3 g4 h1 h2 h3 h4 h5 h6 h7 h8 h9 hca' hcz' ht ka kz la lz eu vu ev' vv euv vuv lu lv luv epl vpl epm vpm lpl lpm hplp hF hL hL1 hone epq2 vpq2 epu vpu epw vpw epb vpb bz bpu bpw bpb lpu lpw epp vpp lpp epq vpq hsame hkb hz hnb1 epr vpr hpr hr
  have HC := Lib.hid (Ch.refl w.heap.size none1 w)
  go_enter Tryd.func10, Tryd.ntmps10
  have hlb := Blk.new w #[Value.int .u32 (e0 : Int), .int .u32 (e1 : Int)] 48
  go_wp2_with (first
    | (go_at_call 11; with_reducible refine (HS.out _ (HC.out.alloc (Nat.le_refl _) _)).mono ?_; rintro e w' ⟨rfl, hC⟩))
  have hcw := (HC.out.alloc (Nat.le_refl _) (.cells #[Value.int .u32 (e0 : Int), .int .u32 (e1 : Int)] 48 (0, 0))).trans (hC.mono (size_alloc_le _ (Nat.le_refl _)) (fun _ _ q => q))
  have hbw := hC.blk hlb (Blk.lt hlb) (fun q => q)
  have hlt0 : w.heap.size < w'.heap.size := hbw.lt
  have ca2 := fun n => HCA.out _ (hcw.drewN n)
  have cz2 := fun n => HCZ.out _ (hcw.drewN n)
  have hm3 : (0 : Int) ≤ min (nz : Int) 24 := by omega
  have hm4 : min (nz : Int) 24 ≤ (cz : Int) := by omega
  have HCW := Lib.hid hcw
  have HBW := Lib.hid hbw
  have HLT := Lib.hid hlt0
  clear hcw hbw hC hlb HC HCA HCZ hlt0
  go_quiet (fail)
  clear ca2 cz2
  go_wp2_with fail
  obtain ⟨B, hB⟩ : ∃ B, w.heap.size = B := ⟨_, rfl⟩
  rw [hB] at HBW HLT ⊢
  have hcw0 := HCW.out.drewN nq
  have hbw0 := HBW.out.drewN nq
  obtain ⟨W0, hW0⟩ : ∃ W, w'.drewN nq = W := ⟨_, rfl⟩
  rw [hW0] at hcw0 hbw0 ⊢
  have HCW0 := Lib.hid hcw0.drew
  have HS0 := Lib.hid (show W0.drew.cell? ⟨B, 0, none⟩ = some (.int .u32 (e0 : Int)) ∧ W0.drew.cell? ⟨B, 1, none⟩ = some (.int .u32 (e1 : Int)) from ⟨hbw0.cell 0, hbw0.cell 1⟩)
  have HLT2 := Lib.hid (show B < W0.drew.heap.size from hbw0.lt)
  clear hW0 hcw0 hbw0
  clear HCW HBW HLT
  go_region_held3 (fun w' => w'.cell? ⟨B, 0, none⟩ = some (.int .u32 (e0 : Int)) ∧ w'.cell? ⟨B, 1, none⟩ = some (.int .u32 (e1 : Int)))
    (first
      | (with_reducible exact HS0.out)
      | (with_reducible exact keep2 HY.out HLT2.out HS0.out)
      | (with_reducible exact keep2 HX.out HLT2.out HS0.out)
      | go_keep)
    (first
      | (go_at_call 29; with_reducible refine (G1.out _).mono ?_; rintro e wb ⟨rfl, hCb⟩; have HY := Lib.hid (HX.out.step0 hCb (Nat.le_refl _)); clear hCb HX)
      | (go_at_call 29; with_reducible refine (G2.out _).mono ?_; rintro e wb ⟨rfl, hCb⟩; have HY := Lib.hid (HX.out.step0 hCb (Nat.le_refl _)); clear hCb HX)
      | (go_at_call 29; with_reducible refine (G1.out _).mono ?_; rintro e wa ⟨rfl, hCa⟩; have HX := Lib.hid hCa; clear hCa)
      | (go_at_call 29; with_reducible refine (G2.out _).mono ?_; rintro e wa ⟨rfl, hCa⟩; have HX := Lib.hid hCa; clear hCa))
  all_goals
    have HC := Lib.hid (HCW0.out.trans (HY.out.mono HCW0.out.size (fun _ _ q => q)))
    clear HY HS0 HLT2 HCW0
    go_wp2_with (first
    | (go_at_call 25; with_reducible refine (H1.out _).mono ?_; rintro e w' ⟨rfl, hC⟩; have HC2 := Lib.hid (HC.out.trans (hC.mono HC.out.size (fun _ _ q => q))); clear hC HC; have HC := HC2; clear HC2)
    | (go_at_call 25; with_reducible refine (H2.out _).mono ?_; rintro e w' ⟨rfl, hC⟩; have HC2 := Lib.hid (HC.out.trans (hC.mono HC.out.size (fun _ _ q => q))); clear hC HC; have HC := HC2; clear HC2)
    | (go_at_call 25; with_reducible refine (H3.out _).mono ?_; rintro e w' ⟨rfl, hC⟩; have HC2 := Lib.hid (HC.out.trans (hC.mono HC.out.size (fun _ _ q => q))); clear hC HC; have HC := HC2; clear HC2)
    | (go_at_call 31; with_reducible refine (H4.out _).mono ?_; rintro e w' ⟨rfl, hC⟩; have HC2 := Lib.hid (HC.out.trans (hC.mono HC.out.size (fun _ _ q => q))); clear hC HC; have HC := HC2; clear HC2)
    | (go_at_call 21; with_reducible refine (H5.out _).mono ?_; rintro e w' ⟨rfl, hC⟩; have HC2 := Lib.hid (HC.out.trans (hC.mono HC.out.size (fun _ _ q => q))); clear hC HC; have HC := HC2; clear HC2)
    | (go_at_call 34; with_reducible refine (H6.out _).mono ?_; rintro e w' ⟨rfl, hC⟩; have HC2 := Lib.hid (HC.out.trans (hC.mono HC.out.size (fun _ _ q => q))); clear hC HC; have HC := HC2; clear HC2)
    | (go_at_call 25; with_reducible refine (H7.out _).mono ?_; rintro e w' ⟨rfl, hC⟩; have HC2 := Lib.hid (HC.out.trans (hC.mono HC.out.size (fun _ _ q => q))); clear hC HC; have HC := HC2; clear HC2)
    | (go_at_call 34; with_reducible refine (H8.out _).mono ?_; rintro e w' ⟨rfl, hC⟩; have HC2 := Lib.hid (HC.out.trans (hC.mono HC.out.size (fun _ _ q => q))); clear hC HC; have HC := HC2; clear HC2)
    | (go_at_call 15; with_reducible refine (H9.out _).mono ?_; rintro e w' ⟨rfl, hC⟩; have HC2 := Lib.hid (HC.out.trans (hC.mono HC.out.size (fun _ _ q => q))); clear hC HC; have HC := HC2; clear HC2)
    | (go_at_call 29; with_reducible refine (G3.out _).mono ?_; rintro e w' ⟨rfl, hC⟩; have HC2 := Lib.hid (HC.out.trans (hC.mono HC.out.size (fun _ _ q => q))); clear hC HC; have HC := HC2; clear HC2)
    | (go_at_call 29; with_reducible refine (G4.out _).mono ?_; rintro e w' ⟨rfl, hC⟩; have HC2 := Lib.hid (HC.out.trans (hC.mono HC.out.size (fun _ _ q => q))); clear hC HC; have HC := HC2; clear HC2))
  all_goals
    go_ret
    exact ⟨rfl, HC.out⟩
set_option maxRecDepth 100000 in
set_option maxHeartbeats 3200000 in
theorem fer_ns_zd (xz : Addr) (nz cz : Nat) (hnz : nz ≤ cz) (_hcz : cz ≤ 9223372036854775807) (e0 e1 : Nat) (a z : List UInt8) (w : World) (ka : a.length ≤ 24) (kz : z.length ≤ 24) (he0 : e0 < 4294967296) (he1 : e1 < 4294967296)
    (ht : pow10Is w) (hz : bv z = 0) (hr : bv a % 2305843009213691579 = 0)
    (hca' : ∀ w', Ch w.heap.size none1 w w' → (convert 22 24 (.slice none (min (0:Int) 24).toNat 0)).run Tryd.prog w' = .ok (S a) w')
    (hcz' : ∀ w', Ch w.heap.size none1 w w' → (convert 22 24 (.slice (some xz) (min (nz : Int) 24).toNat cz)).run Tryd.prog w' = .ok (S z) w') :
    Calls Tryd.prog 10 #[.slice none 0 0, .agg #[.int .u32 (e0 : Int), .int .u32 (e1 : Int)], .slice (some xz) nz cz] w (Yld w (.bool true)) := by
  have la : a.length ≤ 10000 := by omega
  have lz : z.length ≤ 10000 := by omega
  obtain ⟨u, eu, vu⟩ := has_nb e0
  obtain ⟨v, ev', vv⟩ := has_nb e1
  obtain ⟨uv, euv, vuv⟩ := has_nb (e0 + e1)
  have lu := nbl 5 eu (by omega) (by decide)
  have lv := nbl 5 ev' (by omega) (by decide)
  have luv := nbl 5 euv (by omega) (by decide)
  obtain ⟨L, hL⟩ : ∃ L, L = 2305843009213691579 := ⟨_, rfl⟩
  rw [← hL] at hr
  obtain ⟨pl, epl, vpl⟩ := has_nb L
  obtain ⟨pm, epm, vpm⟩ := has_nb (L - 1)
  have lpl := nbl 8 epl (by rw [hL]; decide) (by decide)
  have lpm := nbl 8 epm (by rw [hL]; decide) (by decide)
  have hplp : 0 < bv pl := by rw [vpl, hL]; decide
  have hF := fermat_large L hL (bv a)
  have hL1 : 1 < L := by rw [hL]; decide
  have hkb : (nbits (bv z) : Int) = 0 := by rw [hz, nbits_zero]; rfl
  have hone : bv a ^ bv pm % bv pl = 0 := by rw [vpm, vpl, Nat.pow_mod, hr, Nat.zero_pow (by omega), Nat.zero_mod]
  obtain ⟨pq2, epq2, vpq2⟩ := has_nb (bv a / bv pl)
  have hrr : bv a % bv pl = 0 := by rw [vpl]; exact hr
  have g1 := (C_refOf (n := IntKind.i64.wrap (e0 : Int)) (l := u) (by rw [IntWalk.i64_in _ (by omega)]; exact eu) (by rw [IntWalk.i64_in _ (by omega)]; omega) (by rw [IntWalk.i64_in _ (by omega)]; omega))
  have g2 := (C_refOf (n := IntKind.i64.wrap (e1 : Int)) (l := v) (by rw [IntWalk.i64_in _ (by omega)]; exact ev') (by rw [IntWalk.i64_in _ (by omega)]; omega) (by rw [IntWalk.i64_in _ (by omega)]; omega))
  have g3 := (C_refOf (n := 2305843009213691579) (l := pl) (by rw [← epl, hL]; rfl) (by decide) (by decide))
  have g4 := (C_refOf (n := 2305843009213691578) (l := pm) (by rw [← epm, hL]; rfl) (by decide) (by decide))
  have h1 := C_pow_no (a := a) (e := u) lz hz
  have h2 := C_pow_no (a := a) (e := v) lz hz
  have h3 := C_pow_no (a := a) (e := uv) lz hz
  have h4 := C_bits lz hkb
  have h7 := C_pow nb_zero la lpm lpl hplp hone
  have h8 := C_quo epq2 nb_zero la lpl hplp rfl hrr
  have h9 := C_add euv lu lv (by rw [vu, vv])
  have HS := Lib.hid (sanity_all w ht)
  have HCA := Lib.hid hca'
  have HCZ := Lib.hid hcz'
  have G1 := Lib.hid g1
  have G2 := Lib.hid g2
  have G3 := Lib.hid g3
  have G4 := Lib.hid g4
  have H1 := Lib.hid h1
  have H2 := Lib.hid h2
  have H3 := Lib.hid h3
  have H4 := Lib.hid h4
  have H7 := Lib.hid h7
  have H8 := Lib.hid h8
  have H9 := Lib.hid h9
  clear g1 g2 g3 g4 h1 h2 h3 h4 h7 h8 h9 hca' hcz' ht ka kz la lz eu vu ev' vv euv vuv lu lv luv epl vpl epm vpm lpl lpm hplp hF hL hL1 hone epq2 vpq2 hkb hz hrr hr
  have HC := Lib.hid (Ch.refl w.heap.size none1 w)
  go_enter Tryd.func10, Tryd.ntmps10
  have hlb := Blk.new w #[Value.int .u32 (e0 : Int), .int .u32 (e1 : Int)] 48
  go_wp2_with (first
    | (go_at_call 11; with_reducible refine (HS.out _ (HC.out.alloc (Nat.le_refl _) _)).mono ?_; rintro e w' ⟨rfl, hC⟩))
  have hcw := (HC.out.alloc (Nat.le_refl _) (.cells #[Value.int .u32 (e0 : Int), .int .u32 (e1 : Int)] 48 (0, 0))).trans (hC.mono (size_alloc_le _ (Nat.le_refl _)) (fun _ _ q => q))
  have hbw := hC.blk hlb (Blk.lt hlb) (fun q => q)
  have hlt0 : w.heap.size < w'.heap.size := hbw.lt
  have ca2 := fun n => HCA.out _ (hcw.drewN n)
  have cz2 := fun n => HCZ.out _ (hcw.drewN n)
  have hm3 : (0 : Int) ≤ min (nz : Int) 24 := by omega
  have hm4 : min (nz : Int) 24 ≤ (cz : Int) := by omega
  have HCW := Lib.hid hcw
  have HBW := Lib.hid hbw
  have HLT := Lib.hid hlt0
  clear hcw hbw hC hlb HC HCA HCZ hlt0
  go_quiet (fail)
  clear ca2 cz2
  go_wp2_with fail
  obtain ⟨B, hB⟩ : ∃ B, w.heap.size = B := ⟨_, rfl⟩
  rw [hB] at HBW HLT ⊢
  have hcw0 := HCW.out.drewN nq
  have hbw0 := HBW.out.drewN nq
  obtain ⟨W0, hW0⟩ : ∃ W, w'.drewN nq = W := ⟨_, rfl⟩
  rw [hW0] at hcw0 hbw0 ⊢
  have HCW0 := Lib.hid hcw0.drew
  have HS0 := Lib.hid (show W0.drew.cell? ⟨B, 0, none⟩ = some (.int .u32 (e0 : Int)) ∧ W0.drew.cell? ⟨B, 1, none⟩ = some (.int .u32 (e1 : Int)) from ⟨hbw0.cell 0, hbw0.cell 1⟩)
  have HLT2 := Lib.hid (show B < W0.drew.heap.size from hbw0.lt)
  clear hW0 hcw0 hbw0
  clear HCW HBW HLT
  go_region_held3 (fun w' => w'.cell? ⟨B, 0, none⟩ = some (.int .u32 (e0 : Int)) ∧ w'.cell? ⟨B, 1, none⟩ = some (.int .u32 (e1 : Int)))
    (first
      | (with_reducible exact HS0.out)
      | (with_reducible exact keep2 HY.out HLT2.out HS0.out)
      | (with_reducible exact keep2 HX.out HLT2.out HS0.out)
      | go_keep)
    (first
      | (go_at_call 29; with_reducible refine (G1.out _).mono ?_; rintro e wb ⟨rfl, hCb⟩; have HY := Lib.hid (HX.out.step0 hCb (Nat.le_refl _)); clear hCb HX)
      | (go_at_call 29; with_reducible refine (G2.out _).mono ?_; rintro e wb ⟨rfl, hCb⟩; have HY := Lib.hid (HX.out.step0 hCb (Nat.le_refl _)); clear hCb HX)
      | (go_at_call 29; with_reducible refine (G1.out _).mono ?_; rintro e wa ⟨rfl, hCa⟩; have HX := Lib.hid hCa; clear hCa)
      | (go_at_call 29; with_reducible refine (G2.out _).mono ?_; rintro e wa ⟨rfl, hCa⟩; have HX := Lib.hid hCa; clear hCa))
  all_goals
    have HC := Lib.hid (HCW0.out.trans (HY.out.mono HCW0.out.size (fun _ _ q => q)))
    clear HY HS0 HLT2 HCW0
    go_wp2_with (first
    | (go_at_call 25; with_reducible refine (H1.out _).mono ?_; rintro e w' ⟨rfl, hC⟩; have HC2 := Lib.hid (HC.out.trans (hC.mono HC.out.size (fun _ _ q => q))); clear hC HC; have HC := HC2; clear HC2)
    | (go_at_call 25; with_reducible refine (H2.out _).mono ?_; rintro e w' ⟨rfl, hC⟩; have HC2 := Lib.hid (HC.out.trans (hC.mono HC.out.size (fun _ _ q => q))); clear hC HC; have HC := HC2; clear HC2)
    | (go_at_call 25; with_reducible refine (H3.out _).mono ?_; rintro e w' ⟨rfl, hC⟩; have HC2 := Lib.hid (HC.out.trans (hC.mono HC.out.size (fun _ _ q => q))); clear hC HC; have HC := HC2; clear HC2)
    | (go_at_call 31; with_reducible refine (H4.out _).mono ?_; rintro e w' ⟨rfl, hC⟩; have HC2 := Lib.hid (HC.out.trans (hC.mono HC.out.size (fun _ _ q => q))); clear hC HC; have HC := HC2; clear HC2)
    | (go_at_call 25; with_reducible refine (H7.out _).mono ?_; rintro e w' ⟨rfl, hC⟩; have HC2 := Lib.hid (HC.out.trans (hC.mono HC.out.size (fun _ _ q => q))); clear hC HC; have HC := HC2; clear HC2)
    | (go_at_call 34; with_reducible refine (H8.out _).mono ?_; rintro e w' ⟨rfl, hC⟩; have HC2 := Lib.hid (HC.out.trans (hC.mono HC.out.size (fun _ _ q => q))); clear hC HC; have HC := HC2; clear HC2)
    | (go_at_call 15; with_reducible refine (H9.out _).mono ?_; rintro e w' ⟨rfl, hC⟩; have HC2 := Lib.hid (HC.out.trans (hC.mono HC.out.size (fun _ _ q => q))); clear hC HC; have HC := HC2; clear HC2)
    | (go_at_call 29; with_reducible refine (G3.out _).mono ?_; rintro e w' ⟨rfl, hC⟩; have HC2 := Lib.hid (HC.out.trans (hC.mono HC.out.size (fun _ _ q => q))); clear hC HC; have HC := HC2; clear HC2)
    | (go_at_call 29; with_reducible refine (G4.out _).mono ?_; rintro e w' ⟨rfl, hC⟩; have HC2 := Lib.hid (HC.out.trans (hC.mono HC.out.size (fun _ _ q => q))); clear hC HC; have HC := HC2; clear HC2))
  all_goals
    go_ret
    exact ⟨rfl, HC.out⟩
set_option maxRecDepth 100000 in
set_option maxHeartbeats 3200000 in
theorem fer_ns_zu (xz : Addr) (nz cz : Nat) (hnz : nz ≤ cz) (_hcz : cz ≤ 9223372036854775807) (e0 e1 : Nat) (a z : List UInt8) (w : World) (ka : a.length ≤ 24) (kz : z.length ≤ 24) (he0 : e0 < 4294967296) (he1 : e1 < 4294967296)
    (ht : pow10Is w) (hz : bv z = 0) (hr : ¬ bv a % 2305843009213691579 = 0)
    (hca' : ∀ w', Ch w.heap.size none1 w w' → (convert 22 24 (.slice none (min (0:Int) 24).toNat 0)).run Tryd.prog w' = .ok (S a) w')
    (hcz' : ∀ w', Ch w.heap.size none1 w w' → (convert 22 24 (.slice (some xz) (min (nz : Int) 24).toNat cz)).run Tryd.prog w' = .ok (S z) w') :
    Calls Tryd.prog 10 #[.slice none 0 0, .agg #[.int .u32 (e0 : Int), .int .u32 (e1 : Int)], .slice (some xz) nz cz] w (Yld w (.bool true)) := by
  have la : a.length ≤ 10000 := by omega
  have lz : z.length ≤ 10000 := by omega
  obtain ⟨u, eu, vu⟩ := has_nb e0
  obtain ⟨v, ev', vv⟩ := has_nb e1
  obtain ⟨uv, euv, vuv⟩ := has_nb (e0 + e1)
  have lu := nbl 5 eu (by omega) (by decide)
  have lv := nbl 5 ev' (by omega) (by decide)
  have luv := nbl 5 euv (by omega) (by decide)
  obtain ⟨L, hL⟩ : ∃ L, L = 2305843009213691579 := ⟨_, rfl⟩
  rw [← hL] at hr
  obtain ⟨pl, epl, vpl⟩ := has_nb L
  obtain ⟨pm, epm, vpm⟩ := has_nb (L - 1)
  have lpl := nbl 8 epl (by rw [hL]; decide) (by decide)
  have lpm := nbl 8 epm (by rw [hL]; decide) (by decide)
  have hplp : 0 < bv pl := by rw [vpl, hL]; decide
  have hF := fermat_large L hL (bv a)
  have hL1 : 1 < L := by rw [hL]; decide
  have hkb : (nbits (bv z) : Int) = 0 := by rw [hz, nbits_zero]; rfl
  have hone : bv a ^ bv pm % bv pl = 1 := by rw [vpm, vpl]; exact hF hr
  have hnb1 : nb 1 = [1] := by rw [nb_is [1] 1 (by decide) (by decide)]
  obtain ⟨pq2, epq2, vpq2⟩ := has_nb (bv a / bv pl)
  obtain ⟨pr, epr, vpr⟩ := has_nb (bv a % bv pl)
  have hpr : ¬ pr = [] := fun h => by rw [h, vpl] at vpr; exact hr vpr.symm
  obtain ⟨r0, rs, rfl⟩ : ∃ r0 rs, pr = r0 :: rs := by
    cases pr with
    | nil => exact absurd rfl hpr
    | cons r0 rs => exact ⟨r0, rs, rfl⟩
  have g1 := (C_refOf (n := IntKind.i64.wrap (e0 : Int)) (l := u) (by rw [IntWalk.i64_in _ (by omega)]; exact eu) (by rw [IntWalk.i64_in _ (by omega)]; omega) (by rw [IntWalk.i64_in _ (by omega)]; omega))
  have g2 := (C_refOf (n := IntKind.i64.wrap (e1 : Int)) (l := v) (by rw [IntWalk.i64_in _ (by omega)]; exact ev') (by rw [IntWalk.i64_in _ (by omega)]; omega) (by rw [IntWalk.i64_in _ (by omega)]; omega))
  have g3 := (C_refOf (n := 2305843009213691579) (l := pl) (by rw [← epl, hL]; rfl) (by decide) (by decide))
  have g4 := (C_refOf (n := 2305843009213691578) (l := pm) (by rw [← epm, hL]; rfl) (by decide) (by decide))
  have h1 := C_pow_no (a := a) (e := u) lz hz
  have h2 := C_pow_no (a := a) (e := v) lz hz
  have h3 := C_pow_no (a := a) (e := uv) lz hz
  have h4 := C_bits lz hkb
  have h7 := C_pow hnb1 la lpm lpl hplp hone
  have h8 := C_quo epq2 epr la lpl hplp rfl rfl
  have h9 := C_add euv lu lv (by rw [vu, vv])
  have HS := Lib.hid (sanity_all w ht)
  have HCA := Lib.hid hca'
  have HCZ := Lib.hid hcz'
  have G1 := Lib.hid g1
  have G2 := Lib.hid g2
  have G3 := Lib.hid g3
  have G4 := Lib.hid g4
  have H1 := Lib.hid h1
  have H2 := Lib.hid h2
  have H3 := Lib.hid h3
  have H4 := Lib.hid h4
  have H7 := Lib.hid h7
  have H8 := Lib.hid h8
  have H9 := Lib.hid h9
  clear g1 g2 g3 g4 h1 h2 h3 h4 h7 h8 h9 hca' hcz' ht ka kz la lz eu vu ev' vv euv vuv lu lv luv epl vpl epm vpm lpl lpm hplp hF hL hL1 hone epq2 vpq2 hkb hz hnb1 epr vpr hpr hr
  have HC := Lib.hid (Ch.refl w.heap.size none1 w)
  go_enter Tryd.func10, Tryd.ntmps10
  have hlb := Blk.new w #[Value.int .u32 (e0 : Int), .int .u32 (e1 : Int)] 48
  go_wp2_with (first
    | (go_at_call 11; with_reducible refine (HS.out _ (HC.out.alloc (Nat.le_refl _) _)).mono ?_; rintro e w' ⟨rfl, hC⟩))
  have hcw := (HC.out.alloc (Nat.le_refl _) (.cells #[Value.int .u32 (e0 : Int), .int .u32 (e1 : Int)] 48 (0, 0))).trans (hC.mono (size_alloc_le _ (Nat.le_refl _)) (fun _ _ q => q))
  have hbw := hC.blk hlb (Blk.lt hlb) (fun q => q)
  have hlt0 : w.heap.size < w'.heap.size := hbw.lt
  have ca2 := fun n => HCA.out _ (hcw.drewN n)
  have cz2 := fun n => HCZ.out _ (hcw.drewN n)
  have hm3 : (0 : Int) ≤ min (nz : Int) 24 := by omega
  have hm4 : min (nz : Int) 24 ≤ (cz : Int) := by omega
  have HCW := Lib.hid hcw
  have HBW := Lib.hid hbw
  have HLT := Lib.hid hlt0
  clear hcw hbw hC hlb HC HCA HCZ hlt0
  go_quiet (fail)
  clear ca2 cz2
  go_wp2_with fail
  obtain ⟨B, hB⟩ : ∃ B, w.heap.size = B := ⟨_, rfl⟩
  rw [hB] at HBW HLT ⊢
  have hcw0 := HCW.out.drewN nq
  have hbw0 := HBW.out.drewN nq
  obtain ⟨W0, hW0⟩ : ∃ W, w'.drewN nq = W := ⟨_, rfl⟩
  rw [hW0] at hcw0 hbw0 ⊢
  have HCW0 := Lib.hid hcw0.drew
  have HS0 := Lib.hid (show W0.drew.cell? ⟨B, 0, none⟩ = some (.int .u32 (e0 : Int)) ∧ W0.drew.cell? ⟨B, 1, none⟩ = some (.int .u32 (e1 : Int)) from ⟨hbw0.cell 0, hbw0.cell 1⟩)
  have HLT2 := Lib.hid (show B < W0.drew.heap.size from hbw0.lt)
  clear hW0 hcw0 hbw0
  clear HCW HBW HLT
  go_region_held3 (fun w' => w'.cell? ⟨B, 0, none⟩ = some (.int .u32 (e0 : Int)) ∧ w'.cell? ⟨B, 1, none⟩ = some (.int .u32 (e1 : Int)))
    (first
      | (with_reducible exact HS0.out)
      | (with_reducible exact keep2 HY.out HLT2.out HS0.out)
      | (with_reducible exact keep2 HX.out HLT2.out HS0.out)
      | go_keep)
    (first
      | (go_at_call 29; with_reducible refine (G1.out _).mono ?_; rintro e wb ⟨rfl, hCb⟩; have HY := Lib.hid (HX.out.step0 hCb (Nat.le_refl _)); clear hCb HX)
      | (go_at_call 29; with_reducible refine (G2.out _).mono ?_; rintro e wb ⟨rfl, hCb⟩; have HY := Lib.hid (HX.out.step0 hCb (Nat.le_refl _)); clear hCb HX)
      | (go_at_call 29; with_reducible refine (G1.out _).mono ?_; rintro e wa ⟨rfl, hCa⟩; have HX := Lib.hid hCa; clear hCa)
      | (go_at_call 29; with_reducible refine (G2.out _).mono ?_; rintro e wa ⟨rfl, hCa⟩; have HX := Lib.hid hCa; clear hCa))
  all_goals
    have HC := Lib.hid (HCW0.out.trans (HY.out.mono HCW0.out.size (fun _ _ q => q)))
    clear HY HS0 HLT2 HCW0
    go_wp2_with (first
    | (go_at_call 25; with_reducible refine (H1.out _).mono ?_; rintro e w' ⟨rfl, hC⟩; have HC2 := Lib.hid (HC.out.trans (hC.mono HC.out.size (fun _ _ q => q))); clear hC HC; have HC := HC2; clear HC2)
    | (go_at_call 25; with_reducible refine (H2.out _).mono ?_; rintro e w' ⟨rfl, hC⟩; have HC2 := Lib.hid (HC.out.trans (hC.mono HC.out.size (fun _ _ q => q))); clear hC HC; have HC := HC2; clear HC2)
    | (go_at_call 25; with_reducible refine (H3.out _).mono ?_; rintro e w' ⟨rfl, hC⟩; have HC2 := Lib.hid (HC.out.trans (hC.mono HC.out.size (fun _ _ q => q))); clear hC HC; have HC := HC2; clear HC2)
    | (go_at_call 31; with_reducible refine (H4.out _).mono ?_; rintro e w' ⟨rfl, hC⟩; have HC2 := Lib.hid (HC.out.trans (hC.mono HC.out.size (fun _ _ q => q))); clear hC HC; have HC := HC2; clear HC2)
    | (go_at_call 25; with_reducible refine (H7.out _).mono ?_; rintro e w' ⟨rfl, hC⟩; have HC2 := Lib.hid (HC.out.trans (hC.mono HC.out.size (fun _ _ q => q))); clear hC HC; have HC := HC2; clear HC2)
    | (go_at_call 34; with_reducible refine (H8.out _).mono ?_; rintro e w' ⟨rfl, hC⟩; have HC2 := Lib.hid (HC.out.trans (hC.mono HC.out.size (fun _ _ q => q))); clear hC HC; have HC := HC2; clear HC2)
    | (go_at_call 15; with_reducible refine (H9.out _).mono ?_; rintro e w' ⟨rfl, hC⟩; have HC2 := Lib.hid (HC.out.trans (hC.mono HC.out.size (fun _ _ q => q))); clear hC HC; have HC := HC2; clear HC2)
    | (go_at_call 29; with_reducible refine (G3.out _).mono ?_; rintro e w' ⟨rfl, hC⟩; have HC2 := Lib.hid (HC.out.trans (hC.mono HC.out.size (fun _ _ q => q))); clear hC HC; have HC := HC2; clear HC2)
    | (go_at_call 29; with_reducible refine (G4.out _).mono ?_; rintro e w' ⟨rfl, hC⟩; have HC2 := Lib.hid (HC.out.trans (hC.mono HC.out.size (fun _ _ q => q))); clear hC HC; have HC := HC2; clear HC2))
  all_goals
    go_ret
    exact ⟨rfl, HC.out⟩
set_option maxRecDepth 100000 in
set_option maxHeartbeats 3200000 in
theorem fer_nn_zd (e0 e1 : Nat) (a z : List UInt8) (w : World) (ka : a.length ≤ 24) (kz : z.length ≤ 24) (he0 : e0 < 4294967296) (he1 : e1 < 4294967296)
    (ht : pow10Is w) (hz : bv z = 0) (hr : bv a % 2305843009213691579 = 0) (hza : z = a)
    (hca' : ∀ w', Ch w.heap.size none1 w w' → (convert 22 24 (.slice none (min (0:Int) 24).toNat 0)).run Tryd.prog w' = .ok (S a) w')
    (hcz' : ∀ w', Ch w.heap.size none1 w w' → (convert 22 24 (.slice none (min (0:Int) 24).toNat 0)).run Tryd.prog w' = .ok (S z) w') :
    Calls Tryd.prog 10 #[.slice none 0 0, .agg #[.int .u32 (e0 : Int), .int .u32 (e1 : Int)], .slice none 0 0] w (Yld w (.bool true)) := by
  have la : a.length ≤ 10000 := by omega
  have lz : z.length ≤ 10000 := by omega
  obtain ⟨u, eu, vu⟩ := has_nb e0
  obtain ⟨v, ev', vv⟩ := has_nb e1
  obtain ⟨uv, euv, vuv⟩ := has_nb (e0 + e1)
  have lu := nbl 5 eu (by omega) (by decide)
  have lv := nbl 5 ev' (by omega) (by decide)
  have luv := nbl 5 euv (by omega) (by decide)
  obtain ⟨L, hL⟩ : ∃ L, L = 2305843009213691579 := ⟨_, rfl⟩
  rw [← hL] at hr
  obtain ⟨pl, epl, vpl⟩ := has_nb L
  obtain ⟨pm, epm, vpm⟩ := has_nb (L - 1)
  have lpl := nbl 8 epl (by rw [hL]; decide) (by decide)
  have lpm := nbl 8 epm (by rw [hL]; decide) (by decide)
  have hplp : 0 < bv pl := by rw [vpl, hL]; decide
  have hF := fermat_large L hL (bv a)
  have hL1 : 1 < L := by rw [hL]; decide
  have hkb : (nbits (bv z) : Int) = 0 := by rw [hz, nbits_zero]; rfl
  have hone : bv a ^ bv pm % bv pl = 0 := by rw [vpm, vpl, Nat.pow_mod, hr, Nat.zero_pow (by omega), Nat.zero_mod]
  obtain ⟨pq2, epq2, vpq2⟩ := has_nb (bv a / bv pl)
  have hrr : bv a % bv pl = 0 := by rw [vpl]; exact hr
  have g1 := (C_refOf (n := IntKind.i64.wrap (e0 : Int)) (l := u) (by rw [IntWalk.i64_in _ (by omega)]; exact eu) (by rw [IntWalk.i64_in _ (by omega)]; omega) (by rw [IntWalk.i64_in _ (by omega)]; omega))
  have g2 := (C_refOf (n := IntKind.i64.wrap (e1 : Int)) (l := v) (by rw [IntWalk.i64_in _ (by omega)]; exact ev') (by rw [IntWalk.i64_in _ (by omega)]; omega) (by rw [IntWalk.i64_in _ (by omega)]; omega))
  have g3 := (C_refOf (n := 2305843009213691579) (l := pl) (by rw [← epl, hL]; rfl) (by decide) (by decide))
  have g4 := (C_refOf (n := 2305843009213691578) (l := pm) (by rw [← epm, hL]; rfl) (by decide) (by decide))
  have h1 := C_pow_no (a := a) (e := u) lz hz
  have h2 := C_pow_no (a := a) (e := v) lz hz
  have h3 := C_pow_no (a := a) (e := uv) lz hz
  have h4 := C_bits lz hkb
  have h7 := C_pow nb_zero la lpm lpl hplp hone
  have h8 := C_quo epq2 nb_zero la lpl hplp rfl hrr
  have h9 := C_add euv lu lv (by rw [vu, vv])
  rw [hza] at hcz' h1 h2 h3 h4
  have HS := Lib.hid (sanity_all w ht)
  have HCA := Lib.hid hca'
  have HCZ := Lib.hid hcz'
  have G1 := Lib.hid g1
  have G2 := Lib.hid g2
  have G3 := Lib.hid g3
  have G4 := Lib.hid g4
  have H1 := Lib.hid h1
  have H2 := Lib.hid h2
  have H3 := Lib.hid h3
  have H4 := Lib.hid h4
  have H7 := Lib.hid h7
  have H8 := Lib.hid h8
  have H9 := Lib.hid h9
  clear g1 g2 g3 g4 h1 h2 h3 h4 h7 h8 h9 hca' hcz' ht ka kz la lz eu vu ev' vv euv vuv lu lv luv epl vpl epm vpm lpl lpm hplp hF hL hL1 hone epq2 vpq2 hkb hz hrr hr
  have HC := Lib.hid (Ch.refl w.heap.size none1 w)
  go_enter Tryd.func10, Tryd.ntmps10
  have hlb := Blk.new w #[Value.int .u32 (e0 : Int), .int .u32 (e1 : Int)] 48
  go_wp2_with (first
    | (go_at_call 11; with_reducible refine (HS.out _ (HC.out.alloc (Nat.le_refl _) _)).mono ?_; rintro e w' ⟨rfl, hC⟩))
  have hcw := (HC.out.alloc (Nat.le_refl _) (.cells #[Value.int .u32 (e0 : Int), .int .u32 (e1 : Int)] 48 (0, 0))).trans (hC.mono (size_alloc_le _ (Nat.le_refl _)) (fun _ _ q => q))
  have hbw := hC.blk hlb (Blk.lt hlb) (fun q => q)
  have hlt0 : w.heap.size < w'.heap.size := hbw.lt
  have ca2 := fun n => HCA.out _ (hcw.drewN n)
  have cz2 := fun n => HCZ.out _ (hcw.drewN n)
  have HCW := Lib.hid hcw
  have HBW := Lib.hid hbw
  have HLT := Lib.hid hlt0
  clear hcw hbw hC hlb HC HCA HCZ hlt0
  go_quiet (fail)
  clear ca2 cz2
  go_wp2_with fail
  obtain ⟨B, hB⟩ : ∃ B, w.heap.size = B := ⟨_, rfl⟩
  rw [hB] at HBW HLT ⊢
  have hcw0 := HCW.out.drewN nq
  have hbw0 := HBW.out.drewN nq
  obtain ⟨W0, hW0⟩ : ∃ W, w'.drewN nq = W := ⟨_, rfl⟩
  rw [hW0] at hcw0 hbw0 ⊢
  have HCW0 := Lib.hid hcw0.drew
  have HS0 := Lib.hid (show W0.drew.cell? ⟨B, 0, none⟩ = some (.int .u32 (e0 : Int)) ∧ W0.drew.cell? ⟨B, 1, none⟩ = some (.int .u32 (e1 : Int)) from ⟨hbw0.cell 0, hbw0.cell 1⟩)
  have HLT2 := Lib.hid (show B < W0.drew.heap.size from hbw0.lt)
  clear hW0 hcw0 hbw0
  clear HCW HBW HLT
  go_region_held3 (fun w' => w'.cell? ⟨B, 0, none⟩ = some (.int .u32 (e0 : Int)) ∧ w'.cell? ⟨B, 1, none⟩ = some (.int .u32 (e1 : Int)))
    (first
      | (with_reducible exact HS0.out)
      | (with_reducible exact keep2 HY.out HLT2.out HS0.out)
      | (with_reducible exact keep2 HX.out HLT2.out HS0.out)
      | go_keep)
    (first
      | (go_at_call 29; with_reducible refine (G1.out _).mono ?_; rintro e wb ⟨rfl, hCb⟩; have HY := Lib.hid (HX.out.step0 hCb (Nat.le_refl _)); clear hCb HX)
      | (go_at_call 29; with_reducible refine (G2.out _).mono ?_; rintro e wb ⟨rfl, hCb⟩; have HY := Lib.hid (HX.out.step0 hCb (Nat.le_refl _)); clear hCb HX)
      | (go_at_call 29; with_reducible refine (G1.out _).mono ?_; rintro e wa ⟨rfl, hCa⟩; have HX := Lib.hid hCa; clear hCa)
      | (go_at_call 29; with_reducible refine (G2.out _).mono ?_; rintro e wa ⟨rfl, hCa⟩; have HX := Lib.hid hCa; clear hCa))
  all_goals
    have HC := Lib.hid (HCW0.out.trans (HY.out.mono HCW0.out.size (fun _ _ q => q)))
    clear HY HS0 HLT2 HCW0
    go_wp2_with (first
    | (go_at_call 25; with_reducible refine (H1.out _).mono ?_; rintro e w' ⟨rfl, hC⟩; have HC2 := Lib.hid (HC.out.trans (hC.mono HC.out.size (fun _ _ q => q))); clear hC HC; have HC := HC2; clear HC2)
    | (go_at_call 25; with_reducible refine (H2.out _).mono ?_; rintro e w' ⟨rfl, hC⟩; have HC2 := Lib.hid (HC.out.trans (hC.mono HC.out.size (fun _ _ q => q))); clear hC HC; have HC := HC2; clear HC2)
    | (go_at_call 25; with_reducible refine (H3.out _).mono ?_; rintro e w' ⟨rfl, hC⟩; have HC2 := Lib.hid (HC.out.trans (hC.mono HC.out.size (fun _ _ q => q))); clear hC HC; have HC := HC2; clear HC2)
    | (go_at_call 31; with_reducible refine (H4.out _).mono ?_; rintro e w' ⟨rfl, hC⟩; have HC2 := Lib.hid (HC.out.trans (hC.mono HC.out.size (fun _ _ q => q))); clear hC HC; have HC := HC2; clear HC2)
    | (go_at_call 25; with_reducible refine (H7.out _).mono ?_; rintro e w' ⟨rfl, hC⟩; have HC2 := Lib.hid (HC.out.trans (hC.mono HC.out.size (fun _ _ q => q))); clear hC HC; have HC := HC2; clear HC2)
    | (go_at_call 34; with_reducible refine (H8.out _).mono ?_; rintro e w' ⟨rfl, hC⟩; have HC2 := Lib.hid (HC.out.trans (hC.mono HC.out.size (fun _ _ q => q))); clear hC HC; have HC := HC2; clear HC2)
    | (go_at_call 15; with_reducible refine (H9.out _).mono ?_; rintro e w' ⟨rfl, hC⟩; have HC2 := Lib.hid (HC.out.trans (hC.mono HC.out.size (fun _ _ q => q))); clear hC HC; have HC := HC2; clear HC2)
    | (go_at_call 29; with_reducible refine (G3.out _).mono ?_; rintro e w' ⟨rfl, hC⟩; have HC2 := Lib.hid (HC.out.trans (hC.mono HC.out.size (fun _ _ q => q))); clear hC HC; have HC := HC2; clear HC2)
    | (go_at_call 29; with_reducible refine (G4.out _).mono ?_; rintro e w' ⟨rfl, hC⟩; have HC2 := Lib.hid (HC.out.trans (hC.mono HC.out.size (fun _ _ q => q))); clear hC HC; have HC := HC2; clear HC2))
  all_goals
    go_ret
    exact ⟨rfl, HC.out⟩
set_option maxRecDepth 100000 in
set_option maxHeartbeats 3200000 in
theorem fer_nn_zu (e0 e1 : Nat) (a z : List UInt8) (w : World) (ka : a.length ≤ 24) (kz : z.length ≤ 24) (he0 : e0 < 4294967296) (he1 : e1 < 4294967296)
    (ht : pow10Is w) (hz : bv z = 0) (hr : ¬ bv a % 2305843009213691579 = 0) (hza : z = a)
    (hca' : ∀ w', Ch w.heap.size none1 w w' → (convert 22 24 (.slice none (min (0:Int) 24).toNat 0)).run Tryd.prog w' = .ok (S a) w')
    (hcz' : ∀ w', Ch w.heap.size none1 w w' → (convert 22 24 (.slice none (min (0:Int) 24).toNat 0)).run Tryd.prog w' = .ok (S z) w') :
    Calls Tryd.prog 10 #[.slice none 0 0, .agg #[.int .u32 (e0 : Int), .int .u32 (e1 : Int)], .slice none 0 0] w (Yld w (.bool true)) := by
  have la : a.length ≤ 10000 := by omega
  have lz : z.length ≤ 10000 := by omega
  obtain ⟨u, eu, vu⟩ := has_nb e0
  obtain ⟨v, ev', vv⟩ := has_nb e1
  obtain ⟨uv, euv, vuv⟩ := has_nb (e0 + e1)
  have lu := nbl 5 eu (by omega) (by decide)
  have lv := nbl 5 ev' (by omega) (by decide)
  have luv := nbl 5 euv (by omega) (by decide)
  obtain ⟨L, hL⟩ : ∃ L, L = 2305843009213691579 := ⟨_, rfl⟩
  rw [← hL] at hr
  obtain ⟨pl, epl, vpl⟩ := has_nb L
  obtain ⟨pm, epm, vpm⟩ := has_nb (L - 1)
  have lpl := nbl 8 epl (by rw [hL]; decide) (by decide)
  have lpm := nbl 8 epm (by rw [hL]; decide) (by decide)
  have hplp : 0 < bv pl := by rw [vpl, hL]; decide
  have hF := fermat_large L hL (bv a)
  have hL1 : 1 < L := by rw [hL]; decide
  have hkb : (nbits (bv z) : Int) = 0 := by rw [hz, nbits_zero]; rfl
  have hone : bv a ^ bv pm % bv pl = 1 := by rw [vpm, vpl]; exact hF hr
  have hnb1 : nb 1 = [1] := by rw [nb_is [1] 1 (by decide) (by decide)]
  obtain ⟨pq2, epq2, vpq2⟩ := has_nb (bv a / bv pl)
  obtain ⟨pr, epr, vpr⟩ := has_nb (bv a % bv pl)
  have hpr : ¬ pr = [] := fun h => by rw [h, vpl] at vpr; exact hr vpr.symm
  obtain ⟨r0, rs, rfl⟩ : ∃ r0 rs, pr = r0 :: rs := by
    cases pr with
    | nil => exact absurd rfl hpr
    | cons r0 rs => exact ⟨r0, rs, rfl⟩
  have g1 := (C_refOf (n := IntKind.i64.wrap (e0 : Int)) (l := u) (by rw [IntWalk.i64_in _ (by omega)]; exact eu) (by rw [IntWalk.i64_in _ (by omega)]; omega) (by rw [IntWalk.i64_in _ (by omega)]; omega))
  have g2 := (C_refOf (n := IntKind.i64.wrap (e1 : Int)) (l := v) (by rw [IntWalk.i64_in _ (by omega)]; exact ev') (by rw [IntWalk.i64_in _ (by omega)]; omega) (by rw [IntWalk.i64_in _ (by omega)]; omega))
  have g3 := (C_refOf (n := 2305843009213691579) (l := pl) (by rw [← epl, hL]; rfl) (by decide) (by decide))
  have g4 := (C_refOf (n := 2305843009213691578) (l := pm) (by rw [← epm, hL]; rfl) (by decide) (by decide))
  have h1 := C_pow_no (a := a) (e := u) lz hz
  have h2 := C_pow_no (a := a) (e := v) lz hz
  have h3 := C_pow_no (a := a) (e := uv) lz hz
  have h4 := C_bits lz hkb
  have h7 := C_pow hnb1 la lpm lpl hplp hone
  have h8 := C_quo epq2 epr la lpl hplp rfl rfl
  have h9 := C_add euv lu lv (by rw [vu, vv])
  rw [hza] at hcz' h1 h2 h3 h4
  have HS := Lib.hid (sanity_all w ht)
  have HCA := Lib.hid hca'
  have HCZ := Lib.hid hcz'
  have G1 := Lib.hid g1
  have G2 := Lib.hid g2
  have G3 := Lib.hid g3
  have G4 := Lib.hid g4
  have H1 := Lib.hid h1
  have H2 := Lib.hid h2
  have H3 := Lib.hid h3
  have H4 := Lib.hid h4
  have H7 := Lib.hid h7
  have H8 := Lib.hid h8
  have H9 := Lib.hid h9
  clear g1 g2 g3 g4 h1 h2 h3 h4 h7 h8 h9 hca' hcz' ht ka kz la lz eu vu ev' vv euv vuv lu lv luv epl vpl epm vpm lpl lpm hplp hF hL hL1 hone epq2 vpq2 hkb hz hnb1 epr vpr hpr hr
  have HC := Lib.hid (Ch.refl w.heap.size none1 w)
  go_enter Tryd.func10, Tryd.ntmps10
  have hlb := Blk.new w #[Value.int .u32 (e0 : Int), .int .u32 (e1 : Int)] 48
  go_wp2_with (first
    | (go_at_call 11; with_reducible refine (HS.out _ (HC.out.alloc (Nat.le_refl _) _)).mono ?_; rintro e w' ⟨rfl, hC⟩))
  have hcw := (HC.out.alloc (Nat.le_refl _) (.cells #[Value.int .u32 (e0 : Int), .int .u32 (e1 : Int)] 48 (0, 0))).trans (hC.mono (size_alloc_le _ (Nat.le_refl _)) (fun _ _ q => q))
  have hbw := hC.blk hlb (Blk.lt hlb) (fun q => q)
  have hlt0 : w.heap.size < w'.heap.size := hbw.lt
  have ca2 := fun n => HCA.out _ (hcw.drewN n)
  have cz2 := fun n => HCZ.out _ (hcw.drewN n)
  have HCW := Lib.hid hcw
  have HBW := Lib.hid hbw
  have HLT := Lib.hid hlt0
  clear hcw hbw hC hlb HC HCA HCZ hlt0
  go_quiet (fail)
  clear ca2 cz2
  go_wp2_with fail
  obtain ⟨B, hB⟩ : ∃ B, w.heap.size = B := ⟨_, rfl⟩
  rw [hB] at HBW HLT ⊢
  have hcw0 := HCW.out.drewN nq
  have hbw0 := HBW.out.drewN nq
  obtain ⟨W0, hW0⟩ : ∃ W, w'.drewN nq = W := ⟨_, rfl⟩
  rw [hW0] at hcw0 hbw0 ⊢
  have HCW0 := Lib.hid hcw0.drew
  have HS0 := Lib.hid (show W0.drew.cell? ⟨B, 0, none⟩ = some (.int .u32 (e0 : Int)) ∧ W0.drew.cell? ⟨B, 1, none⟩ = some (.int .u32 (e1 : Int)) from ⟨hbw0.cell 0, hbw0.cell 1⟩)
  have HLT2 := Lib.hid (show B < W0.drew.heap.size from hbw0.lt)
  clear hW0 hcw0 hbw0
  clear HCW HBW HLT
  go_region_held3 (fun w' => w'.cell? ⟨B, 0, none⟩ = some (.int .u32 (e0 : Int)) ∧ w'.cell? ⟨B, 1, none⟩ = some (.int .u32 (e1 : Int)))
    (first
      | (with_reducible exact HS0.out)
      | (with_reducible exact keep2 HY.out HLT2.out HS0.out)
      | (with_reducible exact keep2 HX.out HLT2.out HS0.out)
      | go_keep)
    (first
      | (go_at_call 29; with_reducible refine (G1.out _).mono ?_; rintro e wb ⟨rfl, hCb⟩; have HY := Lib.hid (HX.out.step0 hCb (Nat.le_refl _)); clear hCb HX)
      | (go_at_call 29; with_reducible refine (G2.out _).mono ?_; rintro e wb ⟨rfl, hCb⟩; have HY := Lib.hid (HX.out.step0 hCb (Nat.le_refl _)); clear hCb HX)
      | (go_at_call 29; with_reducible refine (G1.out _).mono ?_; rintro e wa ⟨rfl, hCa⟩; have HX := Lib.hid hCa; clear hCa)
      | (go_at_call 29; with_reducible refine (G2.out _).mono ?_; rintro e wa ⟨rfl, hCa⟩; have HX := Lib.hid hCa; clear hCa))
  all_goals
    have HC := Lib.hid (HCW0.out.trans (HY.out.mono HCW0.out.size (fun _ _ q => q)))
    clear HY HS0 HLT2 HCW0
    go_wp2_with (first
    | (go_at_call 25; with_reducible refine (H1.out _).mono ?_; rintro e w' ⟨rfl, hC⟩; have HC2 := Lib.hid (HC.out.trans (hC.mono HC.out.size (fun _ _ q => q))); clear hC HC; have HC := HC2; clear HC2)
    | (go_at_call 25; with_reducible refine (H2.out _).mono ?_; rintro e w' ⟨rfl, hC⟩; have HC2 := Lib.hid (HC.out.trans (hC.mono HC.out.size (fun _ _ q => q))); clear hC HC; have HC := HC2; clear HC2)
    | (go_at_call 25; with_reducible refine (H3.out _).mono ?_; rintro e w' ⟨rfl, hC⟩; have HC2 := Lib.hid (HC.out.trans (hC.mono HC.out.size (fun _ _ q => q))); clear hC HC; have HC := HC2; clear HC2)
    | (go_at_call 31; with_reducible refine (H4.out _).mono ?_; rintro e w' ⟨rfl, hC⟩; have HC2 := Lib.hid (HC.out.trans (hC.mono HC.out.size (fun _ _ q => q))); clear hC HC; have HC := HC2; clear HC2)
    | (go_at_call 25; with_reducible refine (H7.out _).mono ?_; rintro e w' ⟨rfl, hC⟩; have HC2 := Lib.hid (HC.out.trans (hC.mono HC.out.size (fun _ _ q => q))); clear hC HC; have HC := HC2; clear HC2)
    | (go_at_call 34; with_reducible refine (H8.out _).mono ?_; rintro e w' ⟨rfl, hC⟩; have HC2 := Lib.hid (HC.out.trans (hC.mono HC.out.size (fun _ _ q => q))); clear hC HC; have HC := HC2; clear HC2)
    | (go_at_call 15; with_reducible refine (H9.out _).mono ?_; rintro e w' ⟨rfl, hC⟩; have HC2 := Lib.hid (HC.out.trans (hC.mono HC.out.size (fun _ _ q => q))); clear hC HC; have HC := HC2; clear HC2)
    | (go_at_call 29; with_reducible refine (G3.out _).mono ?_; rintro e w' ⟨rfl, hC⟩; have HC2 := Lib.hid (HC.out.trans (hC.mono HC.out.size (fun _ _ q => q))); clear hC HC; have HC := HC2; clear HC2)
    | (go_at_call 29; with_reducible refine (G4.out _).mono ?_; rintro e w' ⟨rfl, hC⟩; have HC2 := Lib.hid (HC.out.trans (hC.mono HC.out.size (fun _ _ q => q))); clear hC HC; have HC := HC2; clear HC2))
  all_goals
    go_ret
    exact ⟨rfl, HC.out⟩
theorem fermat_core (vx : Value) (e0 e1 : Int) (vz : Value) (lx lz : List UInt8) (w : World) (hx : BS w vx lx) (he0 : (Lit.int .u32 e0).wf = true) (he1 : (Lit.int .u32 e1).wf = true) (hz : BS w vz lz) (ht : pow10Is w) :
    Calls Tryd.prog 10 #[vx, .agg #[.int .u32 e0, .int .u32 e1], vz] w (Yld w (.bool true)) := by
  have b0 : IntKind.u32.min ≤ e0 ∧ e0 ≤ IntKind.u32.max := by simpa [Lit.wf] using he0
  have b1 : IntKind.u32.min ≤ e1 ∧ e1 ≤ IntKind.u32.max := by simpa [Lit.wf] using he1
  have hmin : IntKind.u32.min = 0 := by decide
  have hmax : IntKind.u32.max = 4294967295 := by decide
  rw [hmin, hmax] at b0 b1
  obtain ⟨n0, rfl⟩ := Int.eq_ofNat_of_zero_le b0.1
  obtain ⟨n1, rfl⟩ := Int.eq_ofNat_of_zero_le b1.1
  have ka : (lx.take 24).length ≤ 24 := by rw [List.length_take]; exact Nat.min_le_left _ _
  have kz : (lz.take 24).length ≤ 24 := by rw [List.length_take]; exact Nat.min_le_left _ _
  obtain ⟨pa, ca, rfl, hx1⟩ := hx
  obtain ⟨pz, cz, rfl, hz1⟩ := hz
  have hx : BS w (.slice pa lx.length ca) lx := ⟨pa, ca, rfl, hx1⟩
  have hz : BS w (.slice pz lz.length cz) lz := ⟨pz, cz, rfl, hz1⟩
  have lenx := hx.len
  have lenz := hz.len
  have hmax63 : maxLen = 9223372036854775807 := by decide
  rw [hmax63] at lenx lenz
  have cvx := fun w' (hC : Ch w.heap.size none1 w w') => conv_BS (hx.ch hC) 24 (min (lx.length : Int) 24).toNat (by omega)
  have cvz := fun w' (hC : Ch w.heap.size none1 w w') => conv_BS (hz.ch hC) 24 (min (lz.length : Int) 24).toNat (by omega)
  rcases pa with _ | xa
  · obtain ⟨h1, h2⟩ := lenx.2.2.2 rfl
    rw [h1] at cvx ⊢
    subst h2
    rcases pz with _ | xz
    · obtain ⟨h3, h4⟩ := lenz.2.2.2 rfl
      have hl0 : lz = [] := List.eq_nil_of_length_eq_zero h3
      rw [h3] at cvz ⊢
      subst h4
      have hz0 : bv (lz.take 24) = 0 := by rw [hl0]; rfl
      have hza : lz.take 24 = lx.take 24 := by rw [hl0, List.eq_nil_of_length_eq_zero h1]
      by_cases hr : bv (lx.take 24) % 2305843009213691579 = 0
      · exact fer_nn_zd n0 n1 _ _ w ka kz (by omega) (by omega) ht hz0 hr hza cvx cvz
      · exact fer_nn_zu n0 n1 _ _ w ka kz (by omega) (by omega) ht hz0 hr hza cvx cvz
    · rcases Nat.eq_zero_or_pos (bv (lz.take 24)) with hz0 | hz0
      · by_cases hr : bv (lx.take 24) % 2305843009213691579 = 0
        · exact fer_ns_zd xz _ cz lenz.2.1 lenz.2.2.1 n0 n1 _ _ w ka kz (by omega) (by omega) ht hz0 hr cvx cvz
        · exact fer_ns_zu xz _ cz lenz.2.1 lenz.2.2.1 n0 n1 _ _ w ka kz (by omega) (by omega) ht hz0 hr cvx cvz
      · by_cases hr : bv (lx.take 24) % 2305843009213691579 = 0
        · exact fer_ns_pd xz _ cz lenz.2.1 lenz.2.2.1 n0 n1 _ _ w ka kz (by omega) (by omega) ht hz0 hr cvx cvz
        · exact fer_ns_pu xz _ cz lenz.2.1 lenz.2.2.1 n0 n1 _ _ w ka kz (by omega) (by omega) ht hz0 hr cvx cvz
  · rcases pz with _ | xz
    · obtain ⟨h3, h4⟩ := lenz.2.2.2 rfl
      have hl0 : lz = [] := List.eq_nil_of_length_eq_zero h3
      rw [h3] at cvz ⊢
      subst h4
      have hz0 : bv (lz.take 24) = 0 := by rw [hl0]; rfl
      by_cases hr : bv (lx.take 24) % 2305843009213691579 = 0
      · exact fer_sn_zd xa _ ca lenx.2.1 lenx.2.2.1 n0 n1 _ _ w ka kz (by omega) (by omega) ht hz0 hr cvx cvz
      · exact fer_sn_zu xa _ ca lenx.2.1 lenx.2.2.1 n0 n1 _ _ w ka kz (by omega) (by omega) ht hz0 hr cvx cvz
    · rcases Nat.eq_zero_or_pos (bv (lz.take 24)) with hz0 | hz0
      · by_cases hr : bv (lx.take 24) % 2305843009213691579 = 0
        · exact fer_ss_zd xa _ ca lenx.2.1 lenx.2.2.1 xz _ cz lenz.2.1 lenz.2.2.1 n0 n1 _ _ w ka kz (by omega) (by omega) ht hz0 hr cvx cvz
        · exact fer_ss_zu xa _ ca lenx.2.1 lenx.2.2.1 xz _ cz lenz.2.1 lenz.2.2.1 n0 n1 _ _ w ka kz (by omega) (by omega) ht hz0 hr cvx cvz
      · by_cases hr : bv (lx.take 24) % 2305843009213691579 = 0
        · exact fer_ss_pd xa _ ca lenx.2.1 lenx.2.2.1 xz _ cz lenz.2.1 lenz.2.2.1 n0 n1 _ _ w ka kz (by omega) (by omega) ht hz0 hr cvx cvz
        · exact fer_ss_pu xa _ ca lenx.2.1 lenx.2.2.1 xz _ cz lenz.2.1 lenz.2.2.1 n0 n1 _ _ w ka kz (by omega) (by omega) ht hz0 hr cvx cvz
end Go.Proofs.YtcghnkdfhiancaaDoor
