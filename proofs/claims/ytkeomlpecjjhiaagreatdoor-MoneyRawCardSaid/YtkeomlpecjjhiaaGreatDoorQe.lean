/- Package ratio's plus and times. -/
import Derived.Test.YtkeomlpecjjhiaaGreatDoorQd
namespace Go.Proofs.YtkeomlpecjjhiaaGreatDoor
open Go.RowKit
set_option maxRecDepth 100000
theorem Is.eqs {q : Rat} {s t : Bool} {n m d e : List UInt8} (h : Is q s n d) (k : Is q t m e) : s = t ∧ n = m ∧ d = e :=
 ⟨by rw [← h.sgn, k.sgn], by rw [← h.num, k.num], by rw [← h.den, k.den]⟩
theorem sv_scale (s : Bool) (m k : Nat) : sv s (m * k) = sv s m * (k : Int) := by
 unfold sv
 cases s
 ·simp
 ·simp [Int.neg_mul]
theorem ne_empty {k : Nat} {p : List UInt8} (h : nb k = p) : (!p.isEmpty) = (k != 0) := by
 rw [← h]
 cases hk : nb k with
 | nil => have := (nb_nil_iff k).1 hk; subst this; rfl
 | cons b m =>
  have : k ≠ 0 := fun e => by rw [(nb_nil_iff k).2 e] at hk; simp at hk
  simp [this]
theorem nbl' {n : Nat} {l : List UInt8} (k : Nat) (hl : nb n = l) (h : n < 256 ^ k) : l.length ≤ k := by rw [← hl]; exact (nb_len _ _).2 h
theorem div_lt' {a b M : Nat} (h : a < M) : a / b < M := Nat.lt_of_le_of_lt (Nat.div_le_self _ _) h
set_option maxHeartbeats 3200000 in
theorem C_plus {a b : Rat} {s t r : Bool} {n d m e k f : List UInt8} (ia : Is a s n d) (ib : Is b t m e) (ic : Is (a + b) r k f) (hn : n.length ≤ 1000) (hd : d.length ≤ 1000) (hm : m.length ≤ 1000) (he : e.length ≤ 1000) :
  Ans 111 #[Rv s n d, Rv t m e] (Rv r k f) := fun w => by
 obtain ⟨G, hG⟩ : ∃ G, Nat.gcd (bv d) (bv e) = G := ⟨_, rfl⟩
 have hG0 : 0 < G := by rw [← hG]; exact Nat.gcd_pos_of_pos_left _ ia.pos
 have bn := bv_b hn
 have bd := bv_b hd
 have bm := bv_b hm
 have be := bv_b he
 have hGb : G < 256 ^ 1000 := by rw [← hG]; exact gcd_lt bd be
 obtain ⟨g, eg, vg⟩ := has_nb G
 obtain ⟨oa, eoa, voa⟩ := has_nb (bv d / G)
 obtain ⟨ob, eob, vob⟩ := has_nb (bv e / G)
 have loa := nbl' 1000 eoa (div_lt' bd)
 have lob := nbl' 1000 eob (div_lt' be)
 have lg := nbl' 1000 eg hGb
 obtain ⟨x, ex, vx⟩ := has_nb (bv n * (bv e / G))
 obtain ⟨y, ey, vy⟩ := has_nb (bv m * (bv d / G))
 have bx := mulb bn (div_lt' (b := G) be)
 have by' := mulb bm (div_lt' (b := G) bd)
 have lx := nbl' _ ex bx
 have ly := nbl' _ ey by'
 obtain ⟨⟨ng, N⟩, hN⟩ : ∃ p, dsum s (bv x) t (bv y) = p := ⟨_, rfl⟩
 have hNl : N ≤ bv x + bv y := by have := dsum_le s (bv x) t (bv y); rw [hN] at this; exact this
 have hNv := dsum_val s (bv x) t (bv y)
 rw [hN] at hNv
 have bN := Nat.lt_of_le_of_lt hNl (by rw [vx, vy]; exact add_bound (m := 1000 + 1000) bx by')
 obtain ⟨nu, enu, vnu⟩ := has_nb N
 have lnu := nbl' _ enu bN
 obtain ⟨H, hH⟩ : ∃ H, Nat.gcd N G = H := ⟨_, rfl⟩
 have hH0 : 0 < H := by rw [← hH]; exact Nat.gcd_pos_of_pos_right _ hG0
 obtain ⟨h, eh, vh⟩ := has_nb H
 have lh := nbl' 1000 eh (by rw [← hH]; exact Nat.lt_of_le_of_lt (Nat.gcd_le_right _ hG0) hGb)
 obtain ⟨p, ep, vp⟩ := has_nb (N / H)
 obtain ⟨q, eq, vq⟩ := has_nb (bv e / H)
 have lq := nbl' 1000 eq (div_lt' be)
 obtain ⟨dd, edd, vdd⟩ := has_nb (bv d / G * (bv e / H))
 have hway := plus_way a b G N ng (by rw [← ia.vd, ← ib.vd]; exact hG) (by
  rw [hNv, vx, vy, sv_scale, sv_scale, ia.val, ib.val, ia.vd, ib.vd])
 rw [hH, ← ia.vd, ← ib.vd] at hway
 obtain ⟨q1, q2, q3⟩ := ic.eqs (Is.of hway.1 hway.2 ep edd)
 rw [← ne_empty ep] at q1
 have h1 := C_common (a := d) (b := e) eg (by omega) (by omega) hG
 have h2 := C_quotient (a := d) (g := g) eoa (by omega) (by omega) ia.rtd (by rw [vg]; exact hG0) (by rw [vg])
 have h3 := C_quotient (a := e) (g := g) eob (by omega) (by omega) ib.rtd (by rw [vg]; exact hG0) (by rw [vg])
 have h4 := C_product (a := n) (b := ob) ex (by omega) (by omega) ia.rtn (eob ▸ rt_nb _) (by rw [vob])
 have h5 := C_product (a := m) (b := oa) ey (by omega) (by omega) ib.rtn (eoa ▸ rt_nb _) (by rw [voa])
 have h6 := C_diff (s := s) (t := t) (a := x) (b := y) enu (by omega) (by omega) hN
 have h7 := C_common (a := nu) (b := g) eh (by omega) (by omega) (by rw [vnu, vg]; exact hH)
 have h8 := C_quotient (a := nu) (g := h) ep (by omega) (by omega) (enu ▸ rt_nb _) (by rw [vh]; exact hH0) (by rw [vnu, vh])
 have h9 := C_quotient (a := e) (g := h) eq (by omega) (by omega) ib.rtd (by rw [vh]; exact hH0) (by rw [vh])
 have h10 := C_product (a := oa) (b := q) edd (by omega) (by omega) (eoa ▸ rt_nb _) (eq ▸ rt_nb _) (by rw [voa, vq])
 have h11 := C_signed ng p dd
 rw [← q1, ← q2, ← q3] at h11
 rw [← q3] at h10
 rw [← q2] at h8
 have H1 := Lib.hid h1
 have H2 := Lib.hid h2
 have H3 := Lib.hid h3
 have H4 := Lib.hid h4
 have H5 := Lib.hid h5
 have H6 := Lib.hid h6
 have H7 := Lib.hid h7
 have H8 := Lib.hid h8
 have H9 := Lib.hid h9
 have H10 := Lib.hid h10
 have H11 := Lib.hid h11
 clear h1 h2 h3 h4 h5 h6 h7 h8 h9 h10 h11 q1 q2 q3 hway ia ib ic hn hd hm he hG hG0 bn bd bm be hGb eg vg eoa voa eob vob loa lob lg ex vx ey vy bx by' lx ly hN hNl hNv bN enu vnu lnu hH hH0 eh vh lh ep vp eq vq lq edd vdd
 have HB := Lib.hid (Box.three w #[.bool s, S n, S d] #[.bool t, S m, S e] #[.bool false, S [], S []])
 obtain ⟨B, hB⟩ : ∃ B, w.heap.size = B := ⟨_, rfl⟩
 rw [hB] at HB
 obtain ⟨a0, a1, a2, b0, b1, b2⟩ := HB.out.cells2
 go_enter Tryz.func111, Tryz.ntmps111
 go_wp2_with fail
 refine (H1.out _).mono ?_
 rintro e w1 ⟨rfl, hC⟩
 have HB2 := Lib.hid (HB.out.on hC)
 clear hC HB a0 a1 a2 b0 b1 b2
 have HB := HB2
 clear HB2
 obtain ⟨a0, a1, a2, b0, b1, b2⟩ := HB.out.cells2
 go_wp2_with fail
 clear a0 a1 a2 b0 b1 b2
 have HBD := Lib.hid HB.out.drew
 clear HB
 have HB := HBD
 clear HBD
 go_region_held3 (fun w' => w'.cell? ⟨B, 0, none⟩ = some (.bool s) ∧ w'.cell? ⟨B, 1, none⟩ = some (S n) ∧ w'.cell? ⟨B, 2, none⟩ = some (S d) ∧ w'.cell? ⟨B + 1, 0, none⟩ = some (.bool t) ∧ w'.cell? ⟨B + 1, 1, none⟩ = some (S m) ∧ w'.cell? ⟨B + 1, 2, none⟩ = some (S e))
  (first
   | (with_reducible exact HB.out.cells2)
   | go_keep)
  (first
   | (go_at_call 99; with_reducible refine (H2.out _).mono ?_; rintro e wq ⟨rfl, hCq⟩; have HB2 := Lib.hid (HB.out.on hCq); clear hCq HB; have HB := HB2; clear HB2)
   | (go_at_call 99; with_reducible refine (H3.out _).mono ?_; rintro e wq ⟨rfl, hCq⟩; have HB2 := Lib.hid (HB.out.on hCq); clear hCq HB; have HB := HB2; clear HB2))
 obtain ⟨a0, a1, a2, b0, b1, b2⟩ := HB.out.cells2
 go_wp2_with fail
 clear a0 a1 a2 b0 b1 b2
 have HBD := Lib.hid HB.out.drew
 clear HB
 have HB := HBD
 clear HBD
 go_region_held3 (fun w' => w'.cell? ⟨B, 0, none⟩ = some (.bool s) ∧ w'.cell? ⟨B, 1, none⟩ = some (S n) ∧ w'.cell? ⟨B, 2, none⟩ = some (S d) ∧ w'.cell? ⟨B + 1, 0, none⟩ = some (.bool t) ∧ w'.cell? ⟨B + 1, 1, none⟩ = some (S m) ∧ w'.cell? ⟨B + 1, 2, none⟩ = some (S e))
  (first
   | (with_reducible exact HB.out.cells2)
   | go_keep)
  (first
   | (go_at_call 98; with_reducible refine (H4.out _).mono ?_; rintro e wq ⟨rfl, hCq⟩; have HB2 := Lib.hid (HB.out.on hCq); clear hCq HB; have HB := HB2; clear HB2)
   | (go_at_call 98; with_reducible refine (H5.out _).mono ?_; rintro e wq ⟨rfl, hCq⟩; have HB2 := Lib.hid (HB.out.on hCq); clear hCq HB; have HB := HB2; clear HB2)
   | (go_at_call 151; with_reducible refine (H6.out _).mono ?_; rintro e wq ⟨rfl, hCq⟩; have HB2 := Lib.hid (HB.out.on hCq); clear hCq HB; have HB := HB2; clear HB2))
 obtain ⟨a0, a1, a2, b0, b1, b2⟩ := HB.out.cells2
 go_wp2_with fail
 refine (H7.out _).mono ?_
 rintro e w4 ⟨rfl, hC⟩
 have HB2 := Lib.hid (HB.out.on hC)
 clear hC HB a0 a1 a2 b0 b1 b2
 have HB := HB2
 clear HB2
 obtain ⟨a0, a1, a2, b0, b1, b2⟩ := HB.out.cells2
 go_wp2_with fail
 clear a0 a1 a2 b0 b1 b2
 have HBD := Lib.hid HB.out.drew
 clear HB
 have HB := HBD
 clear HBD
 go_region_held3 (fun w' => w'.cell? ⟨B, 0, none⟩ = some (.bool s) ∧ w'.cell? ⟨B, 1, none⟩ = some (S n) ∧ w'.cell? ⟨B, 2, none⟩ = some (S d) ∧ w'.cell? ⟨B + 1, 0, none⟩ = some (.bool t) ∧ w'.cell? ⟨B + 1, 1, none⟩ = some (S m) ∧ w'.cell? ⟨B + 1, 2, none⟩ = some (S e))
  (first
   | (with_reducible exact HB.out.cells2)
   | (exact HB.out.cells2p _ _ _)
   | go_keep)
  (first
   | (go_at_call 99; with_reducible refine (H8.out _).mono ?_; rintro e wq ⟨rfl, hCq⟩; have HB2 := Lib.hid (HB.out.on hCq); clear hCq HB; have HB := HB2; clear HB2)
   | (go_at_call 99; with_reducible refine (H9.out _).mono ?_; rintro e wq ⟨rfl, hCq⟩; have HB2 := Lib.hid (HB.out.on hCq); clear hCq HB; have HB := HB2; clear HB2)
   | (go_at_call 98; with_reducible refine (H10.out _).mono ?_; rintro e wq ⟨rfl, hCq⟩; have HB2 := Lib.hid (HB.out.on hCq); clear hCq HB; have HB := HB2; clear HB2)
   | (go_at_call 140; with_reducible refine (H11.out _).mono ?_; rintro e wq ⟨rfl, hCq⟩; have HB2 := Lib.hid (HB.out.on hCq); clear hCq HB; have HB := HB2; clear HB2; obtain ⟨e0, e1, e2, f0, f1, f2⟩ := HB.out.store (i := 2) rfl))
 go_wp2_with fail
 have hp := HB.out.put (i := 2) rfl (.bool r) (S k) (S f)
 refine bodyPost_ret (results_cell_row (P := Tryz.prog) rfl _ _ (B + 2) 26 _ (0, 0) _ rfl hp.1 Tryz.underlying26 rfl (by kernel_rfl)) rfl ?_
 exact ⟨rfl, hp.2⟩
set_option maxHeartbeats 3200000 in
theorem C_times {a b : Rat} {s t r : Bool} {n d m e k f : List UInt8} (ia : Is a s n d) (ib : Is b t m e) (ic : Is (a * b) r k f) (hn : n.length ≤ 1000) (hd : d.length ≤ 1000) (hm : m.length ≤ 1000) (he : e.length ≤ 1000) :
  Ans 107 #[Rv s n d, Rv t m e] (Rv r k f) := fun w => by
 obtain ⟨G, hG⟩ : ∃ G, Nat.gcd (bv n) (bv e) = G := ⟨_, rfl⟩
 obtain ⟨H, hH⟩ : ∃ H, Nat.gcd (bv m) (bv d) = H := ⟨_, rfl⟩
 have hG0 : 0 < G := by rw [← hG]; exact Nat.gcd_pos_of_pos_right _ ib.pos
 have hH0 : 0 < H := by rw [← hH]; exact Nat.gcd_pos_of_pos_right _ ia.pos
 have bn := bv_b hn
 have bd := bv_b hd
 have bm := bv_b hm
 have be := bv_b he
 obtain ⟨g, eg, vg⟩ := has_nb G
 obtain ⟨h, eh, vh⟩ := has_nb H
 have lg := nbl' 1000 eg (by rw [← hG]; exact gcd_lt bn be)
 have lh := nbl' 1000 eh (by rw [← hH]; exact gcd_lt bm bd)
 obtain ⟨x, ex, vx⟩ := has_nb (bv n / G)
 obtain ⟨y, ey, vy⟩ := has_nb (bv m / H)
 obtain ⟨u, eu, vu⟩ := has_nb (bv d / H)
 obtain ⟨v, ev', vv⟩ := has_nb (bv e / G)
 have lx := nbl' 1000 ex (div_lt' bn)
 have ly := nbl' 1000 ey (div_lt' bm)
 have lu := nbl' 1000 eu (div_lt' bd)
 have lv := nbl' 1000 ev' (div_lt' be)
 obtain ⟨p, ep, vp⟩ := has_nb (bv n / G * (bv m / H))
 obtain ⟨q, eq, vq⟩ := has_nb (bv d / H * (bv e / G))
 have hway := times_way a b G H (by rw [← ia.vn, ← ib.vd]; exact hG) (by rw [← ib.vn, ← ia.vd]; exact hH)
 rw [ia.sgn, ib.sgn, ← ia.vn, ← ib.vn, ← ia.vd, ← ib.vd] at hway
 obtain ⟨q1, q2, q3⟩ := ic.eqs (Is.of hway.1 hway.2 ep eq)
 rw [← ne_empty ep] at q1
 have h1 := C_common (a := n) (b := e) eg (by omega) (by omega) hG
 have h2 := C_common (a := m) (b := d) eh (by omega) (by omega) hH
 have h3 := C_quotient (a := n) (g := g) ex (by omega) (by omega) ia.rtn (by rw [vg]; exact hG0) (by rw [vg])
 have h4 := C_quotient (a := m) (g := h) ey (by omega) (by omega) ib.rtn (by rw [vh]; exact hH0) (by rw [vh])
 have h5 := C_product (a := x) (b := y) ep (by omega) (by omega) (ex ▸ rt_nb _) (ey ▸ rt_nb _) (by rw [vx, vy])
 have h6 := C_quotient (a := d) (g := h) eu (by omega) (by omega) ia.rtd (by rw [vh]; exact hH0) (by rw [vh])
 have h7 := C_quotient (a := e) (g := g) ev' (by omega) (by omega) ib.rtd (by rw [vg]; exact hG0) (by rw [vg])
 have h8 := C_product (a := u) (b := v) eq (by omega) (by omega) (eu ▸ rt_nb _) (ev' ▸ rt_nb _) (by rw [vu, vv])
 have h9 := C_signed (s != t) p q
 rw [← q1, ← q2, ← q3] at h9
 rw [← q3] at h8
 rw [← q2] at h5
 have H1 := Lib.hid h1
 have H2 := Lib.hid h2
 have H3 := Lib.hid h3
 have H4 := Lib.hid h4
 have H5 := Lib.hid h5
 have H6 := Lib.hid h6
 have H7 := Lib.hid h7
 have H8 := Lib.hid h8
 have H9 := Lib.hid h9
 clear h1 h2 h3 h4 h5 h6 h7 h8 h9 q1 q2 q3 hway ia ib ic hn hd hm he hG hG0 hH hH0 bn bd bm be eg vg eh vh lg lh ex vx ey vy eu vu ev' vv lx ly lu lv ep vp eq vq
 have HB := Lib.hid (Box.three w #[.bool s, S n, S d] #[.bool t, S m, S e] #[.bool false, S [], S []])
 obtain ⟨B, hB⟩ : ∃ B, w.heap.size = B := ⟨_, rfl⟩
 rw [hB] at HB
 obtain ⟨a0, a1, a2, b0, b1, b2⟩ := HB.out.cells2
 go_enter Tryz.func107, Tryz.ntmps107
 go_wp2_with fail
 clear a0 a1 a2 b0 b1 b2
 have HBD := Lib.hid HB.out.drew
 clear HB
 have HB := HBD
 clear HBD
 go_region_held3 (fun w' => w'.cell? ⟨B, 0, none⟩ = some (.bool s) ∧ w'.cell? ⟨B, 1, none⟩ = some (S n) ∧ w'.cell? ⟨B, 2, none⟩ = some (S d) ∧ w'.cell? ⟨B + 1, 0, none⟩ = some (.bool t) ∧ w'.cell? ⟨B + 1, 1, none⟩ = some (S m) ∧ w'.cell? ⟨B + 1, 2, none⟩ = some (S e))
  (first
   | (with_reducible exact HB.out.cells2)
   | go_keep)
  (first
   | (go_at_call 113; with_reducible refine (H1.out _).mono ?_; rintro e wq ⟨rfl, hCq⟩; have HB2 := Lib.hid (HB.out.on hCq); clear hCq HB; have HB := HB2; clear HB2)
   | (go_at_call 113; with_reducible refine (H2.out _).mono ?_; rintro e wq ⟨rfl, hCq⟩; have HB2 := Lib.hid (HB.out.on hCq); clear hCq HB; have HB := HB2; clear HB2))
 obtain ⟨a0, a1, a2, b0, b1, b2⟩ := HB.out.cells2
 go_wp2_with fail
 clear a0 a1 a2 b0 b1 b2
 have HBD := Lib.hid HB.out.drew
 clear HB
 have HB := HBD
 clear HBD
 go_region_held3 (fun w' => w'.cell? ⟨B, 0, none⟩ = some (.bool s) ∧ w'.cell? ⟨B, 1, none⟩ = some (S n) ∧ w'.cell? ⟨B, 2, none⟩ = some (S d) ∧ w'.cell? ⟨B + 1, 0, none⟩ = some (.bool t) ∧ w'.cell? ⟨B + 1, 1, none⟩ = some (S m) ∧ w'.cell? ⟨B + 1, 2, none⟩ = some (S e))
  (first
   | (with_reducible exact HB.out.cells2)
   | go_keep)
  (first
   | (go_at_call 99; with_reducible refine (H3.out _).mono ?_; rintro e wq ⟨rfl, hCq⟩; have HB2 := Lib.hid (HB.out.on hCq); clear hCq HB; have HB := HB2; clear HB2)
   | (go_at_call 99; with_reducible refine (H4.out _).mono ?_; rintro e wq ⟨rfl, hCq⟩; have HB2 := Lib.hid (HB.out.on hCq); clear hCq HB; have HB := HB2; clear HB2)
   | (go_at_call 98; with_reducible refine (H5.out _).mono ?_; rintro e wq ⟨rfl, hCq⟩; have HB2 := Lib.hid (HB.out.on hCq); clear hCq HB; have HB := HB2; clear HB2))
 obtain ⟨a0, a1, a2, b0, b1, b2⟩ := HB.out.cells2
 go_wp2_with fail
 clear a0 a1 a2 b0 b1 b2
 have HBD := Lib.hid HB.out.drew
 clear HB
 have HB := HBD
 clear HBD
 go_region_held3 (fun w' => w'.cell? ⟨B, 0, none⟩ = some (.bool s) ∧ w'.cell? ⟨B, 1, none⟩ = some (S n) ∧ w'.cell? ⟨B, 2, none⟩ = some (S d) ∧ w'.cell? ⟨B + 1, 0, none⟩ = some (.bool t) ∧ w'.cell? ⟨B + 1, 1, none⟩ = some (S m) ∧ w'.cell? ⟨B + 1, 2, none⟩ = some (S e))
  (first
   | (with_reducible exact HB.out.cells2)
   | go_keep)
  (first
   | (go_at_call 99; with_reducible refine (H6.out _).mono ?_; rintro e wq ⟨rfl, hCq⟩; have HB2 := Lib.hid (HB.out.on hCq); clear hCq HB; have HB := HB2; clear HB2)
   | (go_at_call 99; with_reducible refine (H7.out _).mono ?_; rintro e wq ⟨rfl, hCq⟩; have HB2 := Lib.hid (HB.out.on hCq); clear hCq HB; have HB := HB2; clear HB2)
   | (go_at_call 98; with_reducible refine (H8.out _).mono ?_; rintro e wq ⟨rfl, hCq⟩; have HB2 := Lib.hid (HB.out.on hCq); clear hCq HB; have HB := HB2; clear HB2))
 obtain ⟨a0, a1, a2, b0, b1, b2⟩ := HB.out.cells2
 go_wp2_with fail
 refine (H9.out _).mono ?_
 rintro e w4 ⟨rfl, hC⟩
 have HB2 := Lib.hid (HB.out.on hC)
 clear hC HB a0 a1 a2 b0 b1 b2
 have HB := HB2
 clear HB2
 obtain ⟨a0, a1, a2, b0, b1, b2⟩ := HB.out.cells2
 obtain ⟨e0, e1, e2, f0, f1, f2⟩ := HB.out.store (i := 2) rfl
 go_wp2_with fail
 have hp := HB.out.put (i := 2) rfl (.bool r) (S k) (S f)
 refine bodyPost_ret (results_cell_row (P := Tryz.prog) rfl _ _ (B + 2) 26 _ (0, 0) _ rfl hp.1 Tryz.underlying26 rfl (by kernel_rfl)) rfl ?_
 exact ⟨rfl, hp.2⟩
end Go.Proofs.YtkeomlpecjjhiaaGreatDoor
