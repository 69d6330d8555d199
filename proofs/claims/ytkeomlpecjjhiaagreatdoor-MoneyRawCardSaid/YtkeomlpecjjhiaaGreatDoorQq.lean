/- Package ratio's Common. -/
import Derived.Test.YtkeomlpecjjhiaaGreatDoorQp
namespace Go.Proofs.YtkeomlpecjjhiaaGreatDoor
open Go.RowKit
set_option maxRecDepth 100000
abbrev FNeg : Value := .func (.func 92) #[] #[]
theorem C_isNeg (s : Bool) (n d : List UInt8) : Ans 92 #[Rv s n d] (.bool s) := fun w => by
 have HB := Lib.hid (Box.one w #[.bool s, S n, S d])
 obtain ⟨B, hB⟩ : ∃ B, w.heap.size = B := ⟨_, rfl⟩
 rw [hB] at HB
 obtain ⟨a0, a1, a2⟩ := HB.out.cells1
 go_enter Tryz.func92, Tryz.ntmps92
 go_wp2_with fail
 go_ret
 exact ⟨rfl, HB.out.ch⟩
def negs (l : List T3) : Bool := l.any fun t => t.1
theorem negs_take (l : List T3) (k : Nat) (t : T3) (h : l[k]? = some t) : negs (l.take (k + 1)) = (negs (l.take k) || t.1) := by
 unfold negs
 rw [List.take_add_one, h, List.any_append]
 simp
theorem negs_mem (l : List T3) (k : Nat) (t : T3) (h : l[k]? = some t) (ht : t.1 = true) : negs l = true := by
 unfold negs
 rw [List.any_eq_true]
 exact ⟨t, List.mem_of_getElem? h, ht⟩
set_option maxHeartbeats 3200000 in
theorem index_neg (w : World) (p : Option Addr) (n cap : Nat) (l : List T3) (hv : Rs w p n l) (hn : n ≤ 1000) :
  Calls Tryz.prog 133 #[.slice p n cap, FNeg] w fun e w' => ∃ k : Int, e = .returned (.int .i64 k) ∧ -1 ≤ k ∧ k ≤ 1000 ∧ decide (0 ≤ k) = negs l ∧ Ch w.heap.size none1 w w' := by
 have HV := Lib.hid hv
 clear hv
 have HC := Lib.hid (Ch.refl w.heap.size none1 w)
 go_enter Tryz.func133, Tryz.ntmps133
 go_wp2_with fail
 go_loopw [8] (fun i wr => ∃ k : Nat, k ≤ n ∧ i = .int .i64 k ∧ negs (l.take k) = false ∧ Ch w.heap.size none1 w wr) (fun i _ => n - (intOf i).toNat)
 case atStart => exact ⟨0, Nat.zero_le _, rfl, rfl, HC.out⟩
 case round =>
  obtain ⟨k, hk, rfl, hrel⟩ := hrel
  have HR := Lib.hid hrel
  clear hrel HC
  by_cases hlt : k < n
  ·obtain ⟨g, o, rfl⟩ := HV.out.addr (by omega)
   obtain ⟨t, ht⟩ : ∃ t, l[k]? = some t := ⟨l[k]'(by rw [HV.out.len]; exact hlt), List.getElem?_eq_getElem _⟩
   have H1 := Lib.hid (C_isNeg t.1 t.2.1 t.2.2)
   obtain ⟨c0, c1, c2⟩ := (HV.out.ch HR.out.2).get ht
   have HL := Lib.hid ht
   obtain ⟨s0, n0, d0⟩ := t
   simp only at c0 c1 c2
   simp only at H1
   clear ht
   cases s0 with
   | true =>
    go_wp2_with fail
    refine (H1.out _).mono ?_
    rintro e wq ⟨rfl, hC⟩
    have HC2 := Lib.hid (HR.out.2.step0 hC (Nat.le_refl _))
    clear hC
    go_wp2_with fail
    go_ret
    exact ⟨_, rfl, by omega, by omega, by rw [negs_mem l k _ HL.out rfl]; exact decide_eq_true (by omega), HC2.out⟩
   | false =>
    go_wp2_with fail
    refine (H1.out _).mono ?_
    rintro e wq ⟨rfl, hC⟩
    have HC2 := Lib.hid (HR.out.2.step0 hC (Nat.le_refl _))
    clear hC
    go_wp2_with fail
    go_roundw
    case rel =>
     refine ⟨k + 1, by omega, by go_num, ?_, HC2.out⟩
     rw [negs_take l k _ HL.out, HR.out.1]
     rfl
    case measure => simp [intOf]; omega
  ·have hkn : k = n := by omega
   subst hkn
   go_wp2
   go_ret
   refine ⟨_, rfl, by omega, by omega, ?_, HR.out.2⟩
   have h := HR.out.1
   rw [List.take_of_length_le (by rw [HV.out.len]; exact Nat.le_refl _)] at h
   rw [h]
   rfl
set_option maxHeartbeats 3200000 in
theorem contains_neg (w : World) (p : Option Addr) (n cap : Nat) (l : List T3) (hv : Rs w p n l) (hn : n ≤ 1000) :
  Calls Tryz.prog 91 #[.slice p n cap, FNeg] w (Yld w (.bool (negs l))) := by
 have H1 := Lib.hid (index_neg w p n cap l hv hn)
 clear hv
 go_enter Tryz.func91, Tryz.ntmps91
 go_wp2_with fail
 refine H1.out.mono ?_
 rintro e w1 ⟨k, rfl, h1, h2, h3, hC⟩
 have HC := Lib.hid hC
 have H3 := Lib.hid h3
 clear hC H1 h3
 go_wp2_with fail
 go_ret
 exact ⟨by rw [H3.out]; rfl, HC.out⟩
set_option maxHeartbeats 3200000 in
theorem C_whole {s : Bool} {n d D l : List UInt8} {m : Nat} (bd : Nat) (w : World) (hb : Blk w bd 24 [S D]) (hn : n.length ≤ 2000) (hd : d.length ≤ 2000) (hD : D.length ≤ 2000) (h0 : 0 < bv d) (hrn : Rt n) (hrD : Rt D) (hl : nb m = l) (hm : bv n * (bv D / bv d) = m) :
  Calls Tryz.prog 97 #[Rv s n d, .pointer (some ⟨bd, 0, none⟩)] w (Yld w (S l)) := by
 obtain ⟨q, eq, vq⟩ := has_nb (bv D / bv d)
 obtain ⟨M, hM⟩ : ∃ M, M = 2000 := ⟨_, rfl⟩
 have lq := nbl' M eq (div_lt' (bv_b (Nat.le_trans hD (Nat.le_of_eq hM.symm))))
 have H1 := Lib.hid (C_quotient (a := D) (g := d) eq (by omega) (by omega) hrD h0 rfl)
 have H2 := Lib.hid (C_product (a := n) (b := q) hl (by omega) (by omega) hrn (eq ▸ rt_nb _) (by rw [vq]; exact hm))
 have HD := Lib.hid hb
 have HB := Lib.hid (Box.one w #[.bool s, S n, S d])
 clear hb eq vq lq hM M hn hd hD h0 hrn hrD hl hm
 obtain ⟨B, hB⟩ : ∃ B, w.heap.size = B := ⟨_, rfl⟩
 rw [hB] at HB
 have hcd : ∀ W, Ch w.heap.size none1 w W → W.cell? ⟨bd, 0, none⟩ = some (S D) := fun W hC => (hC.blk HD.out HD.out.lt (fun q => q)).cell 0
 have HCD := Lib.hid hcd
 clear hcd
 have hall : ∀ W, Box w W B [[.bool s, S n, S d]] → W.cell? ⟨B, 1, none⟩ = some (S n) ∧ W.cell? ⟨B, 2, none⟩ = some (S d) ∧ W.cell? ⟨bd, 0, none⟩ = some (S D) := fun W h => ⟨h.cells1.2.1, h.cells1.2.2, HCD.out W h.ch⟩
 have HALL := Lib.hid hall
 clear hall
 go_enter Tryz.func97, Tryz.ntmps97
 go_wp2_with fail
 have HBD := Lib.hid HB.out.drew
 clear HB
 have HB := HBD
 clear HBD
 go_region_held3 (fun w' => w'.cell? ⟨B, 1, none⟩ = some (S n) ∧ w'.cell? ⟨B, 2, none⟩ = some (S d) ∧ w'.cell? ⟨bd, 0, none⟩ = some (S D))
  (first
   | (with_reducible exact HALL.out _ HB.out)
   | go_keep)
  (first
   | (go_at_call 99; with_reducible refine (H1.out _).mono ?_; rintro e wq ⟨rfl, hCq⟩; have HB2 := Lib.hid (HB.out.on hCq); clear hCq HB; have HB := HB2; clear HB2)
   | (go_at_call 98; with_reducible refine (H2.out _).mono ?_; rintro e wq ⟨rfl, hCq⟩; have HB2 := Lib.hid (HB.out.on hCq); clear hCq HB; have HB := HB2; clear HB2))
 go_wp2_with fail
 go_ret
 exact ⟨rfl, HB.out.ch⟩
set_option maxHeartbeats 3200000 in
theorem each_whole (w : World) (p : Option Addr) (n cap : Nat) (l : List T3) (hv : Rs w p n l) (bd : Nat) (D : List UInt8) (hd : Blk w bd 24 [S D]) (hD : D.length ≤ 2000) (hrD : Rt D) (hsz : ∀ t ∈ l, t.2.1.length ≤ 1000 ∧ t.2.2.length ≤ 1000 ∧ 0 < bv t.2.2 ∧ Rt t.2.1) (hn : n ≤ 1000) :
  Calls Tryz.prog 94 #[.slice p n cap, .func (.func 97) #[] #[.pointer (some ⟨bd, 0, none⟩)]] w fun e w' => e = .returned (.slice (some ⟨w.heap.size, 0, none⟩) n n) ∧ Blk w' w.heap.size 24 (l.map fun t => S (nb (bv t.2.1 * (bv D / bv t.2.2)))) ∧ Ch w.heap.size none1 w w' := by
 have hmk : ∀ W : World, (Instr.makeSlice 66 (.int .i64 (n : Int)) (.int .i64 (n : Int))).run Tryz.prog W = .ok (.slice (some ⟨W.heap.size, 0, none⟩) n n) (W.alloc (.cells (madeCells #[S []] n) 24)) := fun W => by
  have hinf : (Tryz.prog.info? 24).map (fun i => (i.zero, i.size, i.bytes)) = some (some (S []), 1, 16) := by kernel_rfl
  obtain ⟨i0, hi, hz0, hz1, hz2⟩ := info_parts hinf
  have h := run_make (P := Tryz.prog) W 66 24 i0 (S []) Tryz.underlying66 hi hz0 .i64 .i64 n n (by omega) (Int.le_refl _) (by rw [hz2]; omega) (by omega)
  rw [hz1] at h
  simp only [Int.toNat_natCast, Nat.mul_one] at h
  exact h
 have HV := Lib.hid hv
 have HD := Lib.hid hd
 have HS := Lib.hid hsz
 clear hv hd hsz
 obtain ⟨G, hG⟩ : ∃ G, w.heap.size = G := ⟨_, rfl⟩
 rw [hG]
 go_enter Tryz.func94, Tryz.ntmps94
 go_wp2_with fail
 go_loopw [13] (fun i wr => ∃ k : Nat, k ≤ n ∧ i = .int .i64 k ∧ Fk w wr none1 G n (l.map fun t => S (nb (bv t.2.1 * (bv D / bv t.2.2)))) k) (fun i _ => n - (intOf i).toNat)
 case atStart => exact ⟨0, Nat.zero_le _, rfl, Fk.start hG n _⟩
 case round =>
  obtain ⟨k, hk, rfl, hrel⟩ := hrel
  have HR := Lib.hid hrel
  clear hrel
  by_cases hlt : k < n
  ·obtain ⟨g, o, rfl⟩ := HV.out.addr (by omega)
   obtain ⟨t, ht⟩ : ∃ t, l[k]? = some t := ⟨l[k]'(by rw [HV.out.len]; exact hlt), List.getElem?_eq_getElem _⟩
   have h1 := fun W hB => C_whole (s := t.1) (n := t.2.1) (d := t.2.2) (D := D) bd W hB (Nat.le_trans (HS.out t (List.mem_of_getElem? ht)).1 (by omega)) (Nat.le_trans (HS.out t (List.mem_of_getElem? ht)).2.1 (by omega)) hD (HS.out t (List.mem_of_getElem? ht)).2.2.1 (HS.out t (List.mem_of_getElem? ht)).2.2.2 hrD rfl rfl
   have H1 := Lib.hid h1
   clear h1
   obtain ⟨c0, c1, c2⟩ := (HV.out.ch HR.out.ch).get ht
   have HL := Lib.hid ht
   obtain ⟨s0, n0, d0⟩ := t
   simp only at c0 c1 c2
   simp only at H1
   clear ht
   have HFL := Lib.hid (show (l.map fun t => S (nb (bv t.2.1 * (bv D / bv t.2.2))))[k]? = some (S (nb (bv n0 * (bv D / bv d0)))) by rw [List.getElem?_map, HL.out]; rfl)
   obtain ⟨r, hr⟩ : ∃ r, nb (bv n0 * (bv D / bv d0)) = r := ⟨_, rfl⟩
   rw [hr] at H1 HFL
   clear hr
   go_wp2_with fail
   refine (H1.out _ ((HR.out.alloc _).ch.blk HD.out HD.out.lt (fun q => q))).mono ?_
   rintro e wq ⟨rfl, hC⟩
   have HF2 := Lib.hid ((HR.out.alloc _).on hC (fun q => q) (fun _ _ q => q.elim))
   clear hC HR c0 c1 c2
   obtain ⟨x0, e0, f0⟩ := HF2.out.slots hlt
   go_wp2_with fail
   go_roundw
   case rel =>
    refine ⟨k + 1, by omega, by go_num, ?_⟩
    clear hmk
    have hh := HF2.out.put hlt HFL.out
    with_reducible exact hh
   case measure => simp [intOf]; omega
  ·have hkn : k = n := by omega
   subst hkn
   go_wp2
   go_ret
   exact ⟨rfl, HR.out.done (by rw [List.length_map, HV.out.len]), hG ▸ HR.out.ch⟩
set_option maxHeartbeats 3200000 in
theorem C_Common_no (K : Nat) (w : World) (p : Option Addr) (n cap : Nat) (l : List T3) (hv : Rs w p n l) (ht : Tb w) (hn : n ≤ 1000) (hK : K ≤ 1000) (hsz : ∀ t ∈ l, t.2.1.length ≤ K ∧ t.2.2.length ≤ K) (hbad : bad l = true ∨ negs (l.map fun t => pt (rof t)) = true) :
  Calls Tryz.prog 54 #[.slice p n cap] w (Yld w (.tuple #[S [], .slice none 0 0, .bool false])) := by
 have hsz1 : ∀ t ∈ l, t.2.1.length ≤ 1000 ∧ t.2.2.length ≤ 1000 := fun t h => ⟨Nat.le_trans (hsz t h).1 (by omega), Nat.le_trans (hsz t h).2 (by omega)⟩
 have HT := Lib.hid ht
 have HV := Lib.hid hv
 obtain ⟨B, hB⟩ : ∃ B, w.heap.size = B := ⟨_, rfl⟩
 have hz := ht.size
 have hbw : Blk (w.alloc (.cells #[.bool false] 97 (0, 0))) B 97 [.bool false] := hB ▸ Blk.new w _ _
 have hc0 : Ch w.heap.size none1 w (w.alloc (.cells #[.bool false] 97 (0, 0))) := (Ch.refl _ _ _).alloc (Nat.le_refl _) _
 have hs0 : (w.alloc (.cells #[.bool false] 97 (0, 0))).heap.size = B + 1 := by rw [← hB]; exact World.size_alloc _ _
 have h1 := each_witness (w.alloc (.cells #[.bool false] 97 (0, 0))) p n cap l (hv.ch hc0) (ht.ch hc0) hsz1 B hbw (fun a ha q => by have := hv.lt a ha; omega) (by omega) (fun W hC => by
  have hC2 : Ch w.heap.size none1 w W := hc0.step hC (Nat.le_refl _) (fun k hk q => by omega)
  exact ht.ch hC2) hn
 rw [hs0] at h1
 have HC0 := Lib.hid hc0
 have H1 := Lib.hid h1
 have HS0 := Lib.hid hs0
 clear h1 hbw hc0 hs0
 have hlen := hv.len
 clear hv ht hsz hsz1
 go_enter Tryz.func54, Tryz.ntmps54
 go_wp2_with fail
 refine H1.out.mono ?_
 rintro e w1 ⟨rfl, hG, hW, hC⟩
 have HC := Lib.hid (HC0.out.step (HS0.out.symm ▸ hC) (Nat.le_refl _) (fun k hk q => by omega))
 have HG := Lib.hid (Rs.blk (n := n) hG (by rw [List.length_map]; exact hlen))
 have c0 := hW.cell 0
 clear hG hW hC H1
 cases hb : bad l with
 | true =>
  rw [hb] at c0
  go_wp2_with fail
  go_ret3
  exact ⟨rfl, HC.out⟩
 | false =>
  rw [hb] at c0 hbad
  obtain hng : negs (l.map fun t => pt (rof t)) = true := by simpa using hbad
  have H2 := Lib.hid (contains_neg w1 (some ⟨B + 1, 0, none⟩) n n _ HG.out hn)
  rw [hng] at H2
  clear hb hbad hng
  go_wp2_with fail
  refine H2.out.mono ?_
  rintro e w2 ⟨rfl, hC⟩
  have HC2 := Lib.hid (HC.out.step0 hC (Nat.le_refl _))
  clear hC HC
  go_wp2_with fail
  go_ret3
  exact ⟨rfl, HC2.out⟩
theorem good_same (l : List T3) (h : bad l = false) : (l.map fun t => pt (rof t)) = l := by
 unfold bad at h
 rw [List.any_eq_false] at h
 conv => rhs; rw [← List.map_id l]
 refine List.map_congr_left fun t ht => ?_
 have h1 := h t ht
 have h2 : rightR t.1 t.2.1 t.2.2 = true := by simpa using h1
 exact pt_of (rightR_is h2)
theorem good_at (l : List T3) (h : bad l = false) (t : T3) (ht : t ∈ l) : Rt t.2.1 ∧ Rt t.2.2 ∧ t.2.2 ≠ [] := by
 unfold bad at h
 rw [List.any_eq_false] at h
 have h1 := h t ht
 have h2 : rightR t.1 t.2.1 t.2.2 = true := by simpa using h1
 obtain ⟨k1, k2, k3, -⟩ := (rightR_iff _ _ _).1 h2
 exact ⟨k1, k2, k3⟩
def dens (l : List T3) : Nat := lcms (l.map fun t => bv t.2.2)
def wholes (D : List UInt8) (l : List T3) : List Value := l.map fun t => S (nb (bv t.2.1 * (bv D / bv t.2.2)))
set_option maxHeartbeats 3200000 in
theorem C_Common (K : Nat) (w : World) (p : Option Addr) (n cap : Nat) (l : List T3) (D : List UInt8) (hv : Rs w p n l) (ht : Tb w) (hn : n ≤ 1000) (hK : K ≤ 1000) (hnK : n * K ≤ 1000) (hsz : ∀ t ∈ l, t.2.1.length ≤ K ∧ t.2.2.length ≤ K) (hg : bad l = false) (hp : negs l = false) (hD : nb (dens l) = D) :
  Calls Tryz.prog 54 #[.slice p n cap] w fun e w' => ∃ g, e = .returned (.tuple #[S D, .slice (some ⟨g, 0, none⟩) n n, .bool true]) ∧ w.heap.size ≤ g ∧ Blk w' g 24 (wholes D l) ∧ Ch w.heap.size none1 w w' := by
 have hsz1 : ∀ t ∈ l, t.2.1.length ≤ 1000 ∧ t.2.2.length ≤ 1000 := fun t h => ⟨Nat.le_trans (hsz t h).1 (by omega), Nat.le_trans (hsz t h).2 (by omega)⟩
 have HT := Lib.hid ht
 have HV := Lib.hid hv
 obtain ⟨B, hB⟩ : ∃ B, w.heap.size = B := ⟨_, rfl⟩
 have hz := ht.size
 have hbw : Blk (w.alloc (.cells #[.bool false] 97 (0, 0))) B 97 [.bool false] := hB ▸ Blk.new w _ _
 have hc0 : Ch w.heap.size none1 w (w.alloc (.cells #[.bool false] 97 (0, 0))) := (Ch.refl _ _ _).alloc (Nat.le_refl _) _
 have hs0 : (w.alloc (.cells #[.bool false] 97 (0, 0))).heap.size = B + 1 := by rw [← hB]; exact World.size_alloc _ _
 have h1 := each_witness (w.alloc (.cells #[.bool false] 97 (0, 0))) p n cap l (hv.ch hc0) (ht.ch hc0) hsz1 B hbw (fun a ha q => by have := hv.lt a ha; omega) (by omega) (fun W hC => by
  have hC2 : Ch w.heap.size none1 w W := hc0.step hC (Nat.le_refl _) (fun k hk q => by omega)
  exact ht.ch hC2) hn
 rw [hs0] at h1
 have HC0 := Lib.hid hc0
 have H1 := Lib.hid h1
 have HS0 := Lib.hid hs0
 clear h1 hbw hc0 hs0
 have hlen := hv.len
 rw [good_same l hg, hg] at H1
 have hx : ∀ x ∈ l.map (fun t => bv t.2.2), 0 < x ∧ x < 256 ^ K := fun x hx => by
  obtain ⟨t, h, rfl⟩ := List.mem_map.1 hx
  obtain ⟨k1, k2, k3⟩ := good_at l hg t h
  exact ⟨rt_pos k2 k3, bv_b (hsz t h).2⟩
 have hnb : (l.map fun t => S t.2.2) = (l.map fun t => bv t.2.2).map fun x => S (nb x) := by
  rw [List.map_map]
  refine List.map_congr_left fun t h => ?_
  obtain ⟨k1, k2, k3⟩ := good_at l hg t h
  show S t.2.2 = S (nb (bv t.2.2))
  rw [nb_of_rt k2]
 have hlD := lcms_lt K _ hx
 rw [List.length_map, hlen] at hlD
 obtain ⟨M, hM⟩ : ∃ M, M = 1001 := ⟨_, rfl⟩
 have lD := nbl' M hD (Nat.lt_of_le_of_lt hlD (Nat.pow_lt_pow_right (by decide) (by omega)))
 have hRD : Rt D := hD ▸ rt_nb _
 have h2 := fun W g (hv : Rs W (some ⟨g, 0, none⟩) n l) => contains_neg W (some ⟨g, 0, none⟩) n n l hv hn
 rw [hp] at h2
 have h3 := fun W g (hv : Rs W (some ⟨g, 0, none⟩) n l) => each_den W (some ⟨g, 0, none⟩) n n l hv hn
 have h4 := fun W g (hb : Blk W g 24 (l.map fun t => S t.2.2)) => fold_nat K n W (some ⟨g, 0, none⟩) n (l.map fun t => bv t.2.2) (Vs.blk (hnb ▸ hb) (by rw [List.length_map, List.length_map]; exact hlen)) (Nat.le_refl _) hnK hn hx
 have h5 := fun W g bd (hv : Rs W (some ⟨g, 0, none⟩) n l) (hb : Blk W bd 24 [S D]) => each_whole W (some ⟨g, 0, none⟩) n n l hv bd D hb (by omega) hRD (fun t h => ⟨(hsz1 t h).1, (hsz1 t h).2, rt_pos (good_at l hg t h).2.1 (good_at l hg t h).2.2, (good_at l hg t h).1⟩) hn
 rw [show lcms (l.map fun t => bv t.2.2) = dens l from rfl] at h4
 rw [hD] at h4
 have H2 := Lib.hid h2
 have H3 := Lib.hid h3
 have H4 := Lib.hid h4
 have H5 := Lib.hid h5
 clear hv ht hsz hsz1 h2 h3 h4 h5 hx hnb hlD M hM lD hRD hD hg hp
 go_enter Tryz.func54, Tryz.ntmps54
 go_wp2_with fail
 refine H1.out.mono ?_
 rintro e w1 ⟨rfl, hG, hW, hC⟩
 have HC := Lib.hid (HC0.out.step (HS0.out.symm ▸ hC) (Nat.le_refl _) (fun k hk q => by omega))
 have HG := Lib.hid (Rs.blk hG hlen)
 have c0 := hW.cell 0
 clear hG hW hC H1
 go_wp2_with fail
 refine (H2.out _ _ HG.out).mono ?_
 rintro e w2 ⟨rfl, hC⟩
 have HC2 := Lib.hid (HC.out.step0 hC (Nat.le_refl _))
 have HG2 := Lib.hid (HG.out.ch hC)
 clear hC HC HG c0
 go_wp2_with fail
 refine (H3.out _ _ HG2.out).mono ?_
 rintro e w3 ⟨rfl, hB, hC⟩
 have HC3 := Lib.hid (HC2.out.step0 hC (Nat.le_refl _))
 have HG3 := Lib.hid (HG2.out.ch hC)
 have HV3 := Lib.hid hB
 clear hC hB HC2 HG2
 go_wp2_with fail
 refine (H4.out _ _ HV3.out).mono ?_
 rintro e w4 ⟨rfl, hC⟩
 have HC4 := Lib.hid (HC3.out.step0 hC (Nat.le_refl _))
 have HG4 := Lib.hid (HG3.out.ch hC)
 clear hC HC3 HG3 HV3
 go_wp2_with fail
 have hca : Ch w4.heap.size none1 w4 (w4.alloc (.cells #[S D] 24 (0, 0))) := (Ch.refl _ _ _).alloc (Nat.le_refl _) _
 have HC5 := Lib.hid (HC4.out.step0 hca (Nat.le_refl _))
 have hba : Blk (w4.alloc (.cells #[S D] 24 (0, 0))) w4.heap.size 24 [S D] := Blk.new _ _ _
 refine (H5.out _ _ _ (HG4.out.ch hca) hba).mono ?_
 rintro e w5 ⟨rfl, hB, hC⟩
 have HC6 := Lib.hid (HC5.out.step0 hC (Nat.le_refl _))
 have hlt : w4.heap.size < (w4.alloc (.cells #[S D] 24 (0, 0))).heap.size := by rw [World.size_alloc]; omega
 have hD5 := (hC.blk hba hlt (fun q => q)).cell 0
 rw [World.size_alloc] at hB
 have HB5 := Lib.hid hB
 have hle := HC5.out.size
 rw [World.size_alloc] at hle
 have HLE := Lib.hid hle
 clear hC hB HC4 HC5 HG4 hca hba hlt hle
 go_wp2_with fail
 go_ret3
 exact ⟨_, rfl, HLE.out, HB5.out, HC6.out⟩
end Go.Proofs.YtkeomlpecjjhiaaGreatDoor
