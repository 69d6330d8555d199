/- Package money: divided. -/
import Derived.Test.YtkeomlpecjjhiaaGreatDoorAp
import Derived.Stop.RegionWithIn
namespace Go.Proofs.YtkeomlpecjjhiaaGreatDoor
open Go.RowKit Go.Shelf
attribute [local go_sem] Oper.semAt_some
section
variable {F : Fence} {n : Nat} {P : Program}
theorem range_ownA {σ ε : Type} {g : Operand} {ps : Array Tmp} {assign body : Code} {Q : Exit → Act → World → Prop} {a : Act} {w : World}
  (hro : F.round = none) (h1 : 1 ≤ n) {gf : Nat} {lb : Array Value} (hg : a.eval g = .func (.func gf) #[] lb) (hFg : F.fn gf) (eg : ∀ args w, (callFunc gf args).run P w = .ok (.enter gf args) w)
  {n0 : Nat} (hn0 : w.heap.size + 2 = n0) {encs : ε → Array Value} (hps : ∀ x, (encs x).size = ps.size) {S : σ → Prop} {s0 : σ} {nx : ε → σ} {R : Nat → σ → ε → World → Prop}
  (I : Nat → σ → World → Prop)
  (hseq : ∀ (l : Nat) (J : Nat → σ → World → Prop) (W : World), W.heap.size = n0 → Below w.heap.size w W → (∀ n1 s A B, J n1 s A → OwI n0 n1 A B → J n1 s B) →
   (∀ n1 s x W1, n0 ≤ n1 → J n1 s W1 → R n1 s x W1 → YieldAt F (n - 1 - 1) P l (encs x) W1 fun e W' => e = .returned (.bool true) ∧ J n1 (nx x) W' ∧ Kpt n0 n1 W1 W') →
   (∀ W', Below n0 W W' → J W'.heap.size s0 W') →
   CallsIn F (n - 1) P gf (#[.func (.yield l) #[] #[]] ++ lb) W fun e W' => (∃ v, e = .returned v) ∧ ∃ n1 s, n0 ≤ n1 ∧ S s ∧ J n1 s W')
  (hI0 : ∀ W', Below w.heap.size w W' → I W'.heap.size s0 W') (hIo : ∀ n1 s A B, I n1 s A → OwI n0 n1 A B → I n1 s B)
  (hIp : ∀ n1 s W k o o', n0 ≤ n1 → I n1 s W → w.heap.size ≤ k → k < n0 → W.heap[k]? = some o → o.isCells = false → I n1 s (W.putObj k o'))
  (hRp : ∀ n1 s x W k o', R n1 s x W → k < n0 → R n1 s x (W.putObj k o'))
  (a₁ : Act → ε → Act)
  (hassign : ∀ (l : Nat) (x : ε) (W : World) (K : Act → World → Prop), K (a₁ a x) W →
   assign.wpIn (F.inRound l) (n - 1 - 1) P (Exit.then K (fun _ _ _ => False)) { tmps := (ps.zip (encs x)).foldl (fun t (p, v) => t.setIfInBounds p v) a.tmps, defers := [] } W)
  (hbody : ∀ (l n1 : Nat) (s : σ) (x : ε) (W : World), n0 ≤ n1 → I n1 s W → R n1 s x W → body.wpIn (F.inRound l) (n - 1 - 1) P (ownPost5 n0 n1 I (nx x) W) (a₁ a x) W)
  (hdone : ∀ (D n1 : Nat) (s : σ) (W : World), w.heap.size ≤ D → D < n0 → n0 ≤ n1 → S s → I n1 s W → W.heap[D]? = some (.deferred (some [])) → Q .normal { a with defers := { target := .collected D, args := #[] } :: a.defers } W) :
  (Code.rangeFunc g ps assign body).wpIn F n P Q a w :=
 range_own hro h1 hg hFg eg hn0 hps I hseq hI0 hIo hIp hRp (a₁ a) hassign hbody hdone
end
set_option maxRecDepth 100000 in
set_option maxHeartbeats 6400000 in
theorem divided_any (C Sm : List UInt8) (L : List (List UInt8)) (p : Option Addr) (n cap : Nat) (w : World) (hv : Vs w p n (L.map S)) (hn0 : 0 < n) (hn : n ≤ 19) (hC : C.length ≤ 8) (hsz : ∀ x ∈ L, x.length ≤ 450) (hSl : Sm.length ≤ 460) (hS : bv Sm = (L.map bv).sum) (h0 : 0 < bv Sm) (hc63 : bv C ≤ 9223372036854775808) :
  Calls Tryz.prog 57 #[S C, .slice p n cap, S Sm] w fun e w' => e = .returned (.slice (some ⟨w.heap.size, 0, none⟩) n n) ∧ Blk w' w.heap.size 24 (nvs (partsOf (bv C) (L.map bv))) ∧ Ch w.heap.size none1 w w' := by
 have hmk : ∀ W : World, (Instr.makeSlice 66 (.int .i64 (n : Int)) (.int .i64 (n : Int))).run Tryz.prog W = .ok (.slice (some ⟨W.heap.size, 0, none⟩) n n) (W.alloc (.cells (madeCells #[S []] n) 24)) := fun W => by
  have hinf : (Tryz.prog.info? 24).map (fun i => (i.zero, i.size, i.bytes)) = some (some (S []), 1, 16) := by kernel_rfl
  obtain ⟨i0, hi, hz0, hz1, hz2⟩ := info_parts hinf
  have h := run_make (P := Tryz.prog) W 66 24 i0 (S []) Tryz.underlying66 hi hz0 .i64 .i64 n n (by omega) (Int.le_refl _) (by rw [hz2]; omega) (by omega)
  rw [hz1] at h
  simp only [Int.toNat_natCast, Nat.mul_one] at h
  exact h
 have hlen : L.length = n := by rw [← hv.len, List.length_map]
 obtain ⟨c, hc⟩ : ∃ c, bv C = c := ⟨_, rfl⟩
 obtain ⟨s, hs⟩ : ∃ s, bv Sm = s := ⟨_, rfl⟩
 rw [hs] at hS h0
 rw [hc] at hc63
 -- the quotient and the rest of one weight
 have hq : ∀ (k : Nat) (x : List UInt8), L[k]? = some x → ∃ a q r : List UInt8, nb (c * bv x) = a ∧ nb (c * bv x / s) = q ∧ nb (c * bv x % s) = r ∧ a.length ≤ 458 ∧ q.length ≤ 458 ∧ r.length ≤ 460 ∧ Ans 103 #[S C, S x] (S a) ∧ Ans 102 #[S a, S Sm] (.tuple #[S q, S r, .bool true]) := by
  intro k x hx
  have lx := hsz x (List.mem_of_getElem? hx)
  obtain ⟨a, ha, va⟩ := has_nb (c * bv x)
  obtain ⟨q, hq, vq⟩ := has_nb (c * bv x / s)
  obtain ⟨r, hr, vr⟩ := has_nb (c * bv x % s)
  obtain ⟨K, hK⟩ : ∃ K, K = 450 := ⟨_, rfl⟩
  obtain ⟨M2, hM2⟩ : ∃ M, M = 460 := ⟨_, rfl⟩
  have hm : c * bv x < 256 ^ (8 + K) := mul_lt_pow (hc ▸ bv_b hC) (bv_b (by omega))
  have la := nbl' (8 + K) ha hm
  have lq := nbl' (8 + K) hq (div_lt' hm)
  have lr := nbl' M2 hr (Nat.lt_trans (Nat.mod_lt _ h0) (hs ▸ bv_b (by omega)))
  exact ⟨a, q, r, ha, hq, hr, by omega, by omega, by omega, C_mul ha (by omega) (by omega) (by rw [hc]), C_quo hq hr (by omega) (by omega) (by omega) (by rw [va, hs]) (by rw [va, hs])⟩
 have HQ := Lib.hid hq
 have HV := Lib.hid hv
 have HLN := Lib.hid hlen
 obtain ⟨G, hG⟩ : ∃ G, w.heap.size = G := ⟨_, rfl⟩
 have HG := Lib.hid hG
 rw [hG]
 clear hq hv hlen hG
 refine (callsIn_wide (n := 6)).1 ?_
 refine callsIn_of_wp_marks Tryz.func57 rfl trivial ?_ rfl
 simp only [Tryz.ntmps57, List.size_toArray, List.length_cons, List.length_nil, Nat.reduceAdd, Nat.reduceSub, Array.replicate_succ, Array.replicate_zero, List.push_toArray, List.append_toArray, List.nil_append, List.cons_append]
 refine wpIn_wide.2 ?_
 go_wp2_with fail
 rw [HG.out]
 go_loopw [24] (fun i wr => ∃ k : Nat, k ≤ n ∧ i = .int .i64 k ∧ D2 w wr G n (qvs c s L) ((rvb c s L).map S) k) (fun i _ => n - (intOf i).toNat)
 case atStart => exact ⟨0, Nat.zero_le _, rfl, D2.start HG.out n _ _⟩
 case round =>
  obtain ⟨k, hk, rfl, hrel⟩ := hrel
  have HR := Lib.hid hrel
  clear hrel
  by_cases hlt : k < n
  ·have HVR := Lib.hid (HV.out.ch HR.out.p.ch)
   obtain ⟨g, o, rfl⟩ := HVR.out.addr (by omega)
   obtain ⟨x, hx⟩ : ∃ x, L[k]? = some x := ⟨L[k]'(by rw [HLN.out]; exact hlt), List.getElem?_eq_getElem _⟩
   have c0 := HVR.out.get (i := k) (t := S x) (by rw [List.getElem?_map, hx]; rfl)
   obtain ⟨a, q, r, ea, eq, er, la, lq, lr, h1, h2⟩ := HQ.out k x hx
   have HP1 := Lib.hid (show (qvs c s L)[k]? = some (S q) by rw [qvs_at hx, eq])
   have HR1 := Lib.hid (show ((rvb c s L).map S)[k]? = some (S r) by rw [rvb_at hx, er])
   have H1 := Lib.hid h1
   have H2 := Lib.hid h2
   clear hx ea eq er la lq lr h1 h2
   go_wp2_with fail
   clear c0 HVR
   have HD := Lib.hid HR.out.drew
   clear HR
   have HBX := Lib.hid (show ∀ W, D2 w W G n (qvs c s L) ((rvb c s L).map S) k → W.cell? ⟨G + 1, 0, none⟩ = some (.slice (some ⟨G, 0, none⟩) n n) from fun W h => h.bx.cell 0)
   go_region_held3 (fun w' => w'.cell? ⟨G + 1, 0, none⟩ = some (.slice (some ⟨G, 0, none⟩) n n))
    (first
     | (with_reducible exact HBX.out _ HD.out)
     | go_keep)
    (first
     | (go_at_call 103; with_reducible refine (H1.out _).mono ?_; rintro e wq ⟨rfl, hCq⟩; have HD2 := Lib.hid (HD.out.on hCq); clear hCq HD; have HD := HD2; clear HD2)
     | (go_at_call 102; with_reducible refine (H2.out _).mono ?_; rintro e wq ⟨rfl, hCq⟩; have HD2 := Lib.hid (HD.out.on hCq); clear hCq HD; have HD := HD2; clear HD2; obtain ⟨x0, e0, f0⟩ := HD.out.p.slots hlt; obtain ⟨x1, e1, f1⟩ := HD.out.r.slots hlt))
   go_wp2_with fail
   go_roundw
   case rel => exact ⟨k + 1, by omega, by go_num, HD.out.put hlt HP1.out HR1.out⟩
   case measure => simp [intOf]; omega
  ·have hkn : k = n := by omega
   subst hkn
   have hX : (L.map bv).length = k := by rw [List.length_map]; exact HLN.out
   have hql : (qus c s (L.map bv)).length = k := by unfold qus; rw [List.length_map]; exact hX
   have hle : (qus c s (L.map bv)).sum ≤ c := by rw [hS]; exact left_le c _ (by rw [← hS]; exact h0)
   have hlt2 : c - (qus c s (L.map bv)).sum < k := by have := left_lt c (L.map bv) (by rw [← hS]; exact h0); rw [← hS, hX] at this; exact this
   obtain ⟨M, hM⟩ : ∃ M, M = 8 := ⟨_, rfl⟩
   have hc8 : c < 256 ^ M := by rw [hM, ← hc]; exact bv_b hC
   have hqb : ∀ x ∈ (qus c s (L.map bv)).map nb, x.length ≤ 500 := fun x hx => by
    obtain ⟨y, hy, rfl⟩ := List.mem_map.1 hx
    have := le_sum_mem hy
    exact Nat.le_trans ((nb_len _ M).2 (by omega)) (by omega)
   obtain ⟨t, ht⟩ : ∃ t, (qus c s (L.map bv)).sum = t := ⟨_, rfl⟩
   obtain ⟨tb, etb, vtb⟩ := has_nb t
   obtain ⟨lf, elf, vlf⟩ := has_nb (c - t)
   have ltb := nbl' M etb (by omega)
   have llf := nbl' M elf (by omega)
   have h3 := fun W (hB : Blk W G 24 (qvs c s L)) => sumOf_any ((qus c s (L.map bv)).map nb) (some ⟨G, 0, none⟩) k k W (Vs.blk (qvs_bytes c s L ▸ hB) (by rw [List.length_map, List.length_map]; exact hql)) (by omega) hqb
   rw [bsum_nb, ht, etb] at h3
   rw [ht] at hle hlt2
   obtain ⟨cn, hcn⟩ : ∃ cn : Nat, c - t = cn := ⟨_, rfl⟩
   have H3 := Lib.hid h3
   have H4 := Lib.hid (C_sub (a := C) (b := tb) elf (by omega) (by omega) (by rw [vtb, hc]; omega))
   have H5 := Lib.hid (C_int (a := lf) (k := (cn : Int)) (by omega) (by rw [vlf, hcn]) (by omega))
   have HPB := Lib.hid (HR.out.p.done (by rw [qvs_len]; exact HLN.out))
   have HRB := Lib.hid (HR.out.r.done (by rw [List.length_map, rvb_len]; exact HLN.out))
   have cb := HR.out.bx.cell 0
   simp only [List.getElem?_cons_zero] at cb
   clear hqb hM hc8 etb vtb elf vlf ltb llf h3 HQ
   go_wp2_with fail
   refine (H3.out _ HPB.out).mono ?_
   rintro e w3 ⟨rfl, hC3⟩
   have HC3 := Lib.hid (HR.out.p.ch.step0 hC3 (Nat.le_refl _))
   have HPB3 := Lib.hid (hC3.blk HPB.out HPB.out.lt (fun q => q))
   have HRB3 := Lib.hid (hC3.blk HRB.out HRB.out.lt (fun q => q))
   have HBX3 := Lib.hid (hC3.blk HR.out.bx HR.out.bx.lt (fun q => q))
   clear hC3 cb HPB HRB HR H3
   go_wp2_with fail
   refine (H4.out _).mono ?_
   rintro e w4 ⟨rfl, hC3⟩
   have HC4 := Lib.hid (HC3.out.step0 hC3 (Nat.le_refl _))
   have HPB4 := Lib.hid (hC3.blk HPB3.out HPB3.out.lt (fun q => q))
   have HRB4 := Lib.hid (hC3.blk HRB3.out HRB3.out.lt (fun q => q))
   have HBX4 := Lib.hid (hC3.blk HBX3.out HBX3.out.lt (fun q => q))
   clear hC3 HPB3 HRB3 HBX3 HC3 H4
   go_wp2_with fail
   refine (H5.out _).mono ?_
   rintro e w5 ⟨rfl, hC3⟩
   have HC5 := Lib.hid (HC4.out.step0 hC3 (Nat.le_refl _))
   have HPB5 := Lib.hid (hC3.blk HPB4.out HPB4.out.lt (fun q => q))
   have HRB5 := Lib.hid (hC3.blk HRB4.out HRB4.out.lt (fun q => q))
   have HBX5 := Lib.hid (hC3.blk HBX4.out HBX4.out.lt (fun q => q))
   clear hC3 HPB4 HRB4 HBX4 HC4 H5
   go_wp2_with fail
   refine (greatest_any _ _ _ _ _).mono ?_
   rintro e w6 ⟨rfl, rfl⟩
   go_wp2_with fail
   have hlt5 := HBX5.out.lt
   have hltr := HRB5.out.lt
   obtain ⟨N5, hN5⟩ : ∃ N5, w5.heap.size = N5 := ⟨_, rfl⟩
   rw [hN5] at hlt5 hltr ⊢
   obtain ⟨W6, hW6⟩ : ∃ W6, (w5.alloc (.cells #[.slice (some ⟨G + 1 + 1, 0, none⟩) k k] 66)).alloc (.cells #[.int .i64 (cn : Int)] 3) = W6 := ⟨_, rfl⟩
   have hs6 : W6.heap.size = N5 + 2 := by rw [← hW6, World.size_alloc, World.size_alloc, hN5]
   have hc6 : Ch w5.heap.size none1 w5 W6 := by
    rw [← hW6]
    exact ((Ch.refl _ _ _).alloc (Nat.le_refl _) _).alloc (by rw [World.size_alloc]; omega) _
   have HB1 := Lib.hid (show Blk W6 N5 66 [.slice (some ⟨G + 1 + 1, 0, none⟩) k k] by
    rw [← hW6, ← hN5]
    exact (Blk.new w5 #[.slice (some ⟨G + 1 + 1, 0, none⟩) k k] 66).alloc _)
   have HB2 := Lib.hid (show Blk W6 (N5 + 1) 3 [.int .i64 (cn : Int)] by
    have := Blk.new (w5.alloc (.cells #[.slice (some ⟨G + 1 + 1, 0, none⟩) k k] 66)) #[.int .i64 (cn : Int)] 3
    rw [World.size_alloc, hN5] at this
    rw [← hW6]
    exact this)
   rw [hW6]
   have HC6 := Lib.hid (HC5.out.step0 hc6 (Nat.le_refl _))
   have HPB6 := Lib.hid (hc6.blk HPB5.out HPB5.out.lt (fun q => q))
   have HRB6 := Lib.hid (hc6.blk HRB5.out HRB5.out.lt (fun q => q))
   have HBX6 := Lib.hid (hc6.blk HBX5.out HBX5.out.lt (fun q => q))
   clear hW6 hc6 hN5 HPB5 HRB5 HBX5 HC5
   have HGW := HG.out
   refine (wpIn_wide (n := 6)).1 ?_
   refine range_ownA (F := Fence.wide) rfl (by omega) (gf := 147) (lb := #[.pointer (some ⟨N5, 0, none⟩), .pointer (some ⟨N5 + 1, 0, none⟩)]) rfl trivial (enters_of Tryz.func147 (by kernel_rfl) rfl)
    (n0 := N5 + 4) (by omega) (encs := fun x : Nat × Nat => #[.int .i64 (x.2 : Int)]) (fun _ => rfl) (S := fun s => s = cn) (s0 := 0) (nx := fun x => x.1 + 1) (R := fun _ j x _ => x.1 = j ∧ j < cn ∧ (srv (restOf (rvb c s L)) k)[j]? = some x.2)
    (DI w G k (partsAt c (L.map bv)))
    (fun l J W hW hB0 hJ hY hz0 => ?hseq)
    (fun W' hW' => ?hI0) (fun n1 s A B h ho => h.own ho (by omega)) (fun n1 s W k o o' hn1 h h1 h2 hk ho => h.put o' hk ho (by omega)) (fun n1 s x W k o' h hk => h)
    (fun a x => { tmps := (a.tmps.setIfInBounds 60 (.int .i64 (x.2 : Int))).setIfInBounds 15 (.int .i64 (x.2 : Int)), defers := [] }) ?assign ?body ?done
   case hseq =>
    obtain ⟨m, rfl⟩ : ∃ m, k = m + 1 := ⟨k - 1, by omega⟩
    have hCB : Ch W6.heap.size none1 W6 W := Ch.of_below hB0
    have hrb : ∀ x ∈ rvb c s L, x.length ≤ 900 := fun x hx => by
     unfold rvb rss at hx
     obtain ⟨y, hy, rfl⟩ := List.mem_map.1 hx
     obtain ⟨z, -, rfl⟩ := List.mem_map.1 hy
     obtain ⟨M, hM⟩ : ∃ M, M = 460 := ⟨_, rfl⟩
     exact Nat.le_trans ((nb_len _ M).2 (Nat.lt_trans (Nat.mod_lt _ h0) (hs ▸ bv_b (by omega)))) (by omega)
    refine (greatest1_in 5 (by omega) l (rvb c s L) m cn (m + 1) (some ⟨G + 1 + 1, 0, none⟩) N5 (N5 + 1) (N5 + 4) W J hW ?_ (by omega) ?_ (by omega) ?_ (by omega) (by omega) hrb hJ ?_ hz0).mono ?_
    ·exact (hCB.blk HB1.out HB1.out.lt (fun q => q)).cell 0
    ·exact (hCB.blk HB2.out HB2.out.lt (fun q => q)).cell 0
    ·exact Vs.blk (hCB.blk HRB6.out HRB6.out.lt (fun q => q)) (by rw [List.length_map, rvb_len]; exact HLN.out)
    ·intro n1 s' i W1 hn1 hj hlt3 hi
     exact hY n1 s' (s', i) W1 hn1 hj ⟨rfl, hlt3, hi⟩
    ·rintro e W' ⟨hv, n1, hn1, hj⟩
     exact ⟨hv, n1, cn, hn1, rfl, hj⟩
   case hI0 =>
    have hCB := Ch.of_below (R := none1) hW'
    refine ⟨?_, hCB.blk HBX6.out HBX6.out.lt (fun q => q), ?_, Nat.le_refl _⟩
    ·rw [partsAt_zero, ← hS]
     exact hCB.blk HPB6.out HPB6.out.lt (fun q => q)
    ·have h := HC6.out.step0 hCB (Nat.le_refl _)
     rw [HGW] at h
     exact h
   case assign =>
    intro l x W K hK
    gi_wp2
    exact hK
   case body =>
    rintro l n1 s' ⟨sx, i⟩ W hn1 hi ⟨rfl, hsc, hsi⟩
    simp only at hsc hsi hi ⊢
    have hik : i < k := (srv_mem _ _ _).1 (List.mem_of_getElem? hsi)
    have hpl : (partsAt c (L.map bv) sx).length = k := by rw [partsAt_len]; exact hX
    obtain ⟨y, hy⟩ : ∃ y, (partsAt c (L.map bv) sx)[i]? = some y := ⟨_, List.getElem?_eq_getElem (by omega)⟩
    have hyc : y ≤ c := partsAt_le c (L.map bv) (by rw [← hS]; exact h0) sx (by rw [← hS, ht]; omega) y (List.mem_of_getElem? hy)
    have hup : partsAt c (L.map bv) (sx + 1) = up1 (partsAt c (L.map bv) sx) i := partsAt_succ c (L.map bv) (by rw [← hS, hX, ← rvb_rest]; exact hsi)
    obtain ⟨yb, eyb, vyb⟩ := has_nb y
    obtain ⟨zb, ezb, vzb⟩ := has_nb (y + 1)
    have lyb : yb.length ≤ 8 := by
     rw [← eyb]
     refine (nb_len _ _).2 ?_
     have : (256 : Nat) ^ 8 = 18446744073709551616 := rfl
     omega
    have HA := Lib.hid (C_add (a := yb) (b := [1]) ezb (by omega) (by decide) (by rw [vyb]; rfl))
    have HNV := Lib.hid (show (nvs (partsAt c (L.map bv) sx)).set i (S zb) = nvs (partsAt c (L.map bv) (sx + 1)) by rw [hup, ← nvs_up _ hy, ezb])
    have hgy : (nvs (partsAt c (L.map bv) sx))[i]? = some (S yb) := by unfold nvs; rw [List.getElem?_map, hy, ← eyb]; rfl
    have cb := hi.bx.cell 0
    have cp := hi.pb.cell i
    rw [hgy] at cp
    have fp := hi.pb.frozen i
    simp only [List.getElem?_cons_zero] at cb
    have HI := Lib.hid hi
    clear hy hyc hup eyb vyb ezb vzb lyb hgy hsi hi hpl
    simp only [List.setIfInBounds_toArray, List.set_cons_zero, List.set_cons_succ]
    gi_wp2
    gi_region_with (refine ⟨trivial, ?_⟩; refine (CallsIn.inRound l (callsIn_wide.2 (HA.out _))).mono ?_; rintro e wq ⟨rfl, hCq⟩; have HCQ := Lib.hid (show Ch W.heap.size none1 W wq from (Ch.refl _ _ W).drew.step0 hCq (Nat.le_refl _)); have cb1 := (HCQ.out.blk HI.out.bx HI.out.bx.lt (fun q => q)).cell 0; have fp1 := (HCQ.out.blk HI.out.pb HI.out.pb.lt (fun q => q)).frozen i; have cp1 := (HCQ.out.blk HI.out.pb HI.out.pb.lt (fun q => q)).cell i; rw [← HI.out.pb.cell i, cp] at cp1; simp only [List.getElem?_cons_zero] at cb1; clear hCq)
    all_goals
     refine ⟨(ko_ch HCQ.out).trans (KeepsOthers.setCell _ _ _), ⟨by have := HCQ.out.size; simp [World.setCell]; exact this, fun k2 h3 h4 => ?_⟩, ⟨?_, ?_, ?_, ?_⟩⟩
     ·have := HI.out.sz
      rw [Below.heap_setCell _ _ _ _ (show k2 ≠ G by omega)]
      exact HCQ.out.block k2 (by omega) (fun q => q)
     ·exact ((HCQ.out.blk HI.out.pb HI.out.pb.lt (fun q => q)).set i (S zb)).cast HNV.out
     ·exact (HCQ.out.blk HI.out.bx HI.out.bx.lt (fun q => q)).set_other (g' := G) (by omega) i (S zb)
     ·exact (HI.out.ch.trans (HCQ.out.mono (Nat.le_of_lt HI.out.pb.lt) (fun _ _ q => q))).setCell (p := ⟨G, i, none⟩) (.inl (Nat.le_refl _)) (S zb)
     ·have := HCQ.out.size
      have h5 := HI.out.sz
      simp [World.setCell]
      omega
   case done =>
    intro D n1 s' W hD hD2 hn1 hs' hi hK
    subst hs'
    have hp := hi.put (.deferred none) hK rfl (by omega)
    have cb := hi.bx.cell 0
    simp only [List.getElem?_cons_zero] at cb
    have HP := Lib.hid hp
    clear hp hi
    have HEND := Lib.hid (show partsAt c (L.map bv) s' = partsOf (bv C) (L.map bv) by rw [hc, ← hcn, ← ht, hS]; exact partsAt_end _ _)
    go_wp2_with fail
    refine ⟨by simp, .inl ⟨_, _, rfl, run_takeDeferred hK, ?_⟩⟩
    refine ⟨_, results_tmp rfl _ _ _, rfl, ?_, HP.out.ch⟩
    have h := HP.out.pb
    rw [HEND.out] at h
    exact h
end Go.Proofs.YtkeomlpecjjhiaaGreatDoor
