/- Package ratio's fold over rational numbers, Sum. -/
import Derived.Test.YtbpoghgokkpckaaGreatDoorQo
namespace Go.Proofs.YtbpoghgokkpckaaGreatDoor
open Go.RowKit
/-- The sum of a list. -/
def rsum (l : List Rat) : Rat := l.foldr (· + ·) 0
theorem rsum_append (l m : List Rat) : rsum (l ++ m) = rsum l + rsum m := by
  unfold rsum
  induction l with
  | nil => simp only [List.nil_append, List.foldr_nil]; rw [Rat.zero_add]
  | cons a l ih => simp only [List.cons_append, List.foldr_cons]; rw [ih, Rat.add_assoc]
theorem rsum_size (K : Nat) (l : List Rat) (h : ∀ q ∈ l, Szq q K) : Szq (rsum l) (l.length * (K + 1) + 1) := by
  induction l with
  | nil =>
    rw [show ([] : List Rat).length * (K + 1) + 1 = 1 from by simp]
    exact ⟨by decide, by decide⟩
  | cons a l ih =>
    have h1 := ih fun x hx => h x (List.mem_cons_of_mem _ hx)
    have h2 := (h a (List.mem_cons_self ..)).add h1
    refine Szq.mono h2 ?_
    rw [List.length_cons, Nat.add_mul, Nat.one_mul]
    omega
abbrev FP : Value := .func (.func 39) #[] #[]
set_option maxRecDepth 100000 in
set_option maxHeartbeats 3200000 in
theorem fold_rat (K : Nat) : ∀ (n : Nat) (w : World) (p : Option Addr) (cap : Nat) (l : List Rat), Rs w p n (l.map pt) → n ≤ cap → n * (K + 1) ≤ 999 → n ≤ 1000 → (∀ q ∈ l, Szq q K) →
    Calls Tryz.prog 41 #[.slice p n cap, Rv false [] [1], FP] w (Yld w (Tv (pt (rsum l)))) := by
  intro n
  induction n using Nat.strongRecOn with
  | _ n ih =>
    intro w p cap l hv hcap hK hn hl
    have hlen : l.length = n := by rw [← hv.len, List.length_map]
    have HV := Lib.hid hv
    have HL := Lib.hid hlen
    have HX := Lib.hid hl
    clear hv hlen hl
    have HB := Lib.hid (Box.two w #[.bool false, S [], S [1]] #[.bool false, S [], S []])
    obtain ⟨B, hB⟩ : ∃ B, w.heap.size = B := ⟨_, rfl⟩
    rw [hB] at HB
    rcases Nat.lt_or_ge n 2 with h2 | h2
    · rcases Nat.lt_or_ge n 1 with h1 | h1
      · obtain rfl : n = 0 := by omega
        obtain rfl : l = [] := List.eq_nil_of_length_eq_zero HL.out
        clear ih
        rw [show pt (rsum []) = (false, [], [1]) from pt_of Is.zero]
        go_enter Tryz.func41, Tryz.ntmps41
        go_wp2_with fail
        have hb := Box.two w #[.bool false, S [], S [1]] #[.bool false, S [], S [1]]
        rw [hB] at hb
        refine bodyPost_ret (results_cell_row (P := Tryz.prog) rfl _ _ (B + 1) 25 _ (0, 0) _ rfl (hb.row 1 _ rfl) Tryz.underlying25 rfl (by kernel_rfl)) rfl ?_
        exact ⟨rfl, hb.ch⟩
      · obtain rfl : n = 1 := by omega
        obtain ⟨x, rfl⟩ : ∃ x, l = [x] := by
          have := HL.out
          match l, this with
          | [x], _ => exact ⟨x, rfl⟩
        obtain ⟨g, o, rfl⟩ := HV.out.addr (by omega)
        obtain ⟨c0, c1, c2⟩ := (HV.out.ch HB.out.ch).get (i := 0) (t := pt x) rfl
        clear ih
        rw [show rsum [x] = x from by unfold rsum; simp only [List.foldr_cons, List.foldr_nil]; rw [Rat.add_zero]]
        obtain ⟨⟨s, n0, d0⟩, hq⟩ : ∃ q, pt x = q := ⟨_, rfl⟩
        rw [hq] at c0 c1 c2 ⊢
        simp only [Nat.zero_mul, Nat.add_zero] at c0 c1 c2
        clear hq HX
        go_enter Tryz.func41, Tryz.ntmps41
        go_wp2_with fail
        have hb := Box.two w #[.bool false, S [], S [1]] #[.bool s, S n0, S d0]
        rw [hB] at hb
        refine bodyPost_ret (results_cell_row (P := Tryz.prog) rfl _ _ (B + 1) 25 _ (0, 0) _ rfl (hb.row 1 _ rfl) Tryz.underlying25 rfl (by kernel_rfl)) rfl ?_
        exact ⟨rfl, hb.ch⟩
    · obtain ⟨g, o, rfl⟩ := HV.out.addr (by omega)
      have n1 : ¬ (n : Int) = 0 := by omega
      have n2 : ¬ (n : Int) = 1 := by omega
      obtain ⟨h, hh⟩ : ∃ h, n / 2 = h := ⟨_, rfl⟩
      have d0 : (n : Int) / 2 = (h : Int) := by omega
      have d1 : (h : Int) ≤ (n : Int) := by omega
      have d2 : (h : Int) ≤ (cap : Int) := by omega
      have d3 : (n : Int) ≤ (cap : Int) := by omega
      have d4 : ¬ cap = h := by omega
      have k1 : h * (K + 1) ≤ n * (K + 1) := Nat.mul_le_mul_right _ (by omega)
      have k2 : (n - h) * (K + 1) ≤ n * (K + 1) := Nat.mul_le_mul_right _ (by omega)
      have t1 : ∀ x ∈ l.take h, Szq x K := fun x hx => HX.out x (List.mem_of_mem_take hx)
      have t2 : ∀ x ∈ l.drop h, Szq x K := fun x hx => HX.out x (List.mem_of_mem_drop hx)
      have hm1 := HV.out.take h (by omega)
      have hm2 := HV.out.drop h (by omega)
      rw [← List.map_take] at hm1
      rw [← List.map_drop] at hm2
      have i1 := fun W (hC : Ch w.heap.size none1 w W) => ih h (by omega) W (some ⟨g, o, none⟩) cap (l.take h) (hm1.ch hC) (by omega) (by omega) (by omega) t1
      have i2 := fun W (hC : Ch w.heap.size none1 w W) => ih (n - h) (by omega) W (some ⟨g, o + h * 3, none⟩) (cap - h) (l.drop h) (hm2.ch hC) (by omega) (by omega) (by omega) t2
      have q1 := rsum_size K _ t1
      have q2 := rsum_size K _ t2
      rw [List.length_take, HL.out, Nat.min_eq_left (by omega)] at q1
      rw [List.length_drop, HL.out] at q2
      have hs : rsum l = rsum (l.take h) + rsum (l.drop h) := by rw [← rsum_append, List.take_append_drop]
      obtain ⟨x, hx⟩ : ∃ x, rsum (l.take h) = x := ⟨_, rfl⟩
      obtain ⟨y, hy⟩ : ∃ y, rsum (l.drop h) = y := ⟨_, rfl⟩
      rw [hx] at i1 q1 hs
      rw [hy] at i2 q2 hs
      obtain ⟨l1, l2⟩ := q1.len (pt_is x)
      obtain ⟨l3, l4⟩ := q2.len (pt_is y)
      have i3 := C_plus (pt_is x) (pt_is y) (pt_is (x + y)) (by omega) (by omega) (by omega) (by omega)
      rw [hs]
      obtain ⟨⟨s1, n1', d1'⟩, hq1⟩ : ∃ q, pt x = q := ⟨_, rfl⟩
      obtain ⟨⟨s2, n2', d2'⟩, hq2⟩ : ∃ q, pt y = q := ⟨_, rfl⟩
      obtain ⟨⟨r, k, f⟩, hq3⟩ : ∃ q, pt (x + y) = q := ⟨_, rfl⟩
      rw [hq1] at i1 i3
      rw [hq2] at i2 i3
      rw [hq3] at i3 ⊢
      simp only at i3
      have H1 := Lib.hid i1
      have H2 := Lib.hid i2
      have H3 := Lib.hid i3
      clear ih i1 i2 i3 q1 q2 hq1 hq2 hq3 l1 l2 l3 l4 hx hy hs t1 t2 hm1 hm2 k1 k2 hK HX
      obtain ⟨a0, a1, a2⟩ := HB.out.cells1
      go_enter Tryz.func41, Tryz.ntmps41
      go_wp2_with fail
      clear a0 a1 a2
      have HBD := Lib.hid HB.out.drew
      clear HB
      have HB := HBD
      clear HBD
      go_region_held3 (fun w' => w'.cell? ⟨B, 0, none⟩ = some (.bool false) ∧ w'.cell? ⟨B, 1, none⟩ = some (S []) ∧ w'.cell? ⟨B, 2, none⟩ = some (S [1]))
        (first
          | (with_reducible exact HB.out.cells1)
          | (exact HB.out.cells1p _ _ _)
          | go_keep)
        (first
          | (go_at_call 41; with_reducible refine (H1.out _ HB.out.ch).mono ?_; rintro e wq ⟨rfl, hCq⟩; have HB2 := Lib.hid (HB.out.on hCq); clear hCq HB; have HB := HB2; clear HB2)
          | (go_at_call 41; with_reducible refine (H2.out _ HB.out.ch).mono ?_; rintro e wq ⟨rfl, hCq⟩; have HB2 := Lib.hid (HB.out.on hCq); clear hCq HB; have HB := HB2; clear HB2)
          | (go_at_call 39; with_reducible refine (H3.out _).mono ?_; rintro e wq ⟨rfl, hCq⟩; have HB2 := Lib.hid (HB.out.on hCq); clear hCq HB; have HB := HB2; clear HB2; obtain ⟨e0, e1, e2, f0, f1, f2⟩ := HB.out.store (i := 1) rfl))
      go_wp2_with fail
      have hp := HB.out.put (i := 1) rfl (.bool r) (S k) (S f)
      refine bodyPost_ret (results_cell_row (P := Tryz.prog) rfl _ _ (B + 1) 25 _ (0, 0) _ rfl hp.1 Tryz.underlying25 rfl (by kernel_rfl)) rfl ?_
      exact ⟨rfl, hp.2⟩
theorem Tb.cells1p {w W : World} {g : Nat} {rows : List (List Value)} (h : Tb w) (hB : Box w W g rows) (u v t : Value) :
    (((W.setCell ⟨g, 0, none⟩ u).setCell ⟨g, 1, none⟩ v).setCell ⟨g, 2, none⟩ t).cell? ⟨0, 0, none⟩ = some (.bool false) ∧ (((W.setCell ⟨g, 0, none⟩ u).setCell ⟨g, 1, none⟩ v).setCell ⟨g, 2, none⟩ t).cell? ⟨0, 1, none⟩ = some (S []) ∧ (((W.setCell ⟨g, 0, none⟩ u).setCell ⟨g, 1, none⟩ v).setCell ⟨g, 2, none⟩ t).cell? ⟨0, 2, none⟩ = some (S [1]) := by
  have hz := (h.ch hB.ch).zero
  have hl := h.size
  have hge := hB.ge
  have hne : 0 ≠ g := by omega
  have r := ((hz.set_other hne 0 u).set_other hne 1 v).set_other hne 2 t
  exact ⟨r.cell 0, r.cell 1, r.cell 2⟩
theorem Szq.rof {t : T3} {K : Nat} (hK : 1 ≤ K) (h : t.2.1.length ≤ K ∧ t.2.2.length ≤ K) : Szq (rof t) K := Szq.of_len h.1 h.2 hK
set_option maxRecDepth 100000 in
set_option maxHeartbeats 3200000 in
theorem C_Sum (K : Nat) (w : World) (p : Option Addr) (n cap : Nat) (l : List T3) (hv : Rs w p n l) (ht : Tb w) (hn : n ≤ 1000) (hK1 : 1 ≤ K) (hK : n * (K + 1) ≤ 999) (hK2 : K ≤ 1000) (hsz : ∀ t ∈ l, t.2.1.length ≤ K ∧ t.2.2.length ≤ K) :
    Calls Tryz.prog 12 #[.slice p n cap] w (Yld w (Tv (pt (rsum (l.map rof))))) := by
  have h1 := fun W (hC : Ch w.heap.size none1 w W) (G : Nat) (hG : W.heap.size = G) => hG ▸ each_counted W p n cap l (hv.ch hC) (ht.ch hC) (fun t h => ⟨Nat.le_trans (hsz t h).1 hK2, Nat.le_trans (hsz t h).2 hK2⟩) hn
  have hz2 : ∀ q ∈ l.map rof, Szq q K := fun q hq => by
    obtain ⟨t, h, rfl⟩ := List.mem_map.1 hq
    exact Szq.rof hK1 (hsz t h)
  have hmm : (l.map fun t => pt (rof t)) = (l.map rof).map pt := by rw [List.map_map]; rfl
  have h2 := fun W G (hB : Blk W G 25 (rcs (l.map fun t => pt (rof t)))) => fold_rat K n W (some ⟨G, 0, none⟩) n (l.map rof) (Rs.blk (hmm ▸ hB) (by rw [List.length_map, List.length_map, hv.len])) (Nat.le_refl _) hK hn hz2
  obtain ⟨⟨r, k, f⟩, hq⟩ : ∃ q, pt (rsum (l.map rof)) = q := ⟨_, rfl⟩
  rw [hq] at h2 ⊢
  have H1 := Lib.hid h1
  have H2 := Lib.hid h2
  have HT := Lib.hid ht
  clear h1 h2 hz2 hmm hq hv ht hsz hK
  have HB := Lib.hid (Box.one w #[.bool false, S [], S []])
  obtain ⟨B, hB⟩ : ∃ B, w.heap.size = B := ⟨_, rfl⟩
  rw [hB] at HB
  go_enter Tryz.func12, Tryz.ntmps12
  go_wp2_with fail
  have HBD := Lib.hid HB.out.drew
  clear HB
  have HB := HBD
  clear HBD
  have HS := Lib.hid (show (w.alloc (.cells #[.bool false, S [], S []] 25 (0, 0))).drew.heap.size = B + 1 by rw [← hB]; exact World.size_alloc _ _)
  go_region_held3 (fun w' => w'.cell? ⟨0, 0, none⟩ = some (.bool false) ∧ w'.cell? ⟨0, 1, none⟩ = some (S []) ∧ w'.cell? ⟨0, 2, none⟩ = some (S [1]))
    (first
      | (with_reducible exact (HT.out.ch HB.out.ch).cells)
      | (exact HT.out.cells1p HB.out _ _ _)
      | go_keep)
    (first
      | (go_at_call 19; with_reducible refine (H1.out _ HB.out.ch (B + 1) HS.out).mono ?_; rintro e wq ⟨rfl, hBq, hCq⟩; have HQ := Lib.hid hBq; have HB2 := Lib.hid (HB.out.on (HS.out.symm ▸ hCq)); clear hBq hCq HB; have HB := HB2; clear HB2)
      | (go_at_call 41; with_reducible refine (H2.out _ _ HQ.out).mono ?_; rintro e wq ⟨rfl, hCq⟩; have HB2 := Lib.hid (HB.out.on hCq); clear hCq HB; have HB := HB2; clear HB2; obtain ⟨e0, e1, e2, f0, f1, f2⟩ := HB.out.store0))
  go_wp2_with fail
  have hp := HB.out.put (i := 0) rfl (.bool r) (S k) (S f)
  refine bodyPost_ret (results_cell_row (P := Tryz.prog) rfl _ _ B 25 _ (0, 0) _ rfl hp.1 Tryz.underlying25 rfl (by kernel_rfl)) rfl ?_
  exact ⟨rfl, hp.2⟩
end Go.Proofs.YtbpoghgokkpckaaGreatDoor
