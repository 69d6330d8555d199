/- Package money: Split. -/
import Derived.Test.YtkeomlpecjjhiaaGreatDoorAs
import Derived.Test.YtkeomlpecjjhiaaGreatDoorAb
namespace Go.Proofs.YtkeomlpecjjhiaaGreatDoor
open Go.RowKit
def okW (l : List T3) : Bool := !(bad l || negs l)
theorem okW_yes {l : List T3} (h : okW l = true) : bad l = false ∧ negs l = false := by
 unfold okW at h
 revert h
 cases bad l <;> cases negs l <;> simp
theorem okW_no {l : List T3} (h : okW l = false) : bad l = true ∨ negs l = true := by
 unfold okW at h
 revert h
 cases bad l <;> cases negs l <;> simp
theorem okW_no2 {l : List T3} (h : okW l = false) : bad l = true ∨ negs (l.map fun t => pt (rof t)) = true := by
 cases hb : bad l with
 | true => exact .inl rfl
 | false =>
  refine .inr ?_
  rw [good_same l hb]
  rcases okW_no h with q | q
  ·rw [hb] at q; cases q
  ·exact q
def splitB : Option Int → List T3 → Bool
 | some _, l => okW l && decide (0 < (whl l).sum)
 | none, _ => false
def splitL (o : Option Int) (l : List T3) : List T3 := match o with
 | some c => if splitB (some c) l = true then amts (decide (c < 0)) ((partsOf c.natAbs (whl l)).map nb) else []
 | none => []
theorem splitB_no {o : Option Int} {l : List T3} (h : okW l = false ∨ (whl l).sum = 0) : splitB o l = false := by
 cases o with
 | none => rfl
 | some c =>
  show (okW l && decide (0 < (whl l).sum)) = false
  rcases h with h | h <;> rw [h] <;> simp
theorem splitL_no {o : Option Int} {l : List T3} (h : splitB o l = false) : splitL o l = [] := by
 cases o with
 | none => rfl
 | some c =>
  show (if splitB (some c) l = true then _ else _) = _
  rw [h, if_neg (by simp)]
def Ysp (w : World) (o : Option Int) (l : List T3) (e : Ending) (w' : World) : Prop := ∃ p n c, e = .returned (.tuple #[.slice p n c, .bool (splitB o l)]) ∧ Rs w' p n (splitL o l) ∧ Ch w.heap.size none1 w w'
theorem Ysp.no {w w' : World} {o : Option Int} {l : List T3} {e : Ending} (h : splitB o l = false) (he : e = .returned (.tuple #[.slice none 0 0, .bool false])) (hC : Ch w.heap.size none1 w w') : Ysp w o l e w' :=
 ⟨none, 0, 0, by rw [he, h], by rw [splitL_no h]; exact Rs.none _, hC⟩
theorem wholes_whl (l : List T3) : wholes (nb (dens l)) l = ((whl l).map nb).map S := by
 unfold wholes whl
 rw [List.map_map, List.map_map, bv_nb]
 rfl
theorem Vs.none0 (w : World) : Vs w none 0 (([] : List (List UInt8)).map S) := ⟨rfl, fun _ => rfl, fun a h => by simp at h⟩
set_option maxRecDepth 100000 in
set_option maxHeartbeats 3200000 in
theorem split_any (K : Nat) {s : Bool} {n d : List UInt8} {o : Option Int} (l : List T3) (p : Option Addr) (m cap : Nat) (w : World) (ht : Tm w) (hv : Rs w p m l) (hm : m ≤ 19) (hn : n.length ≤ 900) (hd : d.length ≤ 900) (ho : centsR s n d = o) (hK : K ≤ 450) (hnK : m * K ≤ 450) (hsz : ∀ t ∈ l, t.2.1.length ≤ K ∧ t.2.2.length ≤ K) :
  Calls Tryz.prog 19 #[Rv s n d, .slice p m cap] w (Ysp w o l) := by
 have H1 := Lib.hid (C_Cents hn hd ho)
 have hb100 : ¬ (100 : Int) < (m : Int) := by omega
 rcases o with _ | c
 ·have HV := Lib.hid (show centsV none = .tuple #[.int .i64 0, .bool false] from rfl)
  rw [HV.out] at H1
  clear hv hn hd ho hnK hsz
  have HT := Lib.hid ht
  have HK := Lib.hid ((Kq.nil w).new #[.bool s, S n, S d] 26)
  obtain ⟨B, hB⟩ : ∃ B, w.heap.size = B := ⟨_, rfl⟩
  rw [hB] at HK
  have HBB := Lib.hid hB
  clear ht
  have HF1 := Lib.hid (show ∀ W, Kq w W [(B, 26, [.bool s, S n, S d])] → W.cell? ⟨B, 0, none⟩ = some (.bool s) ∧ W.cell? ⟨B, 1, none⟩ = some (S n) ∧ W.cell? ⟨B, 2, none⟩ = some (S d) from fun W h => ⟨(h.row _ mm0).cell 0, (h.row _ mm0).cell 1, (h.row _ mm0).cell 2⟩)
  obtain ⟨cc0, cc1, cc2⟩ := HF1.out _ HK.out
  go_enter Tryz.func19, Tryz.ntmps19
  go_wp2_with fail
  clear hB
  refine (H1.out _ (HT.out.ch HK.out.ch)).mono ?_
  rintro e w1 ⟨rfl, hC⟩
  replace HK := Lib.hid (HK.out.on hC)
  clear hC cc0 cc1 cc2
  obtain ⟨cc0, cc1, cc2⟩ := HF1.out _ HK.out
  go_wp2_with fail
  go_ret2
  exact Ysp.no rfl rfl HK.out.ch
 ·have HV := Lib.hid (show centsV (some c) = .tuple #[.int .i64 c, .bool true] from rfl)
  rw [HV.out] at H1
  have hc64 : -9223372036854775808 ≤ c ∧ c ≤ 9223372036854775807 := by
   unfold centsR centsQ at ho
   split at ho
   ·split at ho
    ·rename_i h1 h2
     have := Option.some.inj ho
     omega
    ·simp at ho
   ·simp at ho
  have hml : l.length = m := hv.len
  cases hok : okW l with
  | false =>
   have H2 := Lib.hid (fun W (hC : Ch w.heap.size none1 w W) => C_Common_no K W p m cap l (hv.ch hC) (ht.ch hC).tb (by omega) (by omega) hsz (okW_no2 hok))
   have H3 := Lib.hid (fun W => sumOf_any [] none 0 0 W (Vs.none0 W) (by decide) (by simp))
   rw [show nb (bsum []) = [] from nb_zero] at H3
   have HNO := Lib.hid (splitB_no (o := some c) (.inl hok))
   clear hv hn hd ho hnK hsz hok hml HV
   have HT := Lib.hid ht
   have HK := Lib.hid ((Kq.nil w).new #[.bool s, S n, S d] 26)
   obtain ⟨B, hB⟩ : ∃ B, w.heap.size = B := ⟨_, rfl⟩
   rw [hB] at HK
   have HBB := Lib.hid hB
   clear ht
   have HF1 := Lib.hid (show ∀ W, Kq w W [(B, 26, [.bool s, S n, S d])] → W.cell? ⟨B, 0, none⟩ = some (.bool s) ∧ W.cell? ⟨B, 1, none⟩ = some (S n) ∧ W.cell? ⟨B, 2, none⟩ = some (S d) from fun W h => ⟨(h.row _ mm0).cell 0, (h.row _ mm0).cell 1, (h.row _ mm0).cell 2⟩)
   obtain ⟨cc0, cc1, cc2⟩ := HF1.out _ HK.out
   go_enter Tryz.func19, Tryz.ntmps19
   go_wp2_with fail
   clear hB
   refine (H1.out _ (HT.out.ch HK.out.ch)).mono ?_
   rintro e w1 ⟨rfl, hC⟩
   replace HK := Lib.hid (HK.out.on hC)
   clear hC cc0 cc1 cc2
   obtain ⟨cc0, cc1, cc2⟩ := HF1.out _ HK.out
   go_wp2_with fail
   refine (H2.out _ HK.out.ch).mono ?_
   rintro e w2 ⟨rfl, hC⟩
   replace HK := Lib.hid (HK.out.on hC)
   clear hC cc0 cc1 cc2
   obtain ⟨cc0, cc1, cc2⟩ := HF1.out _ HK.out
   go_wp2_with fail
   refine (H3.out _).mono ?_
   rintro e w3 ⟨rfl, hC⟩
   replace HK := Lib.hid (HK.out.on hC)
   clear hC cc0 cc1 cc2
   obtain ⟨cc0, cc1, cc2⟩ := HF1.out _ HK.out
   go_wp2_with fail
   go_ret2
   exact Ysp.no HNO.out rfl HK.out.ch
  | true =>
   obtain ⟨hb, hg⟩ := okW_yes hok
   obtain ⟨D, hD⟩ : ∃ D, nb (dens l) = D := ⟨_, rfl⟩
   have H2 := Lib.hid (fun W (hC : Ch w.heap.size none1 w W) => C_Common K W p m cap l D (hv.ch hC) (ht.ch hC).tb (by omega) (by omega) (by omega) hsz hb hg hD)
   have HW := Lib.hid (show wholes D l = ((whl l).map nb).map S by rw [← hD]; exact wholes_whl l)
   have hwl := whl_lt K hb hsz
   rw [hml] at hwl
   have hsl := whl_sum_lt K hb hsz (by omega)
   rw [hml] at hsl
   have hbl : ∀ x ∈ (whl l).map nb, x.length ≤ 450 := fun x hx => by
    obtain ⟨y, hy, rfl⟩ := List.mem_map.1 hx
    exact Nat.le_trans ((nb_len _ _).2 (hwl y hy)) hnK
   have hlen : ((whl l).map nb).length = m := by rw [List.length_map, whl_len, hml]
   have H3 := Lib.hid (fun W g (hB : Blk W g 24 (((whl l).map nb).map S)) => sumOf_any ((whl l).map nb) (some ⟨g, 0, none⟩) m m W (Vs.blk hB (by rw [List.length_map]; exact hlen)) (by omega) (fun x hx => Nat.le_trans (hbl x hx) (by decide)))
   rw [bsum_nb] at H3
   obtain ⟨Sm, hSm⟩ : ∃ Sm, nb (whl l).sum = Sm := ⟨_, rfl⟩
   rw [hSm] at H3
   have hSl : Sm.length ≤ 460 := by rw [← hSm]; exact Nat.le_trans ((nb_len _ _).2 hsl) (by omega)
   by_cases h0 : (whl l).sum = 0
   ·have HNO := Lib.hid (splitB_no (o := some c) (.inr h0))
    obtain rfl : [] = Sm := by rw [← hSm, h0, nb_zero]
    clear hv hn hd ho hnK hsz hok hml HV hD hwl hsl hbl hlen hSm hSl h0 hb hg
    have HT := Lib.hid ht
    have HK := Lib.hid ((Kq.nil w).new #[.bool s, S n, S d] 26)
    obtain ⟨B, hB⟩ : ∃ B, w.heap.size = B := ⟨_, rfl⟩
    rw [hB] at HK
    have HBB := Lib.hid hB
    clear ht
    have HF1 := Lib.hid (show ∀ W, Kq w W [(B, 26, [.bool s, S n, S d])] → W.cell? ⟨B, 0, none⟩ = some (.bool s) ∧ W.cell? ⟨B, 1, none⟩ = some (S n) ∧ W.cell? ⟨B, 2, none⟩ = some (S d) from fun W h => ⟨(h.row _ mm0).cell 0, (h.row _ mm0).cell 1, (h.row _ mm0).cell 2⟩)
    obtain ⟨cc0, cc1, cc2⟩ := HF1.out _ HK.out
    go_enter Tryz.func19, Tryz.ntmps19
    go_wp2_with fail
    clear hB
    refine (H1.out _ (HT.out.ch HK.out.ch)).mono ?_
    rintro e w1 ⟨rfl, hC⟩
    replace HK := Lib.hid (HK.out.on hC)
    clear hC cc0 cc1 cc2
    obtain ⟨cc0, cc1, cc2⟩ := HF1.out _ HK.out
    go_wp2_with fail
    clear cc0 cc1 cc2
    refine (H2.out _ HK.out.ch).mono ?_
    rintro e w2 ⟨g, rfl, -, hB, hC⟩
    rw [HW.out] at hB
    have HK2 := Lib.hid ((HK.out.on hC).add hB)
    clear hC hB HK
    have HK := HK2
    clear HK2
    have HF2 := Lib.hid (show ∀ W, Kq w W [(g, 24, ((whl l).map nb).map S), (B, 26, [.bool s, S n, S d])] → W.cell? ⟨B, 0, none⟩ = some (.bool s) ∧ W.cell? ⟨B, 1, none⟩ = some (S n) ∧ W.cell? ⟨B, 2, none⟩ = some (S d) from fun W h => ⟨(h.row _ mm1).cell 0, (h.row _ mm1).cell 1, (h.row _ mm1).cell 2⟩)
    obtain ⟨cc0, cc1, cc2⟩ := HF2.out _ HK.out
    go_wp2_with fail
    refine (H3.out _ _ (HK.out.row _ mm0)).mono ?_
    rintro e w3 ⟨rfl, hC⟩
    replace HK := Lib.hid (HK.out.on hC)
    clear hC cc0 cc1 cc2
    obtain ⟨cc0, cc1, cc2⟩ := HF2.out _ HK.out
    go_wp2_with fail
    go_ret2
    exact Ysp.no HNO.out rfl HK.out.ch
   ·have h0p : 0 < (whl l).sum := Nat.pos_of_ne_zero h0
    have hse : Sm ≠ [] := fun q => h0 ((nb_nil_iff _).1 (hSm.trans q))
    have hse2 : (Sm == []) = false := beq_no hse
    have HYES := Lib.hid (show splitB (some c) l = true by show (okW l && decide (0 < (whl l).sum)) = true; rw [hok, decide_eq_true h0p]; rfl)
    obtain ⟨x, hx⟩ : ∃ x, nb c.natAbs = x := ⟨_, rfl⟩
    have hxv : bv x = c.natAbs := by rw [← hx, bv_nb]
    have hxl : x.length ≤ 8 := by
     rw [← hx]
     refine (nb_len _ _).2 ?_
     have : (256 : Nat) ^ 8 = 18446744073709551616 := rfl
     omega
    have hm0 : 0 < m := by
     rw [← hml]
     rcases Nat.eq_zero_or_pos l.length with q | q
     ·rw [List.eq_nil_of_length_eq_zero q] at h0
      exact absurd rfl h0
     ·exact q
    have H4 := Lib.hid (C_unsigned hc64.1 hc64.2 hx)
    have H5 := Lib.hid (fun W g (hB : Blk W g 24 (((whl l).map nb).map S)) => divided_any x Sm ((whl l).map nb) (some ⟨g, 0, none⟩) m m W (Vs.blk hB (by rw [List.length_map]; exact hlen)) hm0 hm hxl hbl hSl (by rw [map_bv_nb, ← hSm, bv_nb]) (by rw [← hSm, bv_nb]; exact h0p) (by rw [hxv]; omega))
    rw [map_bv_nb, hxv, nvs_bytes] at H5
    have hpl : ((partsOf c.natAbs (whl l)).map nb).length = m := by rw [List.length_map, partsOf_len, whl_len, hml]
    have hps : ∀ y ∈ (partsOf c.natAbs (whl l)).map nb, y.length ≤ 900 ∧ Rt y := fun y hy => by
     obtain ⟨z, hz, rfl⟩ := List.mem_map.1 hy
     refine ⟨?_, rt_nb _⟩
     have h1 := partsAt_le c.natAbs (whl l) h0p _ (Nat.le_refl _) z (by rw [partsAt_end]; exact hz)
     refine Nat.le_trans ((nb_len _ 8).2 ?_) (by decide)
     have : (256 : Nat) ^ 8 = 18446744073709551616 := rfl
     omega
    obtain ⟨ng, hng⟩ : ∃ b, decide (c < 0) = b := ⟨_, rfl⟩
    have H6 := Lib.hid (fun W g (hB : Blk W g 24 (((partsOf c.natAbs (whl l)).map nb).map S)) => amounts_any ng ((partsOf c.natAbs (whl l)).map nb) (some ⟨g, 0, none⟩) m m W (Vs.blk hB (by rw [List.length_map]; exact hpl)) (by omega) hps)
    have HLL := Lib.hid (show splitL (some c) l = amts ng ((partsOf c.natAbs (whl l)).map nb) by show (if splitB (some c) l = true then _ else _) = _; rw [HYES.out, if_pos rfl, hng])
    have HAL := Lib.hid (show (amts ng ((partsOf c.natAbs (whl l)).map nb)).length = m by unfold amts; rw [List.length_map]; exact hpl)
    clear hv hn hd ho hnK hsz hok hml HV hD hwl hsl hbl hlen hSm hSl h0 hb hg hx hxv hxl hm0 hpl hps h0p hc64
    have HT := Lib.hid ht
    have HK := Lib.hid ((Kq.nil w).new #[.bool s, S n, S d] 26)
    obtain ⟨B, hB⟩ : ∃ B, w.heap.size = B := ⟨_, rfl⟩
    rw [hB] at HK
    have HBB := Lib.hid hB
    clear ht
    have HF1 := Lib.hid (show ∀ W, Kq w W [(B, 26, [.bool s, S n, S d])] → W.cell? ⟨B, 0, none⟩ = some (.bool s) ∧ W.cell? ⟨B, 1, none⟩ = some (S n) ∧ W.cell? ⟨B, 2, none⟩ = some (S d) from fun W h => ⟨(h.row _ mm0).cell 0, (h.row _ mm0).cell 1, (h.row _ mm0).cell 2⟩)
    obtain ⟨cc0, cc1, cc2⟩ := HF1.out _ HK.out
    go_enter Tryz.func19, Tryz.ntmps19
    go_wp2_with fail
    clear hB
    refine (H1.out _ (HT.out.ch HK.out.ch)).mono ?_
    rintro e w1 ⟨rfl, hC⟩
    replace HK := Lib.hid (HK.out.on hC)
    clear hC cc0 cc1 cc2
    obtain ⟨cc0, cc1, cc2⟩ := HF1.out _ HK.out
    go_wp2_with fail
    clear cc0 cc1 cc2
    refine (H2.out _ HK.out.ch).mono ?_
    rintro e w2 ⟨g, rfl, -, hB, hC⟩
    rw [HW.out] at hB
    have HK2 := Lib.hid ((HK.out.on hC).add hB)
    clear hC hB HK
    have HK := HK2
    clear HK2
    have HF2 := Lib.hid (show ∀ W, Kq w W [(g, 24, ((whl l).map nb).map S), (B, 26, [.bool s, S n, S d])] → W.cell? ⟨B, 0, none⟩ = some (.bool s) ∧ W.cell? ⟨B, 1, none⟩ = some (S n) ∧ W.cell? ⟨B, 2, none⟩ = some (S d) from fun W h => ⟨(h.row _ mm1).cell 0, (h.row _ mm1).cell 1, (h.row _ mm1).cell 2⟩)
    obtain ⟨cc0, cc1, cc2⟩ := HF2.out _ HK.out
    go_wp2_with fail
    refine (H3.out _ _ (HK.out.row _ mm0)).mono ?_
    rintro e w3 ⟨rfl, hC⟩
    replace HK := Lib.hid (HK.out.on hC)
    clear hC cc0 cc1 cc2
    obtain ⟨cc0, cc1, cc2⟩ := HF2.out _ HK.out
    go_wp2_with fail
    clear cc0 cc1 cc2
    obtain ⟨cc0, cc1, cc2⟩ := HF2.out _ HK.out
    refine (H4.out _).mono ?_
    rintro e w4 ⟨rfl, hC⟩
    replace HK := Lib.hid (HK.out.on hC)
    clear hC cc0 cc1 cc2
    obtain ⟨cc0, cc1, cc2⟩ := HF2.out _ HK.out
    go_wp2_with fail
    clear cc0 cc1 cc2
    refine (H5.out _ _ (HK.out.row _ mm0)).mono ?_
    rintro e w5 ⟨rfl, hB, hC⟩
    have HB := Lib.hid hB
    have HK2 := Lib.hid (HK.out.on hC)
    clear hC HK hB
    have HK := HK2
    clear HK2
    go_wp2_with fail
    refine (H6.out _ _ HB.out).mono ?_
    rintro e w6 ⟨rfl, hB, hC⟩
    have HR := Lib.hid hB
    have HK2 := Lib.hid (HK.out.on hC)
    clear hC HK hB
    have HK := HK2
    clear HK2
    go_wp2_with fail
    go_ret2
    exact ⟨_, _, _, by rw [HYES.out]; rfl, by rw [HLL.out]; exact Rs.blk HR.out HAL.out, HK.out.ch⟩
end Go.Proofs.YtkeomlpecjjhiaaGreatDoor
