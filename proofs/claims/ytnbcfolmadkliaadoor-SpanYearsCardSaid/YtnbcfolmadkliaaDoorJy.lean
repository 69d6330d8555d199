/- SpanYears: mathematics and the walk. -/
import Derived.Test.YtnbcfolmadkliaaDoorJm
namespace Go.Proofs.YtnbcfolmadkliaaDoor
open Go.RowKit Go.Shelf
theorem year_parts {v : Int} (h0 : 0 ≤ v) (h1 : v < 20) : ∃ x y, yV v = .tuple #[SpV x y, .bool true] ∧ Cal.right x = true ∧ Cal.cy x = 2000 + v ∧ Cal.cm x = 1 ∧ Cal.cd x = 1 ∧ pV x = .tuple #[iz v, .bool true] ∧ pV (y - 1) = .tuple #[iz v, .bool true] ∧ 730119 ≤ x ∧ x < y ∧ y ≤ 737424 ∧ (y - x = 365 ∨ y - x = 366) ∧
    ((v < 19 ∧ ∃ z, yV (v + 1) = .tuple #[SpV y z, .bool true]) ∨ (v = 19 ∧ yV (v + 1) = .tuple #[SpV 0 0, .bool false])) := by
  obtain ⟨k, rfl⟩ := Int.eq_ofNat_of_zero_le h0
  have hk : k < 20 := by omega
  have hj := Cal.num_spec (jan_vld (y := 2000 + (k : Int)) (by omega) (by omega))
  rw [jan_num] at hj
  obtain ⟨j0, j1, j2, j3⟩ := hj
  have a := Cal.dby_le (show (2000 : Int) ≤ 2000 + (k : Int) by omega)
  have b := Cal.dby_le (show 2000 + (k : Int) + 1 ≤ 2020 by omega)
  rw [dby_2000] at a
  rw [dby_2020] at b
  have c := Cal.dby_succ (2000 + (k : Int))
  have l := Cal.lp_01 (2000 + (k : Int))
  refine ⟨Cal.dby (2000 + (k : Int)), Cal.dby (2000 + (k : Int) + 1), yV_yes h0 h1, j0, j1, j2, j3, year_hit hk (Int.le_refl _) (by omega), year_hit hk (by omega) (by omega), a, by omega, b, by omega, ?_⟩
  rcases Nat.lt_or_ge k 19 with q | q
  · refine .inl ⟨by omega, Cal.dby (2000 + (k : Int) + 1 + 1), ?_⟩
    rw [yV_yes (by omega) (by omega), show 2000 + ((k : Int) + 1) = 2000 + (k : Int) + 1 by omega]
  · exact .inr ⟨by omega, yV_no (by omega)⟩
theorem period_parts (d : Int) : (∃ v x y, pV d = .tuple #[iz v, .bool true] ∧ yV v = .tuple #[SpV x y, .bool true] ∧ 0 ≤ v ∧ v < 20 ∧ 730119 ≤ x ∧ x < y ∧ y ≤ 737424 ∧ Spn.has [(x, y)] d = true) ∨ pV d = .tuple #[iz 0, .bool false] := by
  by_cases h : 730119 ≤ d ∧ d < 737424
  · obtain ⟨h0, h1⟩ := h
    have hr := Cal.right_iff.2 (show 0 ≤ d ∧ d ≤ 3652058 by omega)
    obtain ⟨_, _, h2, h3⟩ := Cal.yof_spec hr
    obtain ⟨r0, r1⟩ := (yof_range hr).2 ⟨h0, h1⟩
    have a := Cal.dby_le r0
    have b := Cal.dby_le (show Cal.yof d + 1 ≤ 2020 by omega)
    rw [dby_2000] at a
    rw [dby_2020] at b
    refine .inl ⟨Cal.yof d - 2000, Cal.dby (Cal.yof d), Cal.dby (Cal.yof d + 1), pV_yes h0 h1, ?_, by omega, by omega, a, by omega, b, ?_⟩
    · rw [yV_yes (by omega) (by omega), show 2000 + (Cal.yof d - 2000) = Cal.yof d by omega]
    · rw [Spn.has_cons, Spn.has_nil, Bool.or_false]
      simp [Spn.inn, Spn.rt]
      omega
  · exact .inr (pV_no h)
theorem Year_as {p : Int} {w : World} {V : Value} (ht : LenIs w) (hp : -9223372036854775808 ≤ p ∧ p ≤ 9223372036854775807) (h : yV p = V) :
    Calls Tryd.prog 18 #[iz p] w (Ya w V) := by
  have := Year_any p w ht hp
  rwa [h] at this
theorem refYear_as {p : Int} {w : World} {V : Value} (hp : -9223372036854775808 ≤ p ∧ p ≤ 9223372036854775807) (h : yV p = V) :
    Calls Tryd.prog 19 #[iz p] w (Ya w V) := by
  have := refYear_any p w hp
  rwa [h] at this
theorem Period_as {d : Int} {w : World} {V : Value} (ht : LenIs w) (h : pV d = V) :
    Calls Tryd.prog 21 #[iz d] w (Ya w V) := by
  have := Period_any d w ht
  rw [h] at this
  refine this.mono ?_
  rintro e w' ⟨rfl, rfl⟩
  exact ⟨rfl, Ch.refl _ _ _⟩
theorem refPeriod_as {d : Int} {w : World} {V : Value} (h : pV d = V) :
    Calls Tryd.prog 22 #[iz d] w (Ya w V) := by
  have := refPeriod_any d w
  rwa [h] at this
theorem Civil_as {d y m k : Int} {w : World} (ht : LenIs w) (hr : Cal.right d = true) (h1 : Cal.cy d = y) (h2 : Cal.cm d = m) (h3 : Cal.cd d = k) :
    Calls Tryd.prog 20 #[iz d] w (Ya w (.tuple #[iz y, iz m, iz k, .bool true])) := by
  have := Civil_yes d w ht hr
  rw [h1, h2, h3] at this
  refine this.mono ?_
  rintro e w' ⟨rfl, rfl⟩
  exact ⟨rfl, Ch.refl _ _ _⟩
theorem Kr.sub {w W : World} {L L' : List Ent} (h : Kr w W L) (hs : ∀ t ∈ L', t ∈ L) : Kr w W L' := ⟨h.ch, fun t ht => h.rd t (hs t ht)⟩
theorem Kr.other {w W : World} {L : List Ent} (h : Kr w W L) (o : Obj) : Kr w (W.alloc o) L := h.on ((Ch.refl _ _ W).alloc (Nat.le_refl _) o)
theorem Kr.pick {w W : World} {L : List Ent} (h : Kr w W L) {g k : Nat} {x y v : Int} (hm : (some ⟨g, 0, none⟩, 1, [(x, y)]) ∈ L) (hk : (k = 0 ∧ v = x) ∨ (k = 1 ∧ v = y)) : W.cell? ⟨g, k, none⟩ = some (iz v) := by
  have hc := h.cells hm
  rcases hk with ⟨rfl, rfl⟩ | ⟨rfl, rfl⟩
  · exact hc.1
  · exact hc.2
set_option maxRecDepth 100000 in
set_option maxHeartbeats 8000000 in
theorem years_core (p0 d0 : Int) (w : World) (hp0 : -9223372036854775808 ≤ p0 ∧ p0 ≤ 9223372036854775807) (hd0 : -9223372036854775808 ≤ d0 ∧ d0 ≤ 9223372036854775807) (ht : LenIs w) :
    Calls Tryd.prog 6 #[iz p0, iz d0] w (Ya w (.bool true)) := by
  have HT := Lib.hid ht
  have HK := Lib.hid (Kr.nil w)
  obtain ⟨p1, p2⟩ := hp0
  obtain ⟨d1, d2⟩ := hd0
  have HM21 := Lib.hid (fun W => Mod_any p0 21 (by omega) (by omega) W)
  have HM8 := Lib.hid (fun W => Mod_any d0 8000 (by omega) (by omega) W)
  have r21 : 0 ≤ p0 % 21 ∧ p0 % 21 < 21 := by omega
  have r8 : 0 ≤ d0 % 8000 ∧ d0 % 8000 < 8000 := by omega
  obtain ⟨q, hq⟩ : ∃ q, p0 % 21 = q := ⟨_, rfl⟩
  obtain ⟨r, hr⟩ : ∃ r, d0 % 8000 = r := ⟨_, rfl⟩
  rw [hq] at HM21 r21
  rw [hr] at HM8 r8
  clear ht hq hr
  obtain ⟨m, hm⟩ : ∃ m, 730000 + r = m := ⟨_, rfl⟩
  have hmr : 730000 ≤ m ∧ m < 738000 := by omega
  go_enter Tryd.func6, Tryd.ntmps6
  go_wp2_with fail
  refine (sanity_any _ (len_ch HT.out HK.out.ch)).mono ?_
  rintro e w1 ⟨rfl, hC⟩
  have HK2 := Lib.hid (HK.out.on hC)
  clear hC HK
  have HK := HK2
  clear HK2
  go_wp2_with fail
  refine (HM21.out _).mono ?_
  rintro e wq ⟨rfl, rfl⟩
  go_wp2_with fail
  have HK2 := Lib.hid (show Kr w (w1.alloc (.cells #[iz p0, iz q] 38 (0, 0))) ((some ⟨w1.heap.size, 0, none⟩, 1, [(p0, q)]) :: _) from HK.out.new [(p0, q)] 38)
  obtain ⟨w2, hW⟩ : ∃ W, w1.alloc (.cells #[iz p0, iz q] 38 (0, 0)) = W := ⟨_, rfl⟩
  rw [hW] at HK2 ⊢
  obtain ⟨g2, hA⟩ : ∃ A, w1.heap.size = A := ⟨_, rfl⟩
  rw [hA] at HK2 ⊢
  clear hA hW HK
  have HK := HK2
  clear HK2
  go_loopw [7] (fun i wr => ∃ k : Nat, k ≤ 2 ∧ i = .int .i64 k ∧ Kr w wr [(some ⟨g2, 0, none⟩, 1, [(p0, q)])]) (fun i _ => 2 - (intOf i).toNat)
  case atStart => exact ⟨0, Nat.zero_le _, rfl, HK.out⟩
  case round =>
    clear HK
    obtain ⟨k, hk, rfl, hK⟩ := hrel
    have HK := Lib.hid hK
    clear hK
    by_cases hlt : k < 2
    · obtain ⟨v, hv⟩ : ∃ v : Int, (k = 0 ∧ v = p0) ∨ (k = 1 ∧ v = q) := by
        rcases (show k = 0 ∨ k = 1 by omega) with h | h
        · exact ⟨p0, .inl ⟨h, rfl⟩⟩
        · exact ⟨q, .inr ⟨h, rfl⟩⟩
      have hvb : -9223372036854775808 ≤ v ∧ v ≤ 9223372036854775807 := by omega
      have HV := Lib.hid hv
      clear hv
      by_cases hin : 0 ≤ v ∧ v < 20
      · obtain ⟨v1, v2⟩ := hin
        obtain ⟨x, y, e1, hr, c1, c2, c3, e2, e3, b1, b2, b3, hl, hnx⟩ := year_parts v1 v2
        have E1 := Lib.hid e1
        have E2 := Lib.hid e2
        have E3 := Lib.hid e3
        have HR := Lib.hid hr
        have C1 := Lib.hid c1
        have C2 := Lib.hid c2
        have C3 := Lib.hid c3
        have HNX := Lib.hid hnx
        have HL := Lib.hid hl
        clear e1 e2 e3 hr c1 c2 c3 hnx hl
        obtain ⟨yy, hyy⟩ : ∃ yy, 2000 + v = yy := ⟨_, rfl⟩
        obtain ⟨f, hf⟩ : ∃ f, y - 1 = f := ⟨_, rfl⟩
        obtain ⟨vn, hvn⟩ : ∃ vn, v + 1 = vn := ⟨_, rfl⟩
        rw [hyy] at C1
        rw [hf] at E3
        rw [hvn] at HNX
        have hyb : 2000 ≤ yy ∧ yy < 2020 := by omega
        have hfb : 730119 ≤ f ∧ f < 737424 := by omega
        have hvb2 : 0 ≤ vn ∧ vn ≤ 20 := by omega
        have yk := HK.out.pick (g := g2) (.head _) HV.out
        go_wp2_with fail
        refine (Year_as (len_ch HT.out HK.out.ch) hvb E1.out).mono ?_
        rintro e w21 ⟨rfl, hC⟩
        have HK2 := Lib.hid (HK.out.on hC)
        clear yk
        clear hC HK
        have HK := HK2
        clear HK2
        have yk := HK.out.pick (g := g2) (.head _) HV.out
        have zk := fun o => (HK.out.other o).pick (g := g2) (.head _) HV.out
        have hnb := Blk.new w21 #[iz x, iz y] 35
        have nb0 := hnb.cell 0
        have nb1 := hnb.cell 1
        simp only [List.getElem?_cons_zero, List.getElem?_cons_succ] at nb0 nb1
        clear hnb
        go_wp2_with fail
        clear yk zk nb0 nb1
        have HK2 := Lib.hid (show Kr w (w21.alloc (.cells #[iz x, iz y] 35 (0, 0))) ((some ⟨w21.heap.size, 0, none⟩, 1, [(x, y)]) :: _) from HK.out.new [(x, y)] 35)
        obtain ⟨w22, hW⟩ : ∃ W, w21.alloc (.cells #[iz x, iz y] 35 (0, 0)) = W := ⟨_, rfl⟩
        rw [hW] at HK2 ⊢
        obtain ⟨g22, hA⟩ : ∃ A, w21.heap.size = A := ⟨_, rfl⟩
        rw [hA] at HK2 ⊢
        clear hA hW HK
        have HK := HK2
        clear HK2
        have yk := HK.out.pick (g := g2) (.tail _ (.head _)) HV.out
        obtain ⟨y00, y01⟩ := HK.out.cells (g := g22) (.head _)
        refine (refYear_as hvb E1.out).mono ?_
        rintro e w23 ⟨rfl, hC⟩
        have HK2 := Lib.hid (HK.out.on hC)
        clear yk y00 y01
        clear hC HK
        have HK := HK2
        clear HK2
        have yk := HK.out.pick (g := g2) (.tail _ (.head _)) HV.out
        have zk := fun o => (HK.out.other o).pick (g := g2) (.tail _ (.head _)) HV.out
        obtain ⟨y00, y01⟩ := HK.out.cells (g := g22) (.head _)
        have z0 := fun o => (HK.out.other o).cells (g := g22) (.head _)
        have z00 := fun o => (z0 o).1
        have z01 := fun o => (z0 o).2
        clear z0
        have hnb := Blk.new w23 #[iz x, iz y] 35
        have nb0 := hnb.cell 0
        have nb1 := hnb.cell 1
        simp only [List.getElem?_cons_zero, List.getElem?_cons_succ] at nb0 nb1
        clear hnb
        go_wp2_with fail
        clear yk zk y00 y01 z00 z01 nb0 nb1
        have HK2 := Lib.hid (show Kr w (w23.alloc (.cells #[iz x, iz y] 35 (0, 0))) ((some ⟨w23.heap.size, 0, none⟩, 1, [(x, y)]) :: _) from HK.out.new [(x, y)] 35)
        obtain ⟨w24, hW⟩ : ∃ W, w23.alloc (.cells #[iz x, iz y] 35 (0, 0)) = W := ⟨_, rfl⟩
        rw [hW] at HK2 ⊢
        obtain ⟨g24, hA⟩ : ∃ A, w23.heap.size = A := ⟨_, rfl⟩
        rw [hA] at HK2 ⊢
        clear hA hW HK
        have HK := HK2
        clear HK2
        have yk := HK.out.pick (g := g2) (.tail _ (.tail _ (.head _))) HV.out
        obtain ⟨y00, y01⟩ := HK.out.cells (g := g22) (.tail _ (.head _))
        obtain ⟨y10, y11⟩ := HK.out.cells (g := g24) (.head _)
        refine (Civil_as (len_ch HT.out HK.out.ch) HR.out C1.out C2.out C3.out).mono ?_
        rintro e w25 ⟨rfl, hC⟩
        have HK2 := Lib.hid (HK.out.on hC)
        clear yk y00 y01 y10 y11
        clear hC HK
        have HK := HK2
        clear HK2
        have yk := HK.out.pick (g := g2) (.tail _ (.tail _ (.head _))) HV.out
        obtain ⟨y00, y01⟩ := HK.out.cells (g := g22) (.tail _ (.head _))
        obtain ⟨y10, y11⟩ := HK.out.cells (g := g24) (.head _)
        go_wp2_with fail
        refine (Period_as (len_ch HT.out HK.out.ch) E2.out).mono ?_
        rintro e w26 ⟨rfl, hC⟩
        have HK2 := Lib.hid (HK.out.on hC)
        clear yk y00 y01 y10 y11
        clear hC HK
        have HK := HK2
        clear HK2
        have yk := HK.out.pick (g := g2) (.tail _ (.tail _ (.head _))) HV.out
        obtain ⟨y00, y01⟩ := HK.out.cells (g := g22) (.tail _ (.head _))
        obtain ⟨y10, y11⟩ := HK.out.cells (g := g24) (.head _)
        go_wp2_with fail
        refine (Period_as (len_ch HT.out HK.out.ch) E3.out).mono ?_
        rintro e w27 ⟨rfl, hC⟩
        have HK2 := Lib.hid (HK.out.on hC)
        clear yk y00 y01 y10 y11
        clear hC HK
        have HK := HK2
        clear HK2
        have yk := HK.out.pick (g := g2) (.tail _ (.tail _ (.head _))) HV.out
        obtain ⟨y00, y01⟩ := HK.out.cells (g := g22) (.tail _ (.head _))
        obtain ⟨y10, y11⟩ := HK.out.cells (g := g24) (.head _)
        go_wp2_with fail
        rcases HL.out with hlg | hlg
        · rcases HNX.out with ⟨hvl, z, hq⟩ | ⟨hvl, hq⟩
          · have HQ := Lib.hid hq
            clear hq
            refine (Year_as (len_ch HT.out HK.out.ch) (by omega) HQ.out).mono ?_
            rintro e w28 ⟨rfl, hC⟩
            have HK2 := Lib.hid (HK.out.on hC)
            clear yk y00 y01 y10 y11
            clear hC HK
            have HK := HK2
            clear HK2
            have yk := HK.out.pick (g := g2) (.tail _ (.tail _ (.head _))) HV.out
            have zk := fun o => (HK.out.other o).pick (g := g2) (.tail _ (.tail _ (.head _))) HV.out
            obtain ⟨y00, y01⟩ := HK.out.cells (g := g22) (.tail _ (.head _))
            have z0 := fun o => (HK.out.other o).cells (g := g22) (.tail _ (.head _))
            have z00 := fun o => (z0 o).1
            have z01 := fun o => (z0 o).2
            clear z0
            obtain ⟨y10, y11⟩ := HK.out.cells (g := g24) (.head _)
            have z1 := fun o => (HK.out.other o).cells (g := g24) (.head _)
            have z10 := fun o => (z1 o).1
            have z11 := fun o => (z1 o).2
            clear z1
            have hnb := Blk.new w28 #[iz y, iz z] 35
            have nb0 := hnb.cell 0
            have nb1 := hnb.cell 1
            simp only [List.getElem?_cons_zero, List.getElem?_cons_succ] at nb0 nb1
            clear hnb
            go_wp2_with fail
            go_roundw
            case rel => exact ⟨k + 1, by omega, by go_num, (HK.out.sub (fun t ht => .tail _ (.tail _ ht))).other _⟩
            case measure => simp [intOf]; omega
          · have HQ := Lib.hid hq
            clear hq
            refine (Year_as (len_ch HT.out HK.out.ch) (by omega) HQ.out).mono ?_
            rintro e w28 ⟨rfl, hC⟩
            have HK2 := Lib.hid (HK.out.on hC)
            clear yk y00 y01 y10 y11
            clear hC HK
            have HK := HK2
            clear HK2
            have yk := HK.out.pick (g := g2) (.tail _ (.tail _ (.head _))) HV.out
            have zk := fun o => (HK.out.other o).pick (g := g2) (.tail _ (.tail _ (.head _))) HV.out
            obtain ⟨y00, y01⟩ := HK.out.cells (g := g22) (.tail _ (.head _))
            have z0 := fun o => (HK.out.other o).cells (g := g22) (.tail _ (.head _))
            have z00 := fun o => (z0 o).1
            have z01 := fun o => (z0 o).2
            clear z0
            obtain ⟨y10, y11⟩ := HK.out.cells (g := g24) (.head _)
            have z1 := fun o => (HK.out.other o).cells (g := g24) (.head _)
            have z10 := fun o => (z1 o).1
            have z11 := fun o => (z1 o).2
            clear z1
            have hnb := Blk.new w28 #[iz 0, iz 0] 35
            have nb0 := hnb.cell 0
            have nb1 := hnb.cell 1
            simp only [List.getElem?_cons_zero, List.getElem?_cons_succ] at nb0 nb1
            clear hnb
            go_wp2_with fail
            go_roundw
            case rel => exact ⟨k + 1, by omega, by go_num, (HK.out.sub (fun t ht => .tail _ (.tail _ ht))).other _⟩
            case measure => simp [intOf]; omega
        · rcases HNX.out with ⟨hvl, z, hq⟩ | ⟨hvl, hq⟩
          · have HQ := Lib.hid hq
            clear hq
            refine (Year_as (len_ch HT.out HK.out.ch) (by omega) HQ.out).mono ?_
            rintro e w28 ⟨rfl, hC⟩
            have HK2 := Lib.hid (HK.out.on hC)
            clear yk y00 y01 y10 y11
            clear hC HK
            have HK := HK2
            clear HK2
            have yk := HK.out.pick (g := g2) (.tail _ (.tail _ (.head _))) HV.out
            have zk := fun o => (HK.out.other o).pick (g := g2) (.tail _ (.tail _ (.head _))) HV.out
            obtain ⟨y00, y01⟩ := HK.out.cells (g := g22) (.tail _ (.head _))
            have z0 := fun o => (HK.out.other o).cells (g := g22) (.tail _ (.head _))
            have z00 := fun o => (z0 o).1
            have z01 := fun o => (z0 o).2
            clear z0
            obtain ⟨y10, y11⟩ := HK.out.cells (g := g24) (.head _)
            have z1 := fun o => (HK.out.other o).cells (g := g24) (.head _)
            have z10 := fun o => (z1 o).1
            have z11 := fun o => (z1 o).2
            clear z1
            have hnb := Blk.new w28 #[iz y, iz z] 35
            have nb0 := hnb.cell 0
            have nb1 := hnb.cell 1
            simp only [List.getElem?_cons_zero, List.getElem?_cons_succ] at nb0 nb1
            clear hnb
            go_wp2_with fail
            go_roundw
            case rel => exact ⟨k + 1, by omega, by go_num, (HK.out.sub (fun t ht => .tail _ (.tail _ ht))).other _⟩
            case measure => simp [intOf]; omega
          · have HQ := Lib.hid hq
            clear hq
            refine (Year_as (len_ch HT.out HK.out.ch) (by omega) HQ.out).mono ?_
            rintro e w28 ⟨rfl, hC⟩
            have HK2 := Lib.hid (HK.out.on hC)
            clear yk y00 y01 y10 y11
            clear hC HK
            have HK := HK2
            clear HK2
            have yk := HK.out.pick (g := g2) (.tail _ (.tail _ (.head _))) HV.out
            have zk := fun o => (HK.out.other o).pick (g := g2) (.tail _ (.tail _ (.head _))) HV.out
            obtain ⟨y00, y01⟩ := HK.out.cells (g := g22) (.tail _ (.head _))
            have z0 := fun o => (HK.out.other o).cells (g := g22) (.tail _ (.head _))
            have z00 := fun o => (z0 o).1
            have z01 := fun o => (z0 o).2
            clear z0
            obtain ⟨y10, y11⟩ := HK.out.cells (g := g24) (.head _)
            have z1 := fun o => (HK.out.other o).cells (g := g24) (.head _)
            have z10 := fun o => (z1 o).1
            have z11 := fun o => (z1 o).2
            clear z1
            have hnb := Blk.new w28 #[iz 0, iz 0] 35
            have nb0 := hnb.cell 0
            have nb1 := hnb.cell 1
            simp only [List.getElem?_cons_zero, List.getElem?_cons_succ] at nb0 nb1
            clear hnb
            go_wp2_with fail
            go_roundw
            case rel => exact ⟨k + 1, by omega, by go_num, (HK.out.sub (fun t ht => .tail _ (.tail _ ht))).other _⟩
            case measure => simp [intOf]; omega
      · have E1 := Lib.hid (yV_no hin)
        have hno : v < 0 ∨ 20 ≤ v := by omega
        clear hin
        rcases hno with hn | hn
        · have yk := HK.out.pick (g := g2) (.head _) HV.out
          go_wp2_with fail
          refine (Year_as (len_ch HT.out HK.out.ch) hvb E1.out).mono ?_
          rintro e w21 ⟨rfl, hC⟩
          have HK2 := Lib.hid (HK.out.on hC)
          clear yk
          clear hC HK
          have HK := HK2
          clear HK2
          have yk := HK.out.pick (g := g2) (.head _) HV.out
          have zk := fun o => (HK.out.other o).pick (g := g2) (.head _) HV.out
          have hnb := Blk.new w21 #[iz 0, iz 0] 35
          have nb0 := hnb.cell 0
          have nb1 := hnb.cell 1
          simp only [List.getElem?_cons_zero, List.getElem?_cons_succ] at nb0 nb1
          clear hnb
          go_wp2_with fail
          clear yk zk nb0 nb1
          have HK2 := Lib.hid (show Kr w (w21.alloc (.cells #[iz 0, iz 0] 35 (0, 0))) ((some ⟨w21.heap.size, 0, none⟩, 1, [(0, 0)]) :: _) from HK.out.new [(0, 0)] 35)
          obtain ⟨w22, hW⟩ : ∃ W, w21.alloc (.cells #[iz 0, iz 0] 35 (0, 0)) = W := ⟨_, rfl⟩
          rw [hW] at HK2 ⊢
          obtain ⟨g22, hA⟩ : ∃ A, w21.heap.size = A := ⟨_, rfl⟩
          rw [hA] at HK2 ⊢
          clear hA hW HK
          have HK := HK2
          clear HK2
          have yk := HK.out.pick (g := g2) (.tail _ (.head _)) HV.out
          obtain ⟨y00, y01⟩ := HK.out.cells (g := g22) (.head _)
          refine (refYear_as hvb E1.out).mono ?_
          rintro e w23 ⟨rfl, hC⟩
          have HK2 := Lib.hid (HK.out.on hC)
          clear yk y00 y01
          clear hC HK
          have HK := HK2
          clear HK2
          have yk := HK.out.pick (g := g2) (.tail _ (.head _)) HV.out
          have zk := fun o => (HK.out.other o).pick (g := g2) (.tail _ (.head _)) HV.out
          obtain ⟨y00, y01⟩ := HK.out.cells (g := g22) (.head _)
          have z0 := fun o => (HK.out.other o).cells (g := g22) (.head _)
          have z00 := fun o => (z0 o).1
          have z01 := fun o => (z0 o).2
          clear z0
          have hnb := Blk.new w23 #[iz 0, iz 0] 35
          have nb0 := hnb.cell 0
          have nb1 := hnb.cell 1
          simp only [List.getElem?_cons_zero, List.getElem?_cons_succ] at nb0 nb1
          clear hnb
          go_wp2_with fail
          go_roundw
          case rel => exact ⟨k + 1, by omega, by go_num, (HK.out.sub (fun t ht => .tail _ ht)).other _⟩
          case measure => simp [intOf]; omega
        · have yk := HK.out.pick (g := g2) (.head _) HV.out
          go_wp2_with fail
          refine (Year_as (len_ch HT.out HK.out.ch) hvb E1.out).mono ?_
          rintro e w21 ⟨rfl, hC⟩
          have HK2 := Lib.hid (HK.out.on hC)
          clear yk
          clear hC HK
          have HK := HK2
          clear HK2
          have yk := HK.out.pick (g := g2) (.head _) HV.out
          have zk := fun o => (HK.out.other o).pick (g := g2) (.head _) HV.out
          have hnb := Blk.new w21 #[iz 0, iz 0] 35
          have nb0 := hnb.cell 0
          have nb1 := hnb.cell 1
          simp only [List.getElem?_cons_zero, List.getElem?_cons_succ] at nb0 nb1
          clear hnb
          go_wp2_with fail
          clear yk zk nb0 nb1
          have HK2 := Lib.hid (show Kr w (w21.alloc (.cells #[iz 0, iz 0] 35 (0, 0))) ((some ⟨w21.heap.size, 0, none⟩, 1, [(0, 0)]) :: _) from HK.out.new [(0, 0)] 35)
          obtain ⟨w22, hW⟩ : ∃ W, w21.alloc (.cells #[iz 0, iz 0] 35 (0, 0)) = W := ⟨_, rfl⟩
          rw [hW] at HK2 ⊢
          obtain ⟨g22, hA⟩ : ∃ A, w21.heap.size = A := ⟨_, rfl⟩
          rw [hA] at HK2 ⊢
          clear hA hW HK
          have HK := HK2
          clear HK2
          have yk := HK.out.pick (g := g2) (.tail _ (.head _)) HV.out
          obtain ⟨y00, y01⟩ := HK.out.cells (g := g22) (.head _)
          refine (refYear_as hvb E1.out).mono ?_
          rintro e w23 ⟨rfl, hC⟩
          have HK2 := Lib.hid (HK.out.on hC)
          clear yk y00 y01
          clear hC HK
          have HK := HK2
          clear HK2
          have yk := HK.out.pick (g := g2) (.tail _ (.head _)) HV.out
          have zk := fun o => (HK.out.other o).pick (g := g2) (.tail _ (.head _)) HV.out
          obtain ⟨y00, y01⟩ := HK.out.cells (g := g22) (.head _)
          have z0 := fun o => (HK.out.other o).cells (g := g22) (.head _)
          have z00 := fun o => (z0 o).1
          have z01 := fun o => (z0 o).2
          clear z0
          have hnb := Blk.new w23 #[iz 0, iz 0] 35
          have nb0 := hnb.cell 0
          have nb1 := hnb.cell 1
          simp only [List.getElem?_cons_zero, List.getElem?_cons_succ] at nb0 nb1
          clear hnb
          go_wp2_with fail
          go_roundw
          case rel => exact ⟨k + 1, by omega, by go_num, (HK.out.sub (fun t ht => .tail _ ht)).other _⟩
          case measure => simp [intOf]; omega
    · obtain rfl : k = 2 := by omega
      clear hk hlt
      go_wp2_with fail
      refine (HM8.out _).mono ?_
      rintro e wq2 ⟨rfl, rfl⟩
      go_wp2_with fail
      have HK2 := Lib.hid (show Kr w (wr.alloc (.cells #[iz d0, iz m] 38 (0, 0))) ((some ⟨wr.heap.size, 0, none⟩, 1, [(d0, m)]) :: _) from HK.out.new [(d0, m)] 38)
      obtain ⟨w51, hW⟩ : ∃ W, wr.alloc (.cells #[iz d0, iz m] 38 (0, 0)) = W := ⟨_, rfl⟩
      rw [hW] at HK2 ⊢
      obtain ⟨g51, hA⟩ : ∃ A, wr.heap.size = A := ⟨_, rfl⟩
      rw [hA] at HK2 ⊢
      clear hA hW HK
      have HK := HK2
      clear HK2
      go_loopw [24] (fun i wr => ∃ k : Nat, k ≤ 2 ∧ i = .int .i64 k ∧ Kr w wr [(some ⟨g51, 0, none⟩, 1, [(d0, m)]), (some ⟨g2, 0, none⟩, 1, [(p0, q)])]) (fun i _ => 2 - (intOf i).toNat)
      case atStart => exact ⟨0, Nat.zero_le _, rfl, HK.out⟩
      case round =>
        clear HK
        obtain ⟨k, hk, rfl, hK⟩ := hrel
        have HK := Lib.hid hK
        clear hK
        by_cases hlt : k < 2
        · obtain ⟨dd, hv⟩ : ∃ v : Int, (k = 0 ∧ v = d0) ∨ (k = 1 ∧ v = m) := by
            rcases (show k = 0 ∨ k = 1 by omega) with h | h
            · exact ⟨d0, .inl ⟨h, rfl⟩⟩
            · exact ⟨m, .inr ⟨h, rfl⟩⟩
          have hvb : -9223372036854775808 ≤ dd ∧ dd ≤ 9223372036854775807 := by omega
          have HV := Lib.hid hv
          clear hv
          rcases period_parts dd with ⟨v, x, y, e1, e2, v1, v2, b1, b2, b3, hh⟩ | e1
          · have E1 := Lib.hid e1
            have E2 := Lib.hid e2
            have HH := Lib.hid hh
            clear e1 e2 hh
            have yk := HK.out.pick (g := g51) (.head _) HV.out
            go_wp2_with fail
            refine (Period_as (len_ch HT.out HK.out.ch) E1.out).mono ?_
            rintro e w71 ⟨rfl, hC⟩
            have HK2 := Lib.hid (HK.out.on hC)
            clear yk
            clear hC HK
            have HK := HK2
            clear HK2
            have yk := HK.out.pick (g := g51) (.head _) HV.out
            go_wp2_with fail
            refine (refPeriod_as E1.out).mono ?_
            rintro e w72 ⟨rfl, hC⟩
            have HK2 := Lib.hid (HK.out.on hC)
            clear yk
            clear hC HK
            have HK := HK2
            clear HK2
            have yk := HK.out.pick (g := g51) (.head _) HV.out
            go_wp2_with fail
            refine (Year_as (len_ch HT.out HK.out.ch) (by omega) E2.out).mono ?_
            rintro e w73 ⟨rfl, hC⟩
            have HK2 := Lib.hid (HK.out.on hC)
            clear yk
            clear hC HK
            have HK := HK2
            clear HK2
            have yk := HK.out.pick (g := g51) (.head _) HV.out
            have zk := fun o => (HK.out.other o).pick (g := g51) (.head _) HV.out
            have hnb := Blk.new w73 #[iz x, iz y] 35
            have nb0 := hnb.cell 0
            have nb1 := hnb.cell 1
            simp only [List.getElem?_cons_zero, List.getElem?_cons_succ] at nb0 nb1
            clear hnb
            go_wp2_with fail
            clear yk zk nb0 nb1
            have HK2 := Lib.hid (show Kr w (w73.alloc (.cells #[iz x, iz y] 35 (0, 0))) ((some ⟨w73.heap.size, 0, none⟩, 1, [(x, y)]) :: _) from HK.out.new [(x, y)] 35)
            obtain ⟨w74, hW⟩ : ∃ W, w73.alloc (.cells #[iz x, iz y] 35 (0, 0)) = W := ⟨_, rfl⟩
            rw [hW] at HK2 ⊢
            obtain ⟨g74, hA⟩ : ∃ A, w73.heap.size = A := ⟨_, rfl⟩
            rw [hA] at HK2 ⊢
            clear hA hW HK
            have HK := HK2
            clear HK2
            have yk := HK.out.pick (g := g51) (.tail _ (.head _)) HV.out
            obtain ⟨y00, y01⟩ := HK.out.cells (g := g74) (.head _)
            clear yk y00 y01
            have HF := Lib.hid (show ∀ W, Kr w W [(some ⟨g74, 0, none⟩, 1, [(x, y)]), (some ⟨g51, 0, none⟩, 1, [(d0, m)]), (some ⟨g2, 0, none⟩, 1, [(p0, q)])] → W.cell? ⟨g51, k, none⟩ = some (iz dd) ∧ W.cell? ⟨g74, 0, none⟩ = some (iz x) ∧ W.cell? ⟨g74, 1, none⟩ = some (iz y) from fun W h => ⟨h.pick (.tail _ (.head _)) HV.out, h.cells (.head _)⟩)
            have HN1 := Lib.hid (show 1 ≤ 1000000000 by omega)
            have HK0 := HK
            have HKD := Lib.hid HK.out.drew
            clear HK
            have HK := HKD
            clear HKD
            have hki : 0 ≤ (k : Int) ∧ (k : Int) < 2 := by omega
            go_region_held3 (fun w' => w'.cell? ⟨g51, k, none⟩ = some (iz dd) ∧ w'.cell? ⟨g74, 0, none⟩ = some (iz x) ∧ w'.cell? ⟨g74, 1, none⟩ = some (iz y))
              (first
                | (with_reducible exact HF.out _ HK.out)
                | (with_reducible exact HF.out _ (HK.out.other _))
                | (with_reducible exact HF.out _ (HK0.out.other _).drew)
                | go_keep)
              (first
                | (go_at_call 10; (with_reducible refine (Has_as (n := 1) (l := [(x, y)]) (Rd.blk0 spc_len (Blk.new _ #[iz x, iz y] 35).drew rfl) HN1.out HH.out).mono ?_); rintro e wq ⟨rfl, hCq⟩; have HK2 := Lib.hid ((HK0.out.other _).drew.on hCq); clear hCq HK; have HK := HK2; clear HK2)
                | (go_at_call 10; (with_reducible refine (Has_as (n := 1) (l := [(x, y)]) (Rd.blk0 spc_len (Blk.new _ #[iz x, iz y] 35) rfl) HN1.out HH.out).mono ?_); rintro e wq ⟨rfl, hCq⟩; have HK2 := Lib.hid ((HK.out.other _).on hCq); clear hCq HK; have HK := HK2; clear HK2))
            go_wp2_with fail
            go_roundw
            case rel => exact ⟨k + 1, by omega, by go_num, HK.out.sub (fun t ht => .tail _ ht)⟩
            case measure => simp [intOf]; omega
          · have E1 := Lib.hid e1
            clear e1
            have yk := HK.out.pick (g := g51) (.head _) HV.out
            go_wp2_with fail
            refine (Period_as (len_ch HT.out HK.out.ch) E1.out).mono ?_
            rintro e w71 ⟨rfl, hC⟩
            have HK2 := Lib.hid (HK.out.on hC)
            clear yk
            clear hC HK
            have HK := HK2
            clear HK2
            have yk := HK.out.pick (g := g51) (.head _) HV.out
            go_wp2_with fail
            refine (refPeriod_as E1.out).mono ?_
            rintro e w72 ⟨rfl, hC⟩
            have HK2 := Lib.hid (HK.out.on hC)
            clear yk
            clear hC HK
            have HK := HK2
            clear HK2
            have yk := HK.out.pick (g := g51) (.head _) HV.out
            go_wp2_with fail
            refine (Year_as (len_ch HT.out HK.out.ch) (by omega) san_y0).mono ?_
            rintro e w73 ⟨rfl, hC⟩
            have HK2 := Lib.hid (HK.out.on hC)
            clear yk
            clear hC HK
            have HK := HK2
            clear HK2
            have yk := HK.out.pick (g := g51) (.head _) HV.out
            have zk := fun o => (HK.out.other o).pick (g := g51) (.head _) HV.out
            have hnb := Blk.new w73 #[iz 730119, iz 730485] 35
            have nb0 := hnb.cell 0
            have nb1 := hnb.cell 1
            simp only [List.getElem?_cons_zero, List.getElem?_cons_succ] at nb0 nb1
            clear hnb
            go_wp2_with fail
            go_quiet (fail)
            go_wp2_with fail
            go_roundw
            case rel => exact ⟨k + 1, by omega, by go_num, (HK.out.other _).drewN nq⟩
            case measure => simp [intOf]; omega
        · obtain rfl : k = 2 := by omega
          clear hk hlt
          go_wp2_with fail
          go_ret
          exact ⟨rfl, HK.out.ch⟩
end Go.Proofs.YtnbcfolmadkliaaDoor
