/- DateReads: the walk. -/
import Derived.Test.YtehgkpbjbkeoeaaDoorFt
namespace Go.Proofs.YtehgkpbjbkeoeaaDoor
open Go.RowKit Go.Shelf
theorem rows6 {k : Nat} {a b c d e f x : List UInt8} (h : k < 6) (hx : [a, b, c, d, e, f][k] = x) : x = a ∨ x = b ∨ x = c ∨ x = d ∨ x = e ∨ x = f := by
  rcases (show k = 0 ∨ k = 1 ∨ k = 2 ∨ k = 3 ∨ k = 4 ∨ k = 5 by omega) with rfl | rfl | rfl | rfl | rfl | rfl
  · exact .inl hx.symm
  · exact .inr (.inl hx.symm)
  · exact .inr (.inr (.inl hx.symm))
  · exact .inr (.inr (.inr (.inl hx.symm)))
  · exact .inr (.inr (.inr (.inr (.inl hx.symm))))
  · exact .inr (.inr (.inr (.inr (.inr hx.symm))))
theorem rd_ne {l s : List UInt8} (h : Lay.rd l s = true) : s ≠ [] := by
  rintro rfl
  unfold Lay.rd at h
  rw [Bool.and_eq_true, Bool.and_eq_true] at h
  have hy := (Lay.fold_nil (Lay.parts l) ⟨0, 0, 0, []⟩ rfl).2.1 rfl
  have hv := h.2.1
  unfold Lay.fnd at hv
  rw [hy, (Lay.vld_zero 0 _ _).1] at hv
  cases hv
set_option maxRecDepth 100000 in
set_option maxHeartbeats 8000000 in
theorem reads_walk {n k : Int} {r : List UInt8} {q0 q1 q2 q3 q4 q5 q6 q7 : Int} {b : UInt8} {w : World} (hw : Tw w) (hk : bits .and .i64 n 2097151 = k) (kk0 : 0 ≤ k) (kk1 : k ≤ 2097151) (hr : r.length ≤ 4611686018427387904)
    (hb : IntKind.u8.wrap q7 = (b.toNat : Int))
    (k0 : -9223372036854775808 ≤ q0) (k1 : q0 ≤ 9223372036854775807) (k2 : -9223372036854775808 ≤ q2) (k3 : q2 ≤ 9223372036854775807) (k4 : -9223372036854775808 ≤ q3) (k5 : q3 ≤ 9223372036854775807) (k6 : -9223372036854775808 ≤ q5) (k7 : q5 ≤ 9223372036854775807) :
    Calls Tryd.prog 5 #[iz n, S r, .agg #[iz q0, iz q1, iz q2, iz q3, iz q4, iz q5, iz q6, iz q7]] w (Yd w (.bool true)) := by
  have HW := Lib.hid hw
  have HRK := Lib.hid (show Cal.right k = true from Cal.right_iff.2 (by omega))
  have HL0 := Lib.hid (fun w' => Layout_any q0 q1 q2 false w' k0 k1 k2 k3)
  have HL1 := Lib.hid (fun w' => Layout_any q3 q4 q5 true w' k4 k5 k6 k7)
  have H0 := Lib.hid sanity3
  clear hw k0 k1 k2 k3 k4 k5 k6 k7 kk0 kk1
  have HK := Lib.hid ((Kq.nil w).new #[iz q0, iz q1, iz q2, iz q3, iz q4, iz q5, iz q6, iz q7] 36)
  obtain ⟨B, hB⟩ : ∃ B, w.heap.size = B := ⟨_, rfl⟩
  rw [hB] at HK
  go_enter Tryd.func5, Tryd.ntmps5
  go_wp2_with fail
  clear hB
  with_reducible refine (H0.out _ (HW.out.ch HK.out.ch)).mono ?_
  rintro e w0 ⟨rfl, hC⟩
  have HK2 := Lib.hid (HK.out.on hC)
  clear hC HK
  have HK := HK2
  clear HK2
  go_upto_region 3 with fail
  go_cut [9, 10] from 25 to 40 (fun a b wx => ∃ (l1 l2 : List UInt8), a = S l1 ∧ b = S l2 ∧ l1.length ≤ 200 ∧ l2.length ≤ 200 ∧ Lay.right l1 = true ∧ Kq w wx [(B, 36, [iz q0, iz q1, iz q2, iz q3, iz q4, iz q5, iz q6, iz q7])])
  case first =>
    have HF := Lib.hid (show ∀ W, Kq w W [(B, 36, [iz q0, iz q1, iz q2, iz q3, iz q4, iz q5, iz q6, iz q7])] → W.cell? ⟨B, 0, none⟩ = some (iz q0) ∧ W.cell? ⟨B, 1, none⟩ = some (iz q1) ∧ W.cell? ⟨B, 2, none⟩ = some (iz q2) ∧ W.cell? ⟨B, 3, none⟩ = some (iz q3) ∧ W.cell? ⟨B, 4, none⟩ = some (iz q4) ∧ W.cell? ⟨B, 5, none⟩ = some (iz q5) from fun W h => ⟨(h.row _ (.head _)).cell 0, (h.row _ (.head _)).cell 1, (h.row _ (.head _)).cell 2, (h.row _ (.head _)).cell 3, (h.row _ (.head _)).cell 4, (h.row _ (.head _)).cell 5⟩)
    have HKD := Lib.hid HK.out.drew
    clear HK
    have HK := HKD
    clear HKD
    go_region_held3 (fun w' => w'.cell? ⟨B, 0, none⟩ = some (iz q0) ∧ w'.cell? ⟨B, 1, none⟩ = some (iz q1) ∧ w'.cell? ⟨B, 2, none⟩ = some (iz q2) ∧ w'.cell? ⟨B, 3, none⟩ = some (iz q3) ∧ w'.cell? ⟨B, 4, none⟩ = some (iz q4) ∧ w'.cell? ⟨B, 5, none⟩ = some (iz q5))
      (first
        | (with_reducible exact HF.out _ HK.out)
        | go_keep)
      (first
        | (go_at_call 12; with_reducible refine (HL0.out _).mono ?_; rintro e wq ⟨⟨l1, rfl, hl1, hlr⟩, hCq⟩; have HK2 := Lib.hid (HK.out.on hCq); clear hCq HK; have HK := HK2; clear HK2)
        | (go_at_call 12; with_reducible refine (HL1.out _).mono ?_; rintro e wq ⟨⟨l2, rfl, hl2, _⟩, hCq⟩; have HK2 := Lib.hid (HK.out.on hCq); clear hCq HK; have HK := HK2; clear HK2))
    all_goals (go_wp2_with fail)
    all_goals go_meet
    all_goals (exact ⟨l1, l2, rfl, rfl, hl1, hl2, by simpa using hlr, HK.out⟩)
  case rest =>
    obtain ⟨l1, l2, rfl, rfl, hl1, hl2, hl, hKK⟩ := hcut
    have HK := Lib.hid hKK
    clear hKK
    obtain ⟨s, hs⟩ : ∃ s, Lay.fmt l1 (Cal.cy k) (Cal.cm k) (Cal.cd k) = s := ⟨_, rfl⟩
    have H1 := Lib.hid (R_Format (L := l1) (n := k) (f := s) (b := true) (by omega) (by rw [HRK.out, hl]; rfl) hs)
    obtain ⟨r1, r2⟩ := Lay.rd_fmt hl HRK.out
    rw [hs] at r1
    have hsl : s.length ≤ 20000000 := by
      have h1 := flat_len (dat_of (Cal.civ_spec HRK.out).1) (Lay.parts l1) (Lay.parts_ok l1)
      have h2 := Lay.parts_len l1
      have h3 : s.length ≤ (Lay.parts l1).length * 100010 := by rw [← hs]; exact h1
      have h4 := right_len hl
      omega
    have hm0 : 0 < s.length := List.length_pos_iff.2 (rd_ne r1)
    clear hs r1 r2 hl
    go_wp2_with fail
    with_reducible refine (H1.out _ (HW.out.ch HK.out.ch)).mono ?_
    rintro e W4 ⟨rfl, hC⟩
    have HK2 := Lib.hid (HK.out.on hC)
    clear hC HK
    have HK := HK2
    clear HK2
    obtain ⟨m, hm⟩ : ∃ m, s.length = m := ⟨_, rfl⟩
    have HM := Lib.hid hm
    obtain ⟨cap, W5, hcv, hby, hch, hsz⟩ := byt_made W4 9 27 5 s Tryd.underlying9 Tryd.underlying27 Tryd.underlying5
    have hBlt : B < W4.heap.size := (HK.out.row _ (.head _)).lt
    have hWG0 : w.heap.size ≤ W4.heap.size := HK.out.ch.size
    have HK2 := Lib.hid (HK.out.on hch)
    clear HK hch
    have HK := HK2
    clear HK2
    obtain ⟨g, hg⟩ : ∃ g, W4.heap.size = g := ⟨_, rfl⟩
    rw [hg] at hcv hby hBlt hWG0
    have HBY := Lib.hid hby
    have HWG := Lib.hid hWG0
    clear hsz hg hby hWG0
    go_upto_region 7 with fail
    clear hcv
    obtain ⟨e, he⟩ : ∃ e : Nat, q6 % (m : Int) = (e : Int) := ⟨(q6 % (m : Int)).toNat, by have := Int.emod_nonneg q6 (show (m : Int) ≠ 0 by omega); omega⟩
    have hem : e < m := by have := Int.emod_lt_of_pos q6 (show (0 : Int) < (m : Int) by omega); omega
    have hMod := fun w' => Mod_any q6 (m : Int) (by omega) (by omega) w'
    rw [he] at hMod
    have HMO := Lib.hid hMod
    have i4 : (e : Int) < (m : Int) := by omega
    have HEL := Lib.hid (show e < s.length by omega)
    have p1 := HBY.out.drew.cell e HEL.out
    have p2 := HBY.out.drew.frozen e HEL.out
    have hBg : B ≠ g := by omega
    have HBG := Lib.hid hBg
    have HS := Lib.hid (show W5.drew.cell? ⟨B, 6, none⟩ = some (iz q6) ∧ W5.drew.cell? ⟨B, 7, none⟩ = some (iz q7) from ⟨(HK.out.row _ (.head _)).drew.cell 6, (HK.out.row _ (.head _)).drew.cell 7⟩)
    have HS2 := Lib.hid (show ∀ v, (W5.setCell ⟨g, e, none⟩ v).drew.cell? ⟨B, 6, none⟩ = some (iz q6) ∧ (W5.setCell ⟨g, e, none⟩ v).drew.cell? ⟨B, 7, none⟩ = some (iz q7) from fun v => ⟨((HK.out.row _ (.head _)).set_other hBg e v).drew.cell 6, ((HK.out.row _ (.head _)).set_other hBg e v).drew.cell 7⟩)
    clear he hem hBg hMod
    go_region_held3 (fun w' => w'.cell? ⟨B, 6, none⟩ = some (iz q6) ∧ w'.cell? ⟨B, 7, none⟩ = some (iz q7))
      (first
        | (with_reducible exact HS.out)
        | (with_reducible exact HS2.out _)
        | go_keep)
      (first
        | (go_at_call 15; with_reducible refine (HMO.out _).mono ?_; rintro e' wq ⟨rfl, rfl⟩))
    obtain ⟨W6, hW6⟩ : ∃ W, (W5.setCell ⟨g, e, none⟩ (.int .u8 (b.toNat : Int))).drew = W := ⟨_, rfl⟩
    rw [hW6]
    have hby2 := (HBY.out.set e HEL.out b).drew
    rw [hW6] at hby2
    have HK2 := Lib.hid (show Kq w W6 [(B, 36, [iz q0, iz q1, iz q2, iz q3, iz q4, iz q5, iz q6, iz q7])] by
      rw [← hW6]
      exact ⟨(HK.out.ch.setCell (p := ⟨g, e, none⟩) (.inl HWG.out) _).drew, fun p hp => by
        obtain rfl := List.mem_singleton.1 hp
        exact ((HK.out.row _ (.head _)).set_other HBG.out e _).drew⟩)
    clear hW6 HS HS2 HBY HK p1 p2 i4
    have HK := HK2
    clear HK2
    obtain ⟨t0, ht0⟩ : ∃ t, s.set e b = t := ⟨_, rfl⟩
    have l0 : t0.length = m := by rw [← ht0, List.length_set, hm]
    have HL00 := Lib.hid l0
    rw [ht0] at hby2
    have HBY := Lib.hid hby2
    obtain ⟨t2, ht2⟩ : ∃ t, s ++ [48] = t := ⟨_, rfl⟩
    obtain ⟨t3, ht3⟩ : ∃ t, [48] ++ s = t := ⟨_, rfl⟩
    have lt2 : t2.length ≤ 30000000 := by rw [← ht2, List.length_append]; simp; omega
    have lt3 : t3.length ≤ 30000000 := by rw [← ht3, List.length_append]; simp; omega
    have x2 : (ByteArray.mk s.toArray ++ ByteArray.mk #[48]) = ⟨t2.toArray⟩ := by rw [← ht2]; exact S_app s [48]
    have x3 : (ByteArray.mk #[48] ++ ByteArray.mk s.toArray) = ⟨t3.toArray⟩ := by rw [← ht3]; exact S_app [48] s
    have n1 : ¬ 9223372036854775807 < m + 1 := by omega
    have n2 : ¬ 9223372036854775807 < 1 + m := by omega
    have HLS := Lib.hid (show ∀ x, x = l1 ∨ x = l2 ∨ x = r ∨ x = [] → x.length ≤ 9223372036854775807 from fun x hx => by rcases hx with rfl | rfl | rfl | rfl <;> first | omega | decide)
    have HTS := Lib.hid (show ∀ x, x = s ∨ x = t0 ∨ x = r ∨ x = t2 ∨ x = t3 ∨ x = [] → x.length ≤ 4611686018427387904 from fun x hx => by rcases hx with rfl | rfl | rfl | rfl | rfl | rfl <;> first | omega | decide)
    clear ht0 l0 hby2 ht2 ht3 hl1 hl2 hr lt2 lt3
    go_upto_region 8 with fail
    obtain ⟨X, hX⟩ : ∃ X, W6.heap.size = X := ⟨_, rfl⟩
    have HK2 := Lib.hid (Kq.one (HK.out.new #[S l1, S l2, S r, S []] 9))
    have HBY2 := Lib.hid (HBY.out.on ((Ch.refl _ _ _).alloc (Nat.le_refl _) (.cells #[S l1, S l2, S r, S []] 9 (0, 0))))
    rw [hX] at HK2
    clear HK HBY
    have HK := HK2
    have HBY := HBY2
    clear HK2 HBY2
    go_wp2_with fail
    clear hX
    go_loopw [67] (fun a wr => ∃ i : Nat, i ≤ 4 ∧ a = .int .i64 (i : Int) ∧ Kq w wr [(X, 9, [S l1, S l2, S r, S []])] ∧ Byt wr g t0) (fun a _ => 4 - (intOf a).toNat)
    case atStart => exact ⟨0, by omega, rfl, HK.out, HBY.out⟩
    case round =>
      obtain ⟨i, hi, rfl, hKK, hby⟩ := hrel
      have HK := Lib.hid hKK
      have HBY := Lib.hid hby
      clear hKK hby
      by_cases hlt : i < 4
      · obtain ⟨x, hx⟩ : ∃ x, [l1, l2, r, []][i] = x := ⟨_, rfl⟩
        have hlt' : (i : Int) < 4 := by omega
        have cx : wr.cell? ⟨X, i, none⟩ = some (S x) := ((HK.out.row _ (.head _)).cell i).trans (row_at (l := [l1, l2, r, []]) hlt hx)
        have hxl := HLS.out x (rows4 hlt hx)
        have hcb := byt_read (cap := cap) HBY.out
        rw [HL00.out] at hcb
        obtain ⟨Y0, hY⟩ : ∃ Y0, wr.heap.size = Y0 := ⟨_, rfl⟩
        have HK2 := Lib.hid (HK.out.new #[S s, S t0, S r, S t2, S t3, S []] 9)
        have HBY2 := Lib.hid (HBY.out.on ((Ch.refl _ _ _).alloc (Nat.le_refl _) (.cells #[S s, S t0, S r, S t2, S t3, S []] 9 (0, 0))))
        rw [hY] at HK2
        have HXL := Lib.hid hxl
        clear hx hxl HK HBY
        have HK := HK2
        have HBY := HBY2
        clear HK2 HBY2
        go_wp2_with fail
        clear hY cx hcb
        go_loopw [81] (fun c wx => ∃ j : Nat, j ≤ 6 ∧ c = .int .i64 (j : Int) ∧ Kq w wx [(Y0, 9, [S s, S t0, S r, S t2, S t3, S []]), (X, 9, [S l1, S l2, S r, S []])] ∧ Byt wx g t0) (fun c _ => 6 - (intOf c).toNat)
        case atStart => exact ⟨0, by omega, rfl, HK.out, HBY.out⟩
        case round =>
          obtain ⟨j, hj, rfl, hKK, hby⟩ := hrel
          have HK := Lib.hid hKK
          have HBY := Lib.hid hby
          clear hKK hby
          by_cases hlj : j < 6
          · obtain ⟨t, ht⟩ : ∃ t, [s, t0, r, t2, t3, []][j] = t := ⟨_, rfl⟩
            have hlj' : (j : Int) < 6 := by omega
            have ct : wr.cell? ⟨Y0, j, none⟩ = some (S t) := ((HK.out.row _ (.head _)).cell j).trans (row_at (l := [s, t0, r, t2, t3, []]) hlj ht)
            have htl := HTS.out t (rows6 hlj ht)
            obtain ⟨v, hv⟩ : ∃ v, Lay.rd x t = v := ⟨_, rfl⟩
            obtain ⟨z, hz⟩ : ∃ z, (if v then Lay.rdN x t else 0) = z := ⟨_, rfl⟩
            have H1 := Lib.hid (C_Read HXL.out (by omega) hv hz)
            have H2 := Lib.hid (R_Read HXL.out htl hv hz)
            have e1 : (z != z) = false := by simp
            have e2 : (v != v) = false := by simp
            clear ht hv hz htl
            go_wp2_with fail
            clear ct
            with_reducible refine (H1.out _ (HW.out.ch HK.out.ch)).mono ?_
            rintro e wz ⟨rfl, hC⟩
            have HK2 := Lib.hid (HK.out.on hC)
            have HBY2 := Lib.hid (HBY.out.on hC)
            clear hC HK HBY
            have HK := HK2
            have HBY := HBY2
            clear HK2 HBY2
            go_wp2_with fail
            with_reducible refine (H2.out _ (HW.out.ch HK.out.ch)).mono ?_
            rintro e wz ⟨rfl, hC⟩
            have HK2 := Lib.hid (HK.out.on hC)
            have HBY2 := Lib.hid (HBY.out.on hC)
            clear hC HK HBY
            have HK := HK2
            have HBY := HBY2
            clear HK2 HBY2
            go_wp2_with fail
            go_roundw
            case rel => exact ⟨j + 1, by omega, by go_num, HK.out, HBY.out⟩
            case measure => simp [intOf]; omega
          · obtain rfl : j = 6 := by omega
            go_wp2_with fail
            go_roundw
            case rel => exact ⟨i + 1, by omega, by go_num, HK.out.tail, HBY.out⟩
            case measure => simp [intOf]; omega
      · obtain rfl : i = 4 := by omega
        go_wp2_with fail
        go_ret
        exact ⟨rfl, HK.out.ch⟩
theorem rwf {a : Int} (h : (Lit.int .i64 a).wf = true) : -9223372036854775808 ≤ a ∧ a ≤ 9223372036854775807 := by
  have h : IntKind.i64.min ≤ a ∧ a ≤ IntKind.i64.max := by simpa [Lit.wf] using h
  exact h
theorem u8_wrap (a : Int) : ∃ b : UInt8, IntKind.u8.wrap a = (b.toNat : Int) := by
  apply u8_byte
  have h : IntKind.u8.wrap a = a % 256 := rfl
  omega
theorem reads_core (n : Int) (r : List UInt8) (q0 q1 q2 q3 q4 q5 q6 q7 : Int) (w : World) (_ : -9223372036854775808 ≤ n ∧ n ≤ 9223372036854775807) (hr : r.length ≤ reachBytes)
    (hq : (Lit.int .i64 q0).wf = true ∧ (Lit.int .i64 q1).wf = true ∧ (Lit.int .i64 q2).wf = true ∧ (Lit.int .i64 q3).wf = true ∧ (Lit.int .i64 q4).wf = true ∧ (Lit.int .i64 q5).wf = true ∧ (Lit.int .i64 q6).wf = true ∧ (Lit.int .i64 q7).wf = true) (hw : Tw w) :
    Calls Tryd.prog 5 #[iz n, S r, .agg #[iz q0, iz q1, iz q2, iz q3, iz q4, iz q5, iz q6, iz q7]] w (Yd w (.bool true)) := by
  obtain ⟨h0, _, h2, h3, _, h5, _, _⟩ := hq
  obtain ⟨b, hb⟩ := u8_wrap q7
  have hbd := band_bd3 n 2097151 (by omega)
  exact reads_walk hw rfl hbd.1 hbd.2 (by have : reachBytes < 140737488355328 := by decide
                                          omega) hb (rwf h0).1 (rwf h0).2 (rwf h2).1 (rwf h2).2 (rwf h3).1 (rwf h3).2 (rwf h5).1 (rwf h5).2
end Go.Proofs.YtehgkpbjbkeoeaaDoor
