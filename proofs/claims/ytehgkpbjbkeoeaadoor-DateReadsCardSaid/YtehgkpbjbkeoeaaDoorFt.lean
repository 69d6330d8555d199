/- DateTexts: the walk. -/
import Derived.Test.YtehgkpbjbkeoeaaDoorHb
import Derived.Test.YtehgkpbjbkeoeaaDoorFf
namespace Go.Proofs.YtehgkpbjbkeoeaaDoor
open Go.RowKit Go.Shelf
theorem rd_nil : Lay.rd Lay.iso [] = false := by decide +kernel
set_option maxRecDepth 100000 in
set_option maxHeartbeats 8000000 in
theorem texts_walk {n k : Int} {r : List UInt8} {c0 : Int} {b : UInt8} {w : World} (hw : Tw w) (hk : bits .and .i64 n 4194303 = k) (hr : r.length ≤ 9223372036854775807) (c0a : 0 ≤ c0) (c0b : c0 ≤ 255) :
    Calls Tryd.prog 3 #[iz n, S r, .agg #[.int .u8 c0, .int .u8 (b.toNat : Int)]] w (Yd w (.bool true)) := by
  have HW := Lib.hid hw
  have H0 := Lib.hid sanity3
  clear hw
  have HK := Lib.hid ((Kq.nil w).new #[.int .u8 c0, .int .u8 (b.toNat : Int)] 22)
  obtain ⟨B, hB⟩ : ∃ B, w.heap.size = B := ⟨_, rfl⟩
  rw [hB] at HK
  obtain ⟨f2, hf2⟩ : ∃ f, (if Cal.right n then Lay.fmt Lay.iso (Cal.cy n) (Cal.cm n) (Cal.cd n) else []) = f := ⟨_, rfl⟩
  have H3 := Lib.hid (C_Text hf2)
  have H4 := Lib.hid (R_Text hf2)
  have e1 : (f2 != f2) = false := by simp
  clear hf2
  have hb255 : (b.toNat : Int) ≤ 255 := by have := b.toNat_lt; omega
  cases hrk : Cal.right k
  · have H1 := Lib.hid (C_Text (n := k) (f := []) (by rw [hrk]; rfl))
    have H2 := Lib.hid (R_Text (n := k) (f := []) (by rw [hrk]; rfl))
    have H5 := Lib.hid (C_Parse3 (s := []) (b := false) (n := 0) (by decide) rd_nil rfl)
    clear hrk
    go_enter Tryd.func3, Tryd.ntmps3
    go_wp2_with fail
    clear hB
    with_reducible refine (H0.out _ (HW.out.ch HK.out.ch)).mono ?_
    rintro e wz ⟨rfl, hC⟩
    have HK2 := Lib.hid (HK.out.on hC)
    clear hC HK
    have HK := HK2
    clear HK2
    go_wp2_with fail
    with_reducible refine (H1.out _ (HW.out.ch HK.out.ch)).mono ?_
    rintro e wz ⟨rfl, hC⟩
    have HK2 := Lib.hid (HK.out.on hC)
    clear hC HK
    have HK := HK2
    clear HK2
    go_wp2_with fail
    with_reducible refine (H2.out _ (HW.out.ch HK.out.ch)).mono ?_
    rintro e wz ⟨rfl, hC⟩
    have HK2 := Lib.hid (HK.out.on hC)
    clear hC HK
    have HK := HK2
    clear HK2
    go_wp2_with fail
    with_reducible refine (H3.out _ (HW.out.ch HK.out.ch)).mono ?_
    rintro e wz ⟨rfl, hC⟩
    have HK2 := Lib.hid (HK.out.on hC)
    clear hC HK
    have HK := HK2
    clear HK2
    go_wp2_with fail
    with_reducible refine (H4.out _ (HW.out.ch HK.out.ch)).mono ?_
    rintro e wz ⟨rfl, hC⟩
    have HK2 := Lib.hid (HK.out.on hC)
    clear hC HK
    have HK := HK2
    clear HK2
    go_wp2_with fail
    with_reducible refine (H5.out _ (HW.out.ch HK.out.ch)).mono ?_
    rintro e wz ⟨rfl, hC⟩
    have HK2 := Lib.hid (HK.out.on hC)
    clear hC HK
    have HK := HK2
    clear HK2
    obtain ⟨W4, hW4⟩ : ∃ W, wz = W := ⟨_, rfl⟩
    rw [hW4] at HK ⊢
    clear hW4
    obtain ⟨cap, W5, hcv, hby, hch, hsz⟩ := byt_made W4 9 27 5 [] Tryd.underlying9 Tryd.underlying27 Tryd.underlying5
    have HK2 := Lib.hid (HK.out.on hch)
    clear HK hch
    have HK := HK2
    clear HK2
    obtain ⟨g, hg⟩ : ∃ g, W4.heap.size = g := ⟨_, rfl⟩
    rw [hg] at hcv hby
    clear hsz hg
    have hcb := byt_read (cap := cap) hby
    clear hby
    have hcv' : (convert 9 27 (.string ⟨#[]⟩)).run Tryd.prog W4 = .ok (.slice (some ⟨g, 0, none⟩) 0 cap) W5 := hcv
    have hcb' : (convert 27 9 (.slice (some ⟨g, 0, none⟩) 0 cap)).run Tryd.prog W5 = .ok (S []) W5 := hcb
    clear hcv hcb
    have hcb := hcb'
    clear hcb'
    go_upto_region 12 with fail
    clear hcv'
    obtain ⟨X, hX⟩ : ∃ X, W5.heap.size = X := ⟨_, rfl⟩
    have HK2 := Lib.hid (Kq.one (HK.out.new #[S [], S r, S [48], S [48]] 9))
    rw [hX] at HK2
    have HLS := Lib.hid (show ∀ x, x = [] ∨ x = r ∨ x = [48] ∨ x = [48] → x.length ≤ 9223372036854775807 from fun x hx => by rcases hx with rfl | rfl | rfl | rfl <;> first | omega | decide)
    clear HK
    have HK := HK2
    clear HK2
    go_wp2_with fail
    clear hX hcb
    go_loopw [76] (fun a wr => ∃ i : Nat, i ≤ 4 ∧ a = .int .i64 (i : Int) ∧ Kq w wr [(X, 9, [S [], S r, S [48], S [48]])]) (fun a _ => 4 - (intOf a).toNat)
    case atStart => exact ⟨0, by omega, rfl, HK.out⟩
    case round =>
      obtain ⟨i, hi, rfl, hKK⟩ := hrel
      have HK := Lib.hid hKK
      clear hKK
      by_cases hlt : i < 4
      · obtain ⟨x, hx⟩ : ∃ x, [[], r, [48], [48]][i] = x := ⟨_, rfl⟩
        have hlt' : (i : Int) < 4 := by omega
        have cx : wr.cell? ⟨X, i, none⟩ = some (S x) := ((HK.out.row _ (.head _)).cell i).trans (row_at (l := [[], r, [48], [48]]) hlt hx)
        have hxl := HLS.out x (rows4 hlt hx)
        obtain ⟨v, hv⟩ : ∃ v, Lay.rd Lay.iso x = v := ⟨_, rfl⟩
        obtain ⟨z, hz⟩ : ∃ z, (if v then Lay.rdN Lay.iso x else 0) = z := ⟨_, rfl⟩
        have H1 := Lib.hid (C_Parse3 hxl hv hz)
        have H2 := Lib.hid (R_Parse3 hxl hv hz)
        have e1 : (z != z) = false := by simp
        have e2 : (v != v) = false := by simp
        clear hx hv hz hxl
        go_wp2_with fail
        clear cx
        with_reducible refine (H1.out _ (HW.out.ch HK.out.ch)).mono ?_
        rintro e wz ⟨rfl, hC⟩
        have HK2 := Lib.hid (HK.out.on hC)
        clear hC HK
        have HK := HK2
        clear HK2
        go_wp2_with fail
        with_reducible refine (H2.out _ (HW.out.ch HK.out.ch)).mono ?_
        rintro e wz ⟨rfl, hC⟩
        have HK2 := Lib.hid (HK.out.on hC)
        clear hC HK
        have HK := HK2
        clear HK2
        go_wp2_with fail
        go_roundw
        case rel => exact ⟨i + 1, by omega, by go_num, HK.out⟩
        case measure => simp [intOf]; omega
      · obtain rfl : i = 4 := by omega
        go_wp2_with fail
        go_ret
        exact ⟨rfl, HK.out.ch⟩
  · obtain ⟨f, hf⟩ : ∃ f, Lay.fmt Lay.iso (Cal.cy k) (Cal.cm k) (Cal.cd k) = f := ⟨_, rfl⟩
    have H1 := Lib.hid (C_Text (n := k) (f := f) (by rw [hrk]; exact hf))
    have H2 := Lib.hid (R_Text (n := k) (f := f) (by rw [hrk]; exact hf))
    obtain ⟨r1, r2⟩ := Lay.rd_fmt (l := Lay.iso) iso_right hrk
    rw [hf] at r1 r2
    have hfl : f.length = 10 := by
      obtain ⟨y0, y1, m0, m1, d0, d1⟩ := Lay.vld_bd (Cal.civ_spec hrk).1
      obtain ⟨a1, a2, a3, a4, h1, h2, h3, h4, e1⟩ := Lay.split4 y0 y1
      obtain ⟨a5, a6, h5, h6, e2⟩ := Lay.split2 m0 m1
      obtain ⟨a7, a8, h7, h8, e3⟩ := Lay.split2 d0 d1
      rw [← hf, Lay.fmt_iso, e1, e2, e3, Lay.pad4 a1 h1 a2 h2 a3 h3 a4 h4, Lay.pad2 a5 h5 a6 h6, Lay.pad2 a7 h7 a8 h8]
      rfl
    have H5 := Lib.hid (C_Parse3 (s := f) (b := true) (n := k) (by omega) r1 (by rw [if_pos rfl, r2]))
    have e3 : (f != f) = false := by simp
    have e4 : (k != k) = false := by simp
    have hne : ¬ f = [] := fun q => by rw [q] at hfl; simp at hfl
    have HNE := Lib.hid hne
    have e5 : (f != ([] : List UInt8)) = true := by rw [bne_iff_ne]; exact hne
    have e6 : (f == ([] : List UInt8)) = false := beq_eq_false_iff_ne.2 hne
    have e7 : ¬ f.toArray = #[] := fun q => HNE.out (by have := congrArg Array.toList q; simpa using this)
    have HFL := Lib.hid hfl
    obtain ⟨m, hm⟩ : ∃ m, f.length = m := ⟨_, rfl⟩
    have hm10 : 0 < m := by omega
    have hmu : m ≤ 10 := by omega
    clear hrk hf r1 r2 hne hfl
    go_enter Tryd.func3, Tryd.ntmps3
    go_wp2_with fail
    clear hB
    with_reducible refine (H0.out _ (HW.out.ch HK.out.ch)).mono ?_
    rintro e wz ⟨rfl, hC⟩
    have HK2 := Lib.hid (HK.out.on hC)
    clear hC HK
    have HK := HK2
    clear HK2
    go_wp2_with fail
    with_reducible refine (H1.out _ (HW.out.ch HK.out.ch)).mono ?_
    rintro e wz ⟨rfl, hC⟩
    have HK2 := Lib.hid (HK.out.on hC)
    clear hC HK
    have HK := HK2
    clear HK2
    go_wp2_with fail
    with_reducible refine (H2.out _ (HW.out.ch HK.out.ch)).mono ?_
    rintro e wz ⟨rfl, hC⟩
    have HK2 := Lib.hid (HK.out.on hC)
    clear hC HK
    have HK := HK2
    clear HK2
    go_wp2_with fail
    with_reducible refine (H3.out _ (HW.out.ch HK.out.ch)).mono ?_
    rintro e wz ⟨rfl, hC⟩
    have HK2 := Lib.hid (HK.out.on hC)
    clear hC HK
    have HK := HK2
    clear HK2
    go_wp2_with fail
    with_reducible refine (H4.out _ (HW.out.ch HK.out.ch)).mono ?_
    rintro e wz ⟨rfl, hC⟩
    have HK2 := Lib.hid (HK.out.on hC)
    clear hC HK
    have HK := HK2
    clear HK2
    go_wp2_with fail
    with_reducible refine (H5.out _ (HW.out.ch HK.out.ch)).mono ?_
    rintro e wz ⟨rfl, hC⟩
    have HK2 := Lib.hid (HK.out.on hC)
    clear hC HK
    have HK := HK2
    clear HK2
    obtain ⟨W4, hW4⟩ : ∃ W, wz = W := ⟨_, rfl⟩
    rw [hW4] at HK ⊢
    clear hW4
    obtain ⟨cap, W5, hcv, hby, hch, hsz⟩ := byt_made W4 9 27 5 f Tryd.underlying9 Tryd.underlying27 Tryd.underlying5
    have hBlt : B < W4.heap.size := (HK.out.row _ (.head _)).lt
    have hWG0 : w.heap.size ≤ W4.heap.size := HK.out.ch.size
    have HK2 := Lib.hid (HK.out.on hch)
    clear HK hch
    have HK := HK2
    clear HK2
    obtain ⟨g, hg⟩ : ∃ g, W4.heap.size = g := ⟨_, rfl⟩
    rw [hg] at hcv hby hBlt hWG0
    have HBY := Lib.hid hby
    have HWG := Lib.hid hWG0
    clear hWG0
    clear hsz hg hby
    go_upto_region 11 with fail
    clear hcv
    obtain ⟨e, he⟩ : ∃ e : Nat, c0 % (m : Int) = (e : Int) := ⟨(c0 % (m : Int)).toNat, by have := Int.emod_nonneg c0 (show (m : Int) ≠ 0 by omega); omega⟩
    have hem : e < m := by have := Int.emod_lt_of_pos c0 (show (0 : Int) < (m : Int) by omega); omega
    have i1 : IntKind.i64.wrap c0 = c0 := IntWalk.i64_in _ (by omega)
    have i2 : c0.tmod (m : Int) = (e : Int) := by rw [Int.tmod_eq_emod_of_nonneg c0a]; exact he
    have i3 : IntKind.i64.wrap (e : Int) = (e : Int) := IntWalk.i64_in _ (by omega)
    have i4 : (e : Int) < (m : Int) := by omega
    have i5 : ((m : Int) == 0) = false := beq_eq_false_iff_ne.2 (by omega)
    have i6 : ¬ m = 0 := by omega
    have HEL := Lib.hid (show e < f.length by omega)
    have p1 := HBY.out.drew.cell e HEL.out
    have p2 := HBY.out.drew.frozen e HEL.out
    have hBg : B ≠ g := by omega
    have HBG := Lib.hid hBg
    have HS := Lib.hid (show W5.drew.cell? ⟨B, 0, none⟩ = some (.int .u8 c0) ∧ W5.drew.cell? ⟨B, 1, none⟩ = some (.int .u8 (b.toNat : Int)) from ⟨(HK.out.row _ (.head _)).drew.cell 0, (HK.out.row _ (.head _)).drew.cell 1⟩)
    have HS2 := Lib.hid (show ∀ v, (W5.setCell ⟨g, e, none⟩ v).drew.cell? ⟨B, 0, none⟩ = some (.int .u8 c0) ∧ (W5.setCell ⟨g, e, none⟩ v).drew.cell? ⟨B, 1, none⟩ = some (.int .u8 (b.toNat : Int)) from fun v => ⟨((HK.out.row _ (.head _)).set_other hBg e v).drew.cell 0, ((HK.out.row _ (.head _)).set_other hBg e v).drew.cell 1⟩)
    clear he hem hBg
    go_region_held3 (fun w' => w'.cell? ⟨B, 0, none⟩ = some (.int .u8 c0) ∧ w'.cell? ⟨B, 1, none⟩ = some (.int .u8 (b.toNat : Int)))
      (first
        | (with_reducible exact HS.out)
        | (with_reducible exact HS2.out _)
        | go_keep)
      (fail)
    obtain ⟨W6, hW6⟩ : ∃ W, (W5.setCell ⟨g, e, none⟩ (.int .u8 (b.toNat : Int))).drew = W := ⟨_, rfl⟩
    rw [hW6]
    have hby2 := (HBY.out.set e HEL.out b).drew
    rw [hW6] at hby2
    have HK2 := Lib.hid (show Kq w W6 [(B, 22, [.int .u8 c0, .int .u8 (b.toNat : Int)])] by
      rw [← hW6]
      exact ⟨(HK.out.ch.setCell (p := ⟨g, e, none⟩) (.inl HWG.out) _).drew, fun p hp => by
        obtain rfl := List.mem_singleton.1 hp
        exact ((HK.out.row _ (.head _)).set_other HBG.out e _).drew⟩)
    clear hW6 HS HS2 HBY HK p1 p2 i1 i2 i3 i4 i5 i6
    obtain ⟨W5, hW5⟩ : ∃ W, W6 = W := ⟨_, rfl⟩
    rw [hW5] at hby2 HK2 ⊢
    clear hW5
    have HK := HK2
    clear HK2
    obtain ⟨t0, ht0⟩ : ∃ t, f.set e b = t := ⟨_, rfl⟩
    have l0 : t0.length = m := by rw [← ht0, List.length_set, hm]
    rw [ht0] at hby2
    have hcb := byt_read (cap := cap) hby2
    rw [l0] at hcb
    obtain ⟨t2, ht2⟩ : ∃ t, f ++ [48] = t := ⟨_, rfl⟩
    obtain ⟨t3, ht3⟩ : ∃ t, [48] ++ f = t := ⟨_, rfl⟩
    have lt0 : t0.length ≤ 100 := by omega
    have lt2 : t2.length ≤ 100 := by rw [← ht2, List.length_append]; simp; omega
    have lt3 : t3.length ≤ 100 := by rw [← ht3, List.length_append]; simp; omega
    have x2 : (ByteArray.mk f.toArray ++ ByteArray.mk #[48]) = ⟨t2.toArray⟩ := by rw [← ht2]; exact S_app f [48]
    have x3 : (ByteArray.mk #[48] ++ ByteArray.mk f.toArray) = ⟨t3.toArray⟩ := by rw [← ht3]; exact S_app [48] f
    have n1 : ¬ 9223372036854775807 < m + 1 := by omega
    have n2 : ¬ 9223372036854775807 < 1 + m := by omega
    clear ht0 l0 hby2 ht2 ht3
    go_upto_region 12 with fail
    obtain ⟨X, hX⟩ : ∃ X, W5.heap.size = X := ⟨_, rfl⟩
    have HK2 := Lib.hid (Kq.one (HK.out.new #[S t0, S r, S t2, S t3] 9))
    rw [hX] at HK2
    have HLS := Lib.hid (show ∀ x, x = t0 ∨ x = r ∨ x = t2 ∨ x = t3 → x.length ≤ 9223372036854775807 from fun x hx => by rcases hx with rfl | rfl | rfl | rfl <;> first | omega | decide)
    clear HK
    have HK := HK2
    clear HK2 lt0 lt2 lt3
    go_wp2_with fail
    clear hX hcb
    go_loopw [76] (fun a wr => ∃ i : Nat, i ≤ 4 ∧ a = .int .i64 (i : Int) ∧ Kq w wr [(X, 9, [S t0, S r, S t2, S t3])]) (fun a _ => 4 - (intOf a).toNat)
    case atStart => exact ⟨0, by omega, rfl, HK.out⟩
    case round =>
      obtain ⟨i, hi, rfl, hKK⟩ := hrel
      have HK := Lib.hid hKK
      clear hKK
      by_cases hlt : i < 4
      · obtain ⟨x, hx⟩ : ∃ x, [t0, r, t2, t3][i] = x := ⟨_, rfl⟩
        have hlt' : (i : Int) < 4 := by omega
        have cx : wr.cell? ⟨X, i, none⟩ = some (S x) := ((HK.out.row _ (.head _)).cell i).trans (row_at (l := [t0, r, t2, t3]) hlt hx)
        have hxl := HLS.out x (rows4 hlt hx)
        obtain ⟨v, hv⟩ : ∃ v, Lay.rd Lay.iso x = v := ⟨_, rfl⟩
        obtain ⟨z, hz⟩ : ∃ z, (if v then Lay.rdN Lay.iso x else 0) = z := ⟨_, rfl⟩
        have H1 := Lib.hid (C_Parse3 hxl hv hz)
        have H2 := Lib.hid (R_Parse3 hxl hv hz)
        have e1 : (z != z) = false := by simp
        have e2 : (v != v) = false := by simp
        clear hx hv hz hxl
        go_wp2_with fail
        clear cx
        with_reducible refine (H1.out _ (HW.out.ch HK.out.ch)).mono ?_
        rintro e wz ⟨rfl, hC⟩
        have HK2 := Lib.hid (HK.out.on hC)
        clear hC HK
        have HK := HK2
        clear HK2
        go_wp2_with fail
        with_reducible refine (H2.out _ (HW.out.ch HK.out.ch)).mono ?_
        rintro e wz ⟨rfl, hC⟩
        have HK2 := Lib.hid (HK.out.on hC)
        clear hC HK
        have HK := HK2
        clear HK2
        go_wp2_with fail
        go_roundw
        case rel => exact ⟨i + 1, by omega, by go_num, HK.out⟩
        case measure => simp [intOf]; omega
      · obtain rfl : i = 4 := by omega
        go_wp2_with fail
        go_ret
        exact ⟨rfl, HK.out.ch⟩
theorem u8_byte {a : Int} (h : 0 ≤ a ∧ a ≤ 255) : ∃ b : UInt8, a = (b.toNat : Int) := by
  refine ⟨UInt8.ofNat a.toNat, ?_⟩
  rw [UInt8.toNat_ofNat']
  omega
theorem texts_core (n : Int) (r : List UInt8) (c0 c1 : Int) (w : World) (_ : -9223372036854775808 ≤ n ∧ n ≤ 9223372036854775807) (hr : r.length ≤ reachBytes) (h0 : 0 ≤ c0 ∧ c0 ≤ 255) (h1 : 0 ≤ c1 ∧ c1 ≤ 255) (hw : Tw w) :
    Calls Tryd.prog 3 #[iz n, S r, .agg #[.int .u8 c0, .int .u8 c1]] w (Yd w (.bool true)) := by
  obtain ⟨b, rfl⟩ := u8_byte h1
  exact texts_walk hw rfl (by have : reachBytes < 140737488355328 := by decide
                              omega) h0.1 h0.2
end Go.Proofs.YtehgkpbjbkeoeaaDoor
