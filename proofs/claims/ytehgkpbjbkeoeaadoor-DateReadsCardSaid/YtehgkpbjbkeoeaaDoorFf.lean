/- DateFormats: the walk. -/
import Derived.Test.YtehgkpbjbkeoeaaDoorDy
namespace Go.Proofs.YtehgkpbjbkeoeaaDoor
open Go.RowKit Go.Shelf
theorem Kq.one {w W : World} {p : Nat × TypeId × List Value} {l : List (Nat × TypeId × List Value)} (h : Kq w W (p :: l)) : Kq w W [p] := ⟨h.ch, fun q hq => by obtain rfl := List.mem_singleton.1 hq; exact h.row _ (.head _)⟩
theorem row_at {l : List (List UInt8)} {k : Nat} {x : List UInt8} (h : k < l.length) (hx : l[k] = x) : (l.map S)[k]? = some (S x) := by
  rw [List.getElem?_map, List.getElem?_eq_getElem h, hx]; rfl
theorem ints_at {l : List Int} {k : Nat} {x : Int} (h : k < l.length) (hx : l[k] = x) : (l.map fun n => Value.int .i64 n)[k]? = some (.int .i64 x) := by
  rw [List.getElem?_map, List.getElem?_eq_getElem h, hx]; rfl
theorem rows4 {k : Nat} {a b c d x : List UInt8} (h : k < 4) (hx : [a, b, c, d][k] = x) : x = a ∨ x = b ∨ x = c ∨ x = d := by
  rcases (show k = 0 ∨ k = 1 ∨ k = 2 ∨ k = 3 by omega) with rfl | rfl | rfl | rfl
  · exact .inl hx.symm
  · exact .inr (.inl hx.symm)
  · exact .inr (.inr (.inl hx.symm))
  · exact .inr (.inr (.inr hx.symm))
set_option maxRecDepth 100000 in
set_option maxHeartbeats 8000000 in
theorem formats_walk {n k : Int} {r : List UInt8} {q0 q1 q2 : Int} {w : World} (hw : Tw w) (hk : bits .and .i64 n 2097151 = k) (hr : r.length ≤ 4611686018427387904)
    (k0 : -9223372036854775808 ≤ q0) (k1 : q0 ≤ 9223372036854775807) (k2 : -9223372036854775808 ≤ q2) (k3 : q2 ≤ 9223372036854775807) :
    Calls Tryd.prog 4 #[iz n, S r, .agg #[iz q0, iz q1, iz q2]] w (Yd w (.bool true)) := by
  have HW := Lib.hid hw
  have HL0 := Lib.hid (fun w' => Layout_any q0 q1 q2 false w' k0 k1 k2 k3)
  have HL1 := Lib.hid (fun w' => Layout_any q0 q1 q2 true w' k0 k1 k2 k3)
  have H0 := Lib.hid sanity3
  clear hw k0 k1 k2 k3
  have HK := Lib.hid ((Kq.nil w).new #[iz q0, iz q1, iz q2] 30)
  obtain ⟨B, hB⟩ : ∃ B, w.heap.size = B := ⟨_, rfl⟩
  rw [hB] at HK
  go_enter Tryd.func4, Tryd.ntmps4
  go_wp2_with fail
  clear hB
  with_reducible refine (H0.out _ (HW.out.ch HK.out.ch)).mono ?_
  rintro e w0 ⟨rfl, hC⟩
  have HK2 := Lib.hid (HK.out.on hC)
  clear hC HK
  have HK := HK2
  clear HK2
  have c0 := (HK.out.row _ (.head _)).cell 0
  have c1 := (HK.out.row _ (.head _)).cell 1
  have c2 := (HK.out.row _ (.head _)).cell 2
  simp only [List.getElem?_cons_zero, List.getElem?_cons_succ, Array.toList] at c0 c1 c2
  go_upto_region 3 with fail
  go_cut [28, 29, 30] from 20 to 30 (fun a b c wx => ∃ (g : Nat) (l1 l2 l3 : List UInt8), a = .slice (some ⟨g, 0, none⟩) 4 4 ∧ b = .int .i64 4 ∧ c = .int .i64 0 ∧ l1.length ≤ 200 ∧ l2.length ≤ 200 ∧ l3.length ≤ 9223372036854775807 ∧ Kq w wx [(g, 9, [S r, S l1, S l2, S l3])])
  case first =>
    clear c0 c1 c2
    have HF := Lib.hid (show ∀ W, Kq w W [(B, 30, [iz q0, iz q1, iz q2])] → W.cell? ⟨B, 0, none⟩ = some (iz q0) ∧ W.cell? ⟨B, 1, none⟩ = some (iz q1) ∧ W.cell? ⟨B, 2, none⟩ = some (iz q2) from fun W h => ⟨(h.row _ (.head _)).cell 0, (h.row _ (.head _)).cell 1, (h.row _ (.head _)).cell 2⟩)
    have HKD := Lib.hid HK.out.drew
    clear HK
    have HK := HKD
    clear HKD
    have n0 : ¬ 9223372036854775807 < 4 + r.length := by omega
    obtain ⟨P1, hP1⟩ : ∃ l, [89, 89, 89, 89] ++ r = l := ⟨_, rfl⟩
    have p1 : P1.length ≤ 4611686018427387908 := by rw [← hP1, List.length_append]; simp; omega
    obtain ⟨l3, hP2⟩ : ∃ l, P1 ++ [77, 77, 46, 68, 68] = l := ⟨_, rfl⟩
    have p2 : l3.length ≤ 9223372036854775807 := by rw [← hP2, List.length_append]; simp; omega
    have n1 : ¬ 9223372036854775807 < P1.length + 5 := by omega
    have x1 : (ByteArray.mk #[89, 89, 89, 89] ++ ByteArray.mk r.toArray) = ⟨P1.toArray⟩ := by rw [← hP1]; exact S_app [89, 89, 89, 89] r
    have x2 : (ByteArray.mk P1.toArray ++ ByteArray.mk #[77, 77, 46, 68, 68]) = ⟨l3.toArray⟩ := by rw [← hP2]; exact S_app _ [77, 77, 46, 68, 68]
    clear hP1 hP2
    go_region_held3 (fun w' => w'.cell? ⟨B, 0, none⟩ = some (iz q0) ∧ w'.cell? ⟨B, 1, none⟩ = some (iz q1) ∧ w'.cell? ⟨B, 2, none⟩ = some (iz q2))
      (first
        | (with_reducible exact HF.out _ HK.out)
        | (with_reducible exact HF.out _ (HK.out.other _))
        | go_keep)
      (first
        | (go_at_call 12; with_reducible refine (HL0.out _).mono ?_; rintro e wq ⟨⟨l1, rfl, hl1, _⟩, hCq⟩; have HK2 := Lib.hid (HK.out.on hCq); clear hCq HK; have HK := HK2; clear HK2)
        | (go_at_call 12; with_reducible refine (HL1.out _).mono ?_; rintro e wq ⟨⟨l2, rfl, hl2, _⟩, hCq⟩; have HK2 := Lib.hid (HK.out.on hCq); clear hCq HK; have HK := HK2; clear HK2))
    all_goals (go_wp2_with fail)
    all_goals go_meet
    all_goals (exact ⟨_, l1, l2, l3, rfl, rfl, rfl, hl1, hl2, p2, Kq.one (HK.out.new #[S r, S l1, S l2, S l3] 9)⟩)
  case rest =>
    obtain ⟨g, l1, l2, l3, rfl, rfl, rfl, hl1, hl2, hl3, hKK⟩ := hcut
    have HK := Lib.hid hKK
    have HLS := Lib.hid (show ∀ x, x = r ∨ x = l1 ∨ x = l2 ∨ x = l3 → x.length ≤ 9223372036854775807 from fun x hx => by rcases hx with rfl | rfl | rfl | rfl <;> omega)
    clear hKK hl1 hl2 hl3 c0 c1 c2 hr
    go_wp2_with fail
    go_loopw [30] (fun a wr => ∃ i : Nat, i ≤ 4 ∧ a = .int .i64 (i : Int) ∧ Kq w wr [(g, 9, [S r, S l1, S l2, S l3])]) (fun a _ => 4 - (intOf a).toNat)
    case atStart => exact ⟨0, by omega, rfl, HK.out⟩
    case round =>
      obtain ⟨i, hi, rfl, hKK⟩ := hrel
      have HK := Lib.hid hKK
      clear hKK
      by_cases hlt : i < 4
      · obtain ⟨x, hx⟩ : ∃ x, [r, l1, l2, l3][i] = x := ⟨_, rfl⟩
        have hlt' : (i : Int) < 4 := by omega
        have cx : wr.cell? ⟨g, i, none⟩ = some (S x) := ((HK.out.row _ (.head _)).cell i).trans (row_at (l := [r, l1, l2, l3]) hlt hx)
        have hxl := HLS.out x (rows4 hlt hx)
        clear hx
        go_wp2_with fail
        obtain ⟨X, hX⟩ : ∃ X, wr.heap.size = X := ⟨_, rfl⟩
        have HK2 := Lib.hid (HK.out.new #[iz k, iz n] 3)
        rw [hX] at HK2 ⊢
        clear hX cx
        go_loopw [38] (fun c wx => ∃ j : Nat, j ≤ 2 ∧ c = .int .i64 (j : Int) ∧ Kq w wx [(X, 3, [iz k, iz n]), (g, 9, [S r, S l1, S l2, S l3])]) (fun c _ => 2 - (intOf c).toNat)
        case atStart => exact ⟨0, by omega, rfl, HK2.out⟩
        case round =>
          obtain ⟨j, hj, rfl, hKK⟩ := hrel
          have HK := Lib.hid hKK
          clear hKK HK2
          by_cases hlj : j < 2
          · obtain ⟨z, hz⟩ : ∃ z, [k, n][j] = z := ⟨_, rfl⟩
            have hlj' : (j : Int) < 2 := by omega
            have cz : wr.cell? ⟨X, j, none⟩ = some (iz z) := ((HK.out.row _ (.head _)).cell j).trans (ints_at (l := [k, n]) hlj hz)
            obtain ⟨b, hb⟩ : ∃ b, (Cal.right z && Lay.right x) = b := ⟨_, rfl⟩
            obtain ⟨f, hf⟩ : ∃ f, (if b then Lay.fmt x (Cal.cy z) (Cal.cm z) (Cal.cd z) else []) = f := ⟨_, rfl⟩
            have H1 := Lib.hid (C_Format hxl hb hf)
            have H2 := Lib.hid (R_Format hxl hb hf)
            have e1 : (f != f) = false := by simp
            have e2 : (b != b) = false := by simp
            clear hz hb hf
            go_wp2_with fail
            clear cz
            with_reducible refine (H1.out _ (HW.out.ch HK.out.ch)).mono ?_
            rintro e w1 ⟨rfl, hC⟩
            have HK2 := Lib.hid (HK.out.on hC)
            clear hC HK
            have HK := HK2
            clear HK2
            go_wp2_with fail
            with_reducible refine (H2.out _ (HW.out.ch HK.out.ch)).mono ?_
            rintro e w1 ⟨rfl, hC⟩
            have HK2 := Lib.hid (HK.out.on hC)
            clear hC HK
            have HK := HK2
            clear HK2
            go_wp2_with fail
            go_roundw
            case rel => exact ⟨j + 1, by omega, by go_num, HK.out⟩
            case measure => simp [intOf]; omega
          · obtain rfl : j = 2 := by omega
            go_wp2_with fail
            go_roundw
            case rel => exact ⟨i + 1, by omega, by go_num, HK.out.tail⟩
            case measure => simp [intOf]; omega
      · obtain rfl : i = 4 := by omega
        go_wp2_with fail
        go_ret
        exact ⟨rfl, HK.out.ch⟩
theorem band_bd3 (n : Int) (m : Nat) (hm : m ≤ 4194303) : 0 ≤ bits .and .i64 n (m : Int) ∧ bits .and .i64 n (m : Int) ≤ (m : Int) := by
  have h : ((BitVec.ofInt 64 n) &&& (BitVec.ofInt 64 (m : Int))).toNat ≤ m := by
    rw [BitVec.toNat_and]
    refine Nat.le_trans Nat.and_le_right ?_
    rw [BitVec.toNat_ofInt]
    omega
  show 0 ≤ IntKind.i64.wrap ((((BitVec.ofInt 64 n) &&& (BitVec.ofInt 64 (m : Int))).toNat : Nat) : Int) ∧ IntKind.i64.wrap ((((BitVec.ofInt 64 n) &&& (BitVec.ofInt 64 (m : Int))).toNat : Nat) : Int) ≤ (m : Int)
  rw [IntWalk.i64_in _ (by omega)]
  omega
theorem formats_core (n : Int) (r : List UInt8) (q0 q1 q2 : Int) (w : World) (_ : -9223372036854775808 ≤ n ∧ n ≤ 9223372036854775807) (hr : r.length ≤ reachBytes) (h0 : -9223372036854775808 ≤ q0 ∧ q0 ≤ 9223372036854775807) (_ : -9223372036854775808 ≤ q1 ∧ q1 ≤ 9223372036854775807) (h2 : -9223372036854775808 ≤ q2 ∧ q2 ≤ 9223372036854775807) (hw : Tw w) :
    Calls Tryd.prog 4 #[iz n, S r, .agg #[iz q0, iz q1, iz q2]] w (Yd w (.bool true)) :=
  formats_walk hw rfl (by have : reachBytes < 140737488355328 := by decide
                          omega) h0.1 h0.2 h2.1 h2.2
end Go.Proofs.YtehgkpbjbkeoeaaDoor
