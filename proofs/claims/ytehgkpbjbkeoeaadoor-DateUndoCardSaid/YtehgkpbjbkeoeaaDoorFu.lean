/- DateUndo: the walk. -/
import Derived.Test.YtehgkpbjbkeoeaaDoorDy
namespace Go.Proofs.YtehgkpbjbkeoeaaDoor
open Go.RowKit Go.Shelf
set_option maxRecDepth 100000 in
set_option maxHeartbeats 3200000 in
theorem undo_walk {m n : Int} {a b q0 q1 q2 : Int} {w : World} (hw : Tw w) (ha : a.tmod 3652059 = m) (hb : b.tmod 3652059 = n) (m0 : 0 ≤ m) (m1 : m ≤ 3652058) (n0 : 0 ≤ n) (n1 : n ≤ 3652058)
    (k0 : -9223372036854775808 ≤ q0) (k1 : q0 ≤ 9223372036854775807) (k2 : -9223372036854775808 ≤ q2) (k3 : q2 ≤ 9223372036854775807) :
    Calls Tryd.prog 6 #[.int .u32 a, .int .u32 b, .agg #[iz q0, iz q1, iz q2]] w (Yd w (.bool true)) := by
  have hrm : Cal.right m = true := Cal.right_iff.2 ⟨m0, m1⟩
  have hrn : Cal.right n = true := Cal.right_iff.2 ⟨n0, n1⟩
  have HW := Lib.hid hw
  have HRM := Lib.hid hrm
  have HRN := Lib.hid hrn
  have HL := Lib.hid (fun w' => Layout_any q0 q1 q2 false w' k0 k1 k2 k3)
  have H0 := Lib.hid sanity3
  obtain ⟨f, hf⟩ : ∃ f, Lay.fmt Lay.iso (Cal.cy m) (Cal.cm m) (Cal.cd m) = f := ⟨_, rfl⟩
  have H4 := Lib.hid (C_Format (L := [89, 89, 89, 89, 45, 77, 77, 45, 68, 68]) (n := m) (f := f) (b := true) (by decide) (by rw [hrm]; exact iso_right) hf)
  have H5 := Lib.hid (C_Text (n := m) (f := f) (by rw [hrm]; exact hf))
  clear hf hrm hrn hw k0 k1 k2 k3
  have hm2 : IntKind.i64.wrap m = m := IntWalk.i64_in _ (by omega)
  have hn2 : IntKind.i64.wrap n = n := IntWalk.i64_in _ (by omega)
  have HK := Lib.hid ((Kq.nil w).new #[iz q0, iz q1, iz q2] 30)
  obtain ⟨B, hB⟩ : ∃ B, w.heap.size = B := ⟨_, rfl⟩
  rw [hB] at HK
  go_enter Tryd.func6, Tryd.ntmps6
  go_wp2_with fail
  clear hB
  with_reducible refine (H0.out _ (HW.out.ch HK.out.ch)).mono ?_
  rintro e w0 ⟨rfl, hC⟩
  have HK2 := Lib.hid (HK.out.on hC)
  clear hC HK
  have HK := HK2
  clear HK2
  have c0 := (HK.out.row _ (.head _)).cell 0
  have c1 := (HK.out.row _ (.head _)).cell 1
  have c2 := (HK.out.row _ (.head _)).cell 2
  simp only [List.getElem?_cons_zero, List.getElem?_cons_succ, Array.toList] at c0 c1 c2
  go_wp2_with fail
  clear c0 c1 c2
  with_reducible refine (HL.out _).mono ?_
  rintro e w1 ⟨⟨l, rfl, hll, hlr⟩, hC⟩
  have hl : Lay.right l = true := by simpa using hlr
  have HC := Lib.hid (HK.out.on hC).ch
  obtain ⟨s, hs⟩ : ∃ s, Lay.fmt l (Cal.cy m) (Cal.cm m) (Cal.cd m) = s := ⟨_, rfl⟩
  obtain ⟨t, ht⟩ : ∃ t, Lay.fmt l (Cal.cy n) (Cal.cm n) (Cal.cd n) = t := ⟨_, rfl⟩
  have H1 := Lib.hid (C_Format (L := l) (n := m) (f := s) (b := true) (by omega) (by rw [HRM.out, hl]; rfl) hs)
  have H2 := Lib.hid (C_Format (L := l) (n := n) (f := t) (b := true) (by omega) (by rw [HRN.out, hl]; rfl) ht)
  obtain ⟨r1, r2⟩ := Lay.rd_fmt hl HRM.out
  rw [hs] at r1 r2
  have hsl : s.length ≤ 9223372036854775807 := by
    have h1 := flat_len (dat_of (Cal.civ_spec HRM.out).1) (Lay.parts l) (Lay.parts_ok l)
    have h2 := Lay.parts_len l
    have h3 : s.length ≤ (Lay.parts l).length * 100010 := by rw [← hs]; exact h1
    omega
  have H3 := Lib.hid (C_Read (L := l) (s := s) (b := true) (n := m) (by omega) hsl r1 (by rw [if_pos rfl, r2]))
  have HI := Lib.hid (show s = t → m = n from fun h => Lay.fmt_inj hl HRM.out HRN.out (by rw [hs, ht, h]))
  have HJ := Lib.hid (show m = n → s = t from fun h => by rw [← hs, ← ht, h])
  clear hC HK hlr hl hll hs ht r1 r2 hsl
  by_cases hmn : m = n
  · have hst := HJ.out hmn
    subst hmn
    subst hst
    have e1 : (s == s) = true := beq_self_eq_true _
    have e2 : (m == m) = true := beq_self_eq_true _
    go_wp2_with fail
    with_reducible refine (H1.out _ (HW.out.ch HC.out)).mono ?_
    rintro e w2 ⟨rfl, hC⟩
    have HC2 := Lib.hid (HC.out.trans (hC.mono HC.out.size (fun _ _ q => q)))
    clear hC HC
    have HC := HC2
    clear HC2
    go_wp2_with fail
    with_reducible refine (H2.out _ (HW.out.ch HC.out)).mono ?_
    rintro e w3 ⟨rfl, hC⟩
    have HC2 := Lib.hid (HC.out.trans (hC.mono HC.out.size (fun _ _ q => q)))
    clear hC HC
    have HC := HC2
    clear HC2
    go_wp2_with fail
    with_reducible refine (H3.out _ (HW.out.ch HC.out)).mono ?_
    rintro e w4 ⟨rfl, hC⟩
    have HC2 := Lib.hid (HC.out.trans (hC.mono HC.out.size (fun _ _ q => q)))
    clear hC HC
    have HC := HC2
    clear HC2
    go_wp2_with fail
    with_reducible refine (H4.out _ (HW.out.ch HC.out)).mono ?_
    rintro e w5 ⟨rfl, hC⟩
    have HC2 := Lib.hid (HC.out.trans (hC.mono HC.out.size (fun _ _ q => q)))
    clear hC HC
    have HC := HC2
    clear HC2
    go_wp2_with fail
    with_reducible refine (H5.out _ (HW.out.ch HC.out)).mono ?_
    rintro e w6 ⟨rfl, hC⟩
    have HC2 := Lib.hid (HC.out.trans (hC.mono HC.out.size (fun _ _ q => q)))
    clear hC HC
    have HC := HC2
    clear HC2
    go_wp2_with fail
    go_ret
    exact ⟨rfl, HC.out⟩
  · have hst : ¬ s = t := fun h => hmn (HI.out h)
    have e1 : (s == t) = false := beq_eq_false_iff_ne.2 hst
    have e3 : ¬ s.toArray = t.toArray := fun q => hst (by have := congrArg Array.toList q; simpa using this)
    have e2 : (m == n) = false := beq_eq_false_iff_ne.2 hmn
    go_wp2_with fail
    with_reducible refine (H1.out _ (HW.out.ch HC.out)).mono ?_
    rintro e w2 ⟨rfl, hC⟩
    have HC2 := Lib.hid (HC.out.trans (hC.mono HC.out.size (fun _ _ q => q)))
    clear hC HC
    have HC := HC2
    clear HC2
    go_wp2_with fail
    with_reducible refine (H2.out _ (HW.out.ch HC.out)).mono ?_
    rintro e w3 ⟨rfl, hC⟩
    have HC2 := Lib.hid (HC.out.trans (hC.mono HC.out.size (fun _ _ q => q)))
    clear hC HC
    have HC := HC2
    clear HC2
    go_wp2_with fail
    with_reducible refine (H3.out _ (HW.out.ch HC.out)).mono ?_
    rintro e w4 ⟨rfl, hC⟩
    have HC2 := Lib.hid (HC.out.trans (hC.mono HC.out.size (fun _ _ q => q)))
    clear hC HC
    have HC := HC2
    clear HC2
    go_wp2_with fail
    with_reducible refine (H4.out _ (HW.out.ch HC.out)).mono ?_
    rintro e w5 ⟨rfl, hC⟩
    have HC2 := Lib.hid (HC.out.trans (hC.mono HC.out.size (fun _ _ q => q)))
    clear hC HC
    have HC := HC2
    clear HC2
    go_wp2_with fail
    with_reducible refine (H5.out _ (HW.out.ch HC.out)).mono ?_
    rintro e w6 ⟨rfl, hC⟩
    have HC2 := Lib.hid (HC.out.trans (hC.mono HC.out.size (fun _ _ q => q)))
    clear hC HC
    have HC := HC2
    clear HC2
    go_wp2_with fail
    go_ret
    exact ⟨rfl, HC.out⟩
theorem undo_core (a b q0 q1 q2 : Int) (w : World) (ha : 0 ≤ a ∧ a ≤ 4294967295) (hb : 0 ≤ b ∧ b ≤ 4294967295) (h0 : -9223372036854775808 ≤ q0 ∧ q0 ≤ 9223372036854775807) (_ : -9223372036854775808 ≤ q1 ∧ q1 ≤ 9223372036854775807) (h2 : -9223372036854775808 ≤ q2 ∧ q2 ≤ 9223372036854775807) (hw : Tw w) :
    Calls Tryd.prog 6 #[.int .u32 a, .int .u32 b, .agg #[iz q0, iz q1, iz q2]] w (Yd w (.bool true)) := by
  have e1 : a.tmod 3652059 = a % 3652059 := Int.tmod_eq_emod_of_nonneg ha.1
  have e2 : b.tmod 3652059 = b % 3652059 := Int.tmod_eq_emod_of_nonneg hb.1
  exact undo_walk hw e1 e2 (by omega) (by omega) (by omega) (by omega) h0.1 h0.2 h2.1 h2.2
end Go.Proofs.YtehgkpbjbkeoeaaDoor
