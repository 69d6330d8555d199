/- Package tithingref05: with. -/
import Derived.Test.YtdpapnfjjmeppaaDoorSd
import Derived.Test.YtdpapnfjjmeppaaDoorSh
namespace Go.Proofs.YtdpapnfjjmeppaaDoor
open Go.RowKit
namespace Spn
/-- A number put in its place. -/
def ins (n : Int) : List Int → List Int
  | [] => [n]
  | x :: t => if n < x then n :: x :: t else if x = n then x :: t else x :: ins n t
theorem ins_mem {n z : Int} {l : List Int} : z ∈ ins n l ↔ z = n ∨ z ∈ l := by
  induction l with
  | nil => simp [ins]
  | cons x t ih =>
    unfold ins
    split
    · simp
    · split
      · rename_i h; subst h; simp
      · simp only [List.mem_cons, ih]
        constructor
        · rintro (h | h | h) <;> simp [h]
        · rintro (h | h | h) <;> simp [h]
theorem ins_inc {n : Int} {l : List Int} (h : l.Pairwise (· < ·)) : (ins n l).Pairwise (· < ·) := by
  induction l with
  | nil => simp [ins]
  | cons x t ih =>
    obtain ⟨h1, h2⟩ := List.pairwise_cons.1 h
    unfold ins
    split
    · rename_i hn
      refine List.pairwise_cons.2 ⟨fun z hz => ?_, h⟩
      rcases List.mem_cons.1 hz with rfl | hz
      · exact hn
      · have := h1 z hz; omega
    · split
      · exact h
      · refine List.pairwise_cons.2 ⟨fun z hz => ?_, ih h2⟩
        rcases ins_mem.1 hz with rfl | hz
        · omega
        · exact h1 z hz
theorem ins_len (n : Int) (l : List Int) : (ins n l).length ≤ l.length + 1 := by
  induction l with
  | nil => simp [ins]
  | cons x t ih => unfold ins; split <;> (try split) <;> simp <;> omega
end Spn
theorem in_news (W : World) (a : Int) : ∀ (j : Nat) (u : Value), [iz a][j]? = some u → (W.alloc (.cells #[iz a] 3 (0, 0))).cell? ((⟨W.heap.size, 0, none⟩ : Addr).add j) = some u := by
  intro j u h
  exact (Blk.new W #[iz a] 3).adds j u h
theorem in_one (a : Int) : ∀ u ∈ [iz a], u.oneCell' = true := iz_one (l := [a])
theorem inc_flat (l : List Int) : l.flatMap inc = l.map iz := by
  induction l with
  | nil => rfl
  | cons x t ih => rw [List.flatMap_cons, ih]; rfl
/-- A call that returns a slice of these numbers. -/
def Yi (w : World) (l : List Int) (e : Ending) (w' : World) : Prop := ∃ p n c, e = .returned (.slice p n c) ∧ Rd inc 1 w' p n l ∧ Ch w.heap.size none1 w w'
set_option maxRecDepth 100000 in
set_option maxHeartbeats 6400000 in
theorem with_any (s : Int) (l : List Int) (p : Option Addr) (n cap : Nat) (w : World) (hl : Rd inc 1 w p n l) (hn : n ≤ 10000000) :
    Calls Tryd.prog 62 #[.slice p n cap, iz s] w (Yi w (Spn.ins s l)) := by
  have HL := Lib.hid hl
  clear hl
  obtain ⟨G, hG⟩ : ∃ G, w.heap.size = G := ⟨_, rfl⟩
  have HG := Lib.hid hG
  clear hG
  obtain ⟨i0, hi, hz0, hz1, hz2⟩ := info_parts int_info
  go_enter Tryd.func62, Tryd.ntmps62
  go_wp2_with fail
  go_loopw [5, 6, 7] (fun v d i wr => ∃ (k : Nat) (out : List Int) (done : Bool), k ≤ n ∧ i = .int .i64 k ∧ d = .bool done ∧ wr.ownsRow G 3 1 v out.length (out.flatMap inc) ∧ Ch G none1 w wr ∧ out ++ (if done then l.drop k else Spn.ins s (l.drop k)) = Spn.ins s l ∧ out.length ≤ k + 1 ∧ (done = false → out.length ≤ k)) (fun _ _ i _ => n - (intOf i).toNat)
  case atStart => exact ⟨0, [], false, Nat.zero_le _, rfl, rfl, own_nil _ _ _ _, Ch.refl _ _ _, rfl, Nat.zero_le _, fun _ => Nat.zero_le _⟩
  case round =>
    obtain ⟨k, out, done, hk, rfl, rfl, hown, hC, hrest, hlen, hlen2⟩ := hrel
    have HO := Lib.hid hown
    have HC := Lib.hid hC
    have HR := Lib.hid hrest
    have HLN := Lib.hid hlen
    have HL2 := Lib.hid hlen2
    have HWS := Lib.hid (show G ≤ wr.heap.size by have := hC.size; rw [HG.out] at this; exact this)
    clear hown hC hrest hlen hlen2
    by_cases hlt : k < n
    · obtain ⟨g, o2, rfl, hg⟩ := HL.out.addr (by omega)
      obtain ⟨x, ht⟩ : ∃ t, l[k]? = some t := ⟨l[k]'(by rw [HL.out.len]; exact hlt), List.getElem?_eq_getElem _⟩
      have hrd := HL.out.chB HC.out (by intro a ha; cases ha; rw [← HG.out]; exact hg)
      have c0 := hrd.in ht
      have hdr : l.drop k = x :: l.drop (k + 1) := by
        obtain ⟨h1, h2⟩ := List.getElem?_eq_some_iff.1 ht
        rw [← h2]; simp
      rw [hdr] at HR
      have HT := Lib.hid ht
      have HT := Lib.hid ht
      have HT := Lib.hid ht
      have HT := Lib.hid ht
      clear ht hrd hdr
      have hkn : out.length + 2 ≤ 10000010 := by have := HLN.out; omega
      cases done with
      | true =>
        go_wp2_with (at_builtin; refine wpList_append_own _ rfl _ _ 40 rfl G 3 i0 (iz 0) 1 8 Tryd.underlying40 hi hz0 hz1 hz2 rfl (by decide) u5 out.length (out.flatMap inc) rfl (own_ch HO.out ((Ch.refl _ _ _).alloc (Nat.le_refl _) _) (Nat.le_refl _)) ⟨wr.heap.size, 0, none⟩ 1 1 [iz x] rfl rfl (in_news wr x) (in_one x) (by unfold maxLen; omega) (by omega) (by have := HWS.out; simp; omega) ?_; intro v' w1 hown' hgr hnil)
        have HO1 := Lib.hid hown'
        have HC1 := Lib.hid ((HC.out.alloc HWS.out (.cells #[iz x] 3)).trans (ch_own (by have := HWS.out; simp; omega) (own_ch HO.out ((Ch.refl _ _ _).alloc (Nat.le_refl _) _) (Nat.le_refl _)) hgr))
        clear hown' hgr hnil
        go_wp2_with fail
        go_roundw
        case rel =>
          refine ⟨k + 1, out ++ [x], true, by omega, by go_num, rfl, ?_, HC1.out, ?_, by have := HLN.out; simp; omega, fun q => by cases q⟩
          · rw [List.length_append, List.flatMap_append]; exact HO1.out
          · rw [← HR.out]; simp
        case measure => simp [intOf]; omega
      | false =>
        have h4 : x < s ∨ x = s ∨ s < x := by omega
        rcases h4 with h4 | h4 | h4
        · have H4 := Lib.hid (show Spn.ins s (x :: l.drop (k + 1)) = x :: Spn.ins s (l.drop (k + 1)) by conv => { lhs; unfold Spn.ins }; rw [if_neg (by omega), if_neg (by omega)])
          go_wp2_with (at_builtin; refine wpList_append_own _ rfl _ _ 40 rfl G 3 i0 (iz 0) 1 8 Tryd.underlying40 hi hz0 hz1 hz2 rfl (by decide) u5 out.length (out.flatMap inc) rfl (own_ch HO.out ((Ch.refl _ _ _).alloc (Nat.le_refl _) _) (Nat.le_refl _)) ⟨wr.heap.size, 0, none⟩ 1 1 [iz x] rfl rfl (in_news wr x) (in_one x) (by unfold maxLen; omega) (by omega) (by have := HWS.out; simp; omega) ?_; intro v1 w1 hown' hgr hnil; have HO1 := Lib.hid hown'; have HC1 := Lib.hid ((HC.out.alloc HWS.out (.cells #[iz x] 3)).trans (ch_own (by have := HWS.out; simp; omega) (own_ch HO.out ((Ch.refl _ _ _).alloc (Nat.le_refl _) _) (Nat.le_refl _)) hgr)); have HWS1 := Lib.hid (show G ≤ w1.heap.size by have := HC1.out.size; rw [HG.out] at this; exact this); clear hown' hgr hnil)
          go_wp2_with fail
          go_roundw
          case rel =>
            refine ⟨k + 1, out ++ [x], false, by omega, by go_num, rfl, ?_, HC1.out, ?_, by have := HLN.out; simp; omega, fun _ => by have := HL2.out (by first | rfl | trivial); simp; omega⟩
            · rw [List.length_append, List.flatMap_append]; exact HO1.out
            · rw [← HR.out]
              show out ++ [x] ++ Spn.ins s (l.drop (k + 1)) = out ++ Spn.ins s (x :: l.drop (k + 1))
              rw [H4.out]; simp
          case measure => simp [intOf]; omega
        · subst h4
          have H4 := Lib.hid (show Spn.ins x (x :: l.drop (k + 1)) = x :: l.drop (k + 1) by conv => { lhs; unfold Spn.ins }; rw [if_neg (by omega), if_pos rfl])
          go_wp2_with (at_builtin; refine wpList_append_own _ rfl _ _ 40 rfl G 3 i0 (iz 0) 1 8 Tryd.underlying40 hi hz0 hz1 hz2 rfl (by decide) u5 out.length (out.flatMap inc) rfl (own_ch HO.out ((Ch.refl _ _ _).alloc (Nat.le_refl _) _) (Nat.le_refl _)) ⟨wr.heap.size, 0, none⟩ 1 1 [iz x] rfl rfl (in_news wr x) (in_one x) (by unfold maxLen; omega) (by omega) (by have := HWS.out; simp; omega) ?_; intro v1 w1 hown' hgr hnil; have HO1 := Lib.hid hown'; have HC1 := Lib.hid ((HC.out.alloc HWS.out (.cells #[iz x] 3)).trans (ch_own (by have := HWS.out; simp; omega) (own_ch HO.out ((Ch.refl _ _ _).alloc (Nat.le_refl _) _) (Nat.le_refl _)) hgr)); have HWS1 := Lib.hid (show G ≤ w1.heap.size by have := HC1.out.size; rw [HG.out] at this; exact this); clear hown' hgr hnil)
          go_wp2_with fail
          go_roundw
          case rel =>
            refine ⟨k + 1, out ++ [x], true, by omega, by go_num, rfl, ?_, HC1.out, ?_, by have := HLN.out; simp; omega, fun q => by cases q⟩
            · rw [List.length_append, List.flatMap_append]; exact HO1.out
            · rw [← HR.out]
              show out ++ [x] ++ l.drop (k + 1) = out ++ Spn.ins x (x :: l.drop (k + 1))
              rw [H4.out]; simp
          case measure => simp [intOf]; omega
        · have H4 := Lib.hid (show Spn.ins s (x :: l.drop (k + 1)) = s :: x :: l.drop (k + 1) by conv => { lhs; unfold Spn.ins }; rw [if_pos h4])
          go_wp2_with (first | (at_builtin; refine wpList_append_own _ rfl _ _ 40 rfl G 3 i0 (iz 0) 1 8 Tryd.underlying40 hi hz0 hz1 hz2 rfl (by decide) u5 out.length (out.flatMap inc) rfl (own_ch HO.out ((Ch.refl _ _ _).alloc (Nat.le_refl _) _) (Nat.le_refl _)) ⟨wr.heap.size, 0, none⟩ 1 1 [iz s] rfl rfl (in_news wr s) (in_one s) (by unfold maxLen; omega) (by omega) (by have := HWS.out; simp; omega) ?_; intro v1 w1 hown' hgr hnil; have HO1 := Lib.hid hown'; have HC1 := Lib.hid ((HC.out.alloc HWS.out (.cells #[iz s] 3)).trans (ch_own (by have := HWS.out; simp; omega) (own_ch HO.out ((Ch.refl _ _ _).alloc (Nat.le_refl _) _) (Nat.le_refl _)) hgr)); have HWS1 := Lib.hid (show G ≤ w1.heap.size by have := HC1.out.size; rw [HG.out] at this; exact this); clear hown' hgr hnil; have c1 : ∀ o, (w1.alloc o).cell? ⟨g, o2 + k, none⟩ = some (iz x) := fun o => (HL.out.chB (HC1.out.alloc HWS1.out o) (by intro a ha; cases ha; rw [← HG.out]; exact hg)).in HT.out; have c2 : w1.cell? ⟨g, o2 + k, none⟩ = some (iz x) := (HL.out.chB HC1.out (by intro a ha; cases ha; rw [← HG.out]; exact hg)).in HT.out) | (at_builtin; refine wpList_append_own _ rfl _ _ 40 rfl G 3 i0 (iz 0) 1 8 Tryd.underlying40 hi hz0 hz1 hz2 rfl (by decide) v1 (out.length + 1) (out.flatMap inc ++ [iz s]) rfl (own_ch HO1.out ((Ch.refl _ _ _).alloc (Nat.le_refl _) _) (Nat.le_refl _)) ⟨w1.heap.size, 0, none⟩ 1 1 [iz x] rfl rfl (in_news w1 x) (in_one x) (by unfold maxLen; omega) (by omega) (by have := HWS1.out; simp; omega) ?_; intro v2 w2 hown' hgr hnil; have HO2 := Lib.hid hown'; have HC2 := Lib.hid ((HC1.out.alloc HWS1.out (.cells #[iz x] 3)).trans (ch_own (by have := HWS1.out; simp; omega) (own_ch HO1.out ((Ch.refl _ _ _).alloc (Nat.le_refl _) _) (Nat.le_refl _)) hgr)); have HWS2 := Lib.hid (show G ≤ w2.heap.size by have := HC2.out.size; rw [HG.out] at this; exact this); clear hown' hgr hnil))
          go_wp2_with fail
          go_roundw
          case rel =>
            refine ⟨k + 1, out ++ [s, x], true, by omega, by go_num, rfl, ?_, HC2.out, ?_, by have := HL2.out (by first | rfl | trivial); simp; omega, fun q => by cases q⟩
            · rw [List.length_append, List.flatMap_append]
              have := HO2.out
              rw [List.append_assoc] at this
              exact this
            · rw [← HR.out]
              show out ++ [s, x] ++ l.drop (k + 1) = out ++ Spn.ins s (x :: l.drop (k + 1))
              rw [H4.out]; simp
          case measure => simp [intOf]; omega
    · obtain rfl : k = n := by omega
      have hkn : out.length + 2 ≤ 10000010 := by have := HLN.out; omega
      have hdr : l.drop k = [] := by rw [← HL.out.len]; simp
      rw [hdr] at HR
      clear hdr hk
      cases done with
      | true =>
        obtain ⟨pp, cc, rfl⟩ := own_val HO.out
        have HRD := Lib.hid (Rd.own inc_len HO.out rfl).2
        go_wp2_with fail
        go_ret
        refine ⟨pp, _, cc, rfl, ?_, by rw [HG.out]; exact HC.out⟩
        have h5 : out = Spn.ins s l := by have := HR.out; simpa using this
        rw [← h5]
        exact HRD.out
      | false =>
        go_wp2_with (at_builtin; refine wpList_append_own _ rfl _ _ 40 rfl G 3 i0 (iz 0) 1 8 Tryd.underlying40 hi hz0 hz1 hz2 rfl (by decide) u5 out.length (out.flatMap inc) rfl (own_ch HO.out ((Ch.refl _ _ _).alloc (Nat.le_refl _) _) (Nat.le_refl _)) ⟨wr.heap.size, 0, none⟩ 1 1 [iz s] rfl rfl (in_news wr s) (in_one s) (by unfold maxLen; omega) (by omega) (by have := HWS.out; simp; omega) ?_; intro v1 w1 hown' hgr hnil; have HO1 := Lib.hid hown'; have HC1 := Lib.hid ((HC.out.alloc HWS.out (.cells #[iz s] 3)).trans (ch_own (by have := HWS.out; simp; omega) (own_ch HO.out ((Ch.refl _ _ _).alloc (Nat.le_refl _) _) (Nat.le_refl _)) hgr)); have HWS1 := Lib.hid (show G ≤ w1.heap.size by have := HC1.out.size; rw [HG.out] at this; exact this); clear hown' hgr hnil)
        have h5 : out ++ [s] = Spn.ins s l := by
          have h5 := HR.out
          rw [if_neg (by decide)] at h5
          exact h5
        have H5 := Lib.hid h5
        clear h5
        have ho1 : w1.ownsRow G 3 1 v1 (out ++ [s]).length ((out ++ [s]).flatMap inc) := by rw [List.length_append, List.flatMap_append]; exact HO1.out
        obtain ⟨pp, cc, rfl⟩ := own_val ho1
        have HRD := Lib.hid (Rd.own inc_len ho1 rfl).2
        clear ho1
        go_wp2_with fail
        go_ret
        exact ⟨pp, _, cc, rfl, by rw [← H5.out]; exact HRD.out, by rw [HG.out]; exact HC1.out⟩
end Go.Proofs.YtdpapnfjjmeppaaDoor
