/- Package tithinglaw05: few. -/
import Derived.Test.YtdpapnfjjmeppaaDoorSt
import Derived.Laws.OwnMore
namespace Go.Proofs.YtdpapnfjjmeppaaDoor
open Go.RowKit Go.Shelf
theorem sp_flat {w : World} {g o n : Nat} {l : List Spn.Sp} (h : Rd spc 2 w (some ⟨g, o, none⟩) n l) (m : Nat) : ∀ (j : Nat) (u : Value), ((l.take m).flatMap spc)[j]? = some u → w.cell? ((⟨g, o, none⟩ : Addr).add j) = some u := by
  intro j u hj
  have hlt : j < (l.take m).length * 2 := by have := (List.getElem?_eq_some_iff.1 hj).1; rwa [flat_len spc_len] at this
  have hi : j / 2 < (l.take m).length := by omega
  have hx : (l.take m)[j / 2]? = some ((l.take m)[j / 2]) := List.getElem?_eq_getElem hi
  obtain ⟨x, hxe⟩ : ∃ x, (l.take m)[j / 2] = x := ⟨_, rfl⟩
  rw [hxe] at hx
  have hl : l[j / 2]? = some x := by
    rw [List.getElem?_take] at hx
    split at hx
    · exact hx
    · cases hx
  have hr : j % 2 < (spc x).length := by rw [spc_len]; omega
  have hv : (spc x)[j % 2]? = some (spc x)[j % 2] := List.getElem?_eq_getElem hr
  have hf := flat_get spc_len _ _ _ hx _ _ hv
  rw [show j / 2 * 2 + j % 2 = j by omega, hj] at hf
  have hc := h.get hl (j % 2) hv
  rw [← Option.some.inj hf] at hc
  rw [plain_add]
  rwa [show o + j / 2 * 2 + j % 2 = o + j by omega] at hc
theorem sp_ones (l : List Spn.Sp) : ∀ u ∈ l.flatMap spc, u.oneCell' = true := fun u hu => by
  obtain ⟨x, _, hx⟩ := List.mem_flatMap.1 hu
  exact two_one x.1 x.2 u hx
set_option maxRecDepth 100000 in
set_option maxHeartbeats 1600000 in
theorem few_any (a : List Spn.Sp) (p : Option Addr) (n c : Nat) (w : World) (ha : Ra w p n a) (hn : n ≤ 9223372036854775807) (hc : n ≤ c) :
    Calls Tryd.prog 23 #[.slice p n c] w (Ys w (a.take 8)) := by
  obtain ⟨i0, hi0, hz0, hz1, hz2⟩ := info_parts sp_info
  have HA := Lib.hid ha
  clear ha
  have HOW := Lib.hid (World.ownsRow_lit (base := w.heap.size) (e := 33) (size := 2) w #[] 0 (Nat.le_refl _) (by unfold maxLen; omega) rfl)
  have HCA := Lib.hid ((Ch.refl w.heap.size none1 w).alloc (Nat.le_refl _) (.cells #[] 33))
  by_cases h0 : n = 0
  · subst h0
    have ha0 : a = [] := List.length_eq_zero_iff.1 HA.out.len
    subst ha0
    rcases p with _ | ad
    · have HRD := Lib.hid (Rd.own (l := ([] : List Spn.Sp)) spc_len HOW.out rfl).2
      go_enter Tryd.func23, Tryd.ntmps23
      go_wp2_with fail
      simp only [show (min (0 : Int) 8).toNat = 0 from rfl]
      go_ret
      exact ⟨some ⟨w.heap.size, 0, none⟩, 0, 0, rfl, HRD.out, HCA.out⟩
    · have hl2 : ([] : List Spn.Sp).length = 0 := rfl
      go_enter Tryd.func23, Tryd.ntmps23
      go_wp2_with (at_builtin; refine wpList_append_own _ rfl _ _ 24 rfl w.heap.size 33 i0 (.agg #[iz 0, iz 0]) 2 16 Tryd.underlying24 hi0 hz0 hz1 hz2 rfl (by decide) (.slice (some ⟨w.heap.size, 0, none⟩) 0 0) 0 [] rfl HOW.out ad 0 c (([] : List Spn.Sp).flatMap spc) rfl (rfl) (by intro j u h; simp at h) (sp_ones _) (by unfold maxLen; omega) (by omega) (by simp) ?_; intro v' w1 hown' hgr hnil)
      rw [Nat.zero_add, List.nil_append] at hown'
      have HC := Lib.hid (HCA.out.trans (ch_own (by simp) HOW.out hgr))
      clear hnil hgr
      obtain ⟨pp, cc, rfl⟩ := own_val hown'
      have HRD := Lib.hid (Rd.own spc_len hown' hl2).2
      clear hown'
      go_wp2_with fail
      go_ret
      exact ⟨pp, _, cc, rfl, HRD.out, HC.out⟩
  · obtain ⟨g, o, rfl, hg⟩ := (HA.out.rd (by omega)).addr (by omega)
    have HF := Lib.hid (sp_flat ((HA.out.rd (by omega)).ch HCA.out) 8)
    have HLA := Lib.hid (show (a.take 8).length = min 8 n by rw [List.length_take, HA.out.len])
    by_cases h8 : n ≤ 8
    · have hm : min (n : Int) 8 = n := by omega
      have hl2 : (a.take 8).length = n := by rw [HLA.out]; omega
      go_enter Tryd.func23, Tryd.ntmps23
      go_wp2_with (at_builtin; refine wpList_append_own _ rfl _ _ 24 rfl w.heap.size 33 i0 (.agg #[iz 0, iz 0]) 2 16 Tryd.underlying24 hi0 hz0 hz1 hz2 rfl (by decide) (.slice (some ⟨w.heap.size, 0, none⟩) 0 0) 0 [] rfl HOW.out ⟨g, o, none⟩ n c ((a.take 8).flatMap spc) rfl (by rw [flat_len spc_len, hl2]) HF.out (sp_ones _) (by unfold maxLen; omega) (by omega) (by simp) ?_; intro v' w1 hown' hgr hnil)
      rw [Nat.zero_add, List.nil_append] at hown'
      have HC := Lib.hid (HCA.out.trans (ch_own (by simp) HOW.out hgr))
      clear hnil hgr
      obtain ⟨pp, cc, rfl⟩ := own_val hown'
      have HRD := Lib.hid (Rd.own spc_len hown' hl2).2
      clear hown'
      go_wp2_with fail
      go_ret
      exact ⟨pp, _, cc, rfl, HRD.out, HC.out⟩
    · have hm : min (n : Int) 8 = 8 := by omega
      have hl2 : (a.take 8).length = 8 := by rw [HLA.out]; omega
      go_enter Tryd.func23, Tryd.ntmps23
      go_wp2_with (at_builtin; refine wpList_append_own _ rfl _ _ 24 rfl w.heap.size 33 i0 (.agg #[iz 0, iz 0]) 2 16 Tryd.underlying24 hi0 hz0 hz1 hz2 rfl (by decide) (.slice (some ⟨w.heap.size, 0, none⟩) 0 0) 0 [] rfl HOW.out ⟨g, o, none⟩ 8 c ((a.take 8).flatMap spc) rfl (by rw [flat_len spc_len, hl2]) HF.out (sp_ones _) (by unfold maxLen; omega) (by omega) (by simp) ?_; intro v' w1 hown' hgr hnil)
      rw [Nat.zero_add, List.nil_append] at hown'
      have HC := Lib.hid (HCA.out.trans (ch_own (by simp) HOW.out hgr))
      clear hnil hgr
      obtain ⟨pp, cc, rfl⟩ := own_val hown'
      have HRD := Lib.hid (Rd.own spc_len hown' hl2).2
      clear hown'
      go_wp2_with fail
      go_ret
      exact ⟨pp, _, cc, rfl, HRD.out, HC.out⟩
end Go.Proofs.YtdpapnfjjmeppaaDoor
