/- The reference's Parts of layer 3. -/
import Derived.Test.YtehgkpbjbkeoeaaDoorDt
import Derived.Laws.AppendOwn
namespace Go.Proofs.YtehgkpbjbkeoeaaDoor
open Go.RowKit Go.Shelf
attribute [local go_sem] Oper.semAt_some
theorem info_str : (Tryd.prog.info? 9).map (fun i => (i.zero, i.size, i.bytes)) = some (some (.string ⟨#[]⟩), 1, 16) := by kernel_rfl
/-- A slice of strings that can be read. -/
def Sl (w : World) (B : Nat) (v : Value) (ps : List (List UInt8)) : Prop :=
  (ps = [] ∧ ∃ p cap, v = .slice p 0 cap) ∨ ∃ g cap, v = .slice (some ⟨g, 0, none⟩) ps.length cap ∧ (B ≤ g ∧ g < w.heap.size) ∧ ∀ j (h : j < ps.length), w.cell? ⟨g, 0 + j, none⟩ = some (S ps[j])
theorem sl_of_own {w : World} {base n : Nat} {v : Value} {ps : List (List UInt8)} (h : w.ownsRow base 9 1 v n (ps.map S)) (hn : n = ps.length) : Sl w base v ps := by
  subst hn
  obtain ⟨_, h | ⟨g, cap, cur, hv, hb, hg, hlt, hm, hs, ht⟩⟩ := h
  · obtain ⟨hv, hn⟩ := h
    exact .inl ⟨by simpa using hn, _, _, hv⟩
  · refine .inr ⟨g, cap, hv, ⟨hb, (Array.getElem?_eq_some_iff.1 hg).1⟩, fun j hj => ?_⟩
    have hB : Blk w g 9 cur.toList := by unfold Blk; simpa using hg
    rw [hB.cell, Nat.zero_add]
    have h1 : (cur.toList.take (ps.length * 1))[j]? = (ps.map S)[j]? := by rw [ht]
    rw [List.getElem?_take_of_lt (by omega)] at h1
    rw [h1]
    simp [hj]
theorem dcell_str (W : World) (s : List UInt8) : ∀ (j : Nat) (u : Value), [S s][j]? = some u → (W.alloc (.cells #[S s] 9 (0, 0))).cell? ((⟨W.heap.size, 0, none⟩ : Addr).add j) = some u := by
  intro j u h
  exact (Blk.new W #[S s] 9).adds j u h
theorem one_str {s : List UInt8} : ∀ u ∈ [S s], u.oneCell' = true := fun u hu => by
  obtain rfl := List.mem_singleton.1 hu
  rfl
theorem ch_grown_own {w w' : World} {B n : Nat} {e : TypeId} {v : Value} {xs : List Value} (hB : B ≤ w.heap.size) (ho : w.ownsRow B e 1 v n xs) (h : w.grownBy w' v.ownBlock) : Ch B none1 w w' :=
  ⟨h.os, h.tape, h.output, h.size, fun k hk _ => h.block k (by omega) (fun q => by
    rcases ho.2 with ⟨hv, _⟩ | ⟨g, cap, cur, hv, hb, _⟩
    · rw [hv] at q; cases q
    · rw [hv] at q; simp [Value.ownBlock] at q; omega)⟩
namespace Lay
theorem fw4 {l : Part} (h : l.take 4 = [89, 89, 89, 89]) : fw l = 4 := by
  have : ([89, 89, 89, 89] : Part).isPrefixOf l = true := List.isPrefixOf_iff_prefix.2 ⟨l.drop 4, by rw [← h, List.take_append_drop]⟩
  unfold fw; rw [if_pos this]
theorem fw4' {l : Part} (h : ¬ l.take 4 = [89, 89, 89, 89]) : ([89, 89, 89, 89] : Part).isPrefixOf l = false := by
  cases hb : ([89, 89, 89, 89] : Part).isPrefixOf l
  · rfl
  · exact absurd (take_prefix hb) h
theorem fw2 {l : Part} (h4 : ¬ l.take 4 = [89, 89, 89, 89]) (h : l.take 2 = [77, 77] ∨ l.take 2 = [68, 68]) : fw l = 2 := by
  unfold fw
  rw [if_neg (by rw [fw4' h4]; decide)]
  rcases h with h | h
  · have : ([77, 77] : Part).isPrefixOf l = true := List.isPrefixOf_iff_prefix.2 ⟨l.drop 2, by rw [← h, List.take_append_drop]⟩
    rw [if_pos this]
  · have : ([68, 68] : Part).isPrefixOf l = true := List.isPrefixOf_iff_prefix.2 ⟨l.drop 2, by rw [← h, List.take_append_drop]⟩
    rw [if_pos this]
    split <;> rfl
theorem fw1 {l : Part} (h4 : ¬ l.take 4 = [89, 89, 89, 89]) (h2 : ¬ l.take 2 = [77, 77]) (h3 : ¬ l.take 2 = [68, 68]) : fw l = 1 := by
  unfold fw
  rw [if_neg (by rw [fw4' h4]; decide), if_neg (show ¬ ([77, 77] : Part).isPrefixOf l = true from fun q => h2 (take_prefix q)), if_neg (show ¬ ([68, 68] : Part).isPrefixOf l = true from fun q => h3 (take_prefix q))]
theorem parts_at {L : Part} {k n : Nat} (h : k < L.length) (hn : fw (L.drop k) = n) : parts (L.drop k) = (L.drop k).take n :: parts (L.drop (k + n)) := by
  have hne : L.drop k ≠ [] := by
    intro q
    have := congrArg List.length q
    rw [List.length_drop, List.length_nil] at this
    omega
  rw [parts_cons hne, hn, List.drop_drop]
theorem fw_at {L : Part} {k n : Nat} (h : k < L.length) (hn : fw (L.drop k) = n) : 1 ≤ n ∧ k + n ≤ L.length := by
  have hne : L.drop k ≠ [] := by
    intro q
    have := congrArg List.length q
    rw [List.length_drop, List.length_nil] at this
    omega
  have h1 := fw_pos (L.drop k)
  have h2 := fw_len hne
  rw [List.length_drop] at h2
  omega
end Lay
theorem dext_mid' (l : List UInt8) (k n : Nat) : (ByteArray.mk l.toArray).extract k (k + n) = ⟨((l.drop k).take n).toArray⟩ := by
  rw [dext_mid, ← List.take_drop]
set_option maxRecDepth 100000 in
set_option maxHeartbeats 1600000 in
theorem Parts_any (L : List UInt8) (hL : L.length ≤ 40) (w : World) :
    Calls Tryd.prog 30 #[S L] w fun e w' => (∃ v, e = .returned v ∧ Sl w' w.heap.size v (Lay.parts L)) ∧ Ch w.heap.size none1 w w' := by
  obtain ⟨i0, hi, hz0, hz1, hz2⟩ := info_parts info_str
  obtain ⟨B, hB⟩ : ∃ B, w.heap.size = B := ⟨_, rfl⟩
  have HBE := Lib.hid hB
  go_enter Tryd.func30, Tryd.ntmps30
  go_wp2_with fail
  go_loopw [3, 4] (fun a b wr => ∃ (k : Nat) (ps : List (List UInt8)), k ≤ L.length ∧ b = .int .i64 (k : Int) ∧ wr.ownsRow B 9 1 a ps.length (ps.map S) ∧ ps ++ Lay.parts (L.drop k) = Lay.parts L ∧ Ch B none1 w wr) (fun _ b _ => L.length - (intOf b).toNat)
  case atStart => exact ⟨0, [], Nat.zero_le _, rfl, World.ownsRow_nil _ _ _ _, rfl, Ch.refl _ _ _⟩
  case round =>
    obtain ⟨k, ps, hk, rfl, hown, hps, hC⟩ := hrel
    have hpl : ps.length ≤ 40 := by
      have h1 := congrArg List.length hps
      have h2 := Lay.parts_len L
      rw [List.length_append] at h1
      omega
    have HO := Lib.hid hown
    have HP := Lib.hid hps
    have HC := Lib.hid hC
    have hBs : B ≤ wr.heap.size := by have := hC.size; omega
    have HB := Lib.hid hBs
    clear hown hps hC hB hBs
    by_cases hlt : k < L.length
    · have step : ∀ n, Lay.fw (L.drop k) = n → 1 ≤ n ∧ k + n ≤ L.length ∧ Lay.parts (L.drop k) = (L.drop k).take n :: Lay.parts (L.drop (k + n)) := fun n h => ⟨(Lay.fw_at hlt h).1, (Lay.fw_at hlt h).2, Lay.parts_at hlt h⟩
      have HS := Lib.hid step
      have x4 := dext_mid' L k 4
      have x2 := dext_mid' L k 2
      have x1 := dext_mid' L k 1
      have t4 : ¬ k + 4 ≤ L.length → ¬ (L.drop k).take 4 = [89, 89, 89, 89] := fun h q => by
        have := congrArg List.length q
        rw [List.length_take, List.length_drop] at this
        simp at this
        omega
      have t2 : ∀ x y : UInt8, ¬ k + 2 ≤ L.length → ¬ (L.drop k).take 2 = [x, y] := fun x y h q => by
        have := congrArg List.length q
        rw [List.length_take, List.length_drop] at this
        simp at this
        omega
      have T4 := Lib.hid t4
      have T2 := Lib.hid t2
      obtain ⟨D, hD⟩ : ∃ D, L.drop k = D := ⟨_, rfl⟩
      rw [hD] at x4 x2 x1 HS T4 T2
      have HDK := Lib.hid hD
      clear step t4 t2 hD
      obtain ⟨A4, hA4⟩ : ∃ A, D.take 4 = A := ⟨_, rfl⟩
      obtain ⟨A2, hA2⟩ : ∃ A, D.take 2 = A := ⟨_, rfl⟩
      obtain ⟨A1, hA1⟩ : ∃ A, D.take 1 = A := ⟨_, rfl⟩
      rw [hA4] at x4 T4
      rw [hA2] at x2 T2
      rw [hA1] at x1
      have F4 := Lib.hid (fun h : A4 = [89, 89, 89, 89] => Lay.fw4 (hA4.trans h))
      have F2 := Lib.hid (fun (h : ¬ A4 = [89, 89, 89, 89]) (h2 : A2 = [77, 77] ∨ A2 = [68, 68]) => Lay.fw2 (l := D) (by rw [hA4]; exact h) (by rw [hA2]; exact h2))
      have F1 := Lib.hid (fun (h : ¬ A4 = [89, 89, 89, 89]) (h2 : ¬ A2 = [77, 77]) (h3 : ¬ A2 = [68, 68]) => Lay.fw1 (l := D) (by rw [hA4]; exact h) (by rw [hA2]; exact h2) (by rw [hA2]; exact h3))
      have HA4 := Lib.hid hA4
      have HA2 := Lib.hid hA2
      have HA1 := Lib.hid hA1
      clear hA4 hA2 hA1
      by_cases hY : A4 = [89, 89, 89, 89]
      · subst hY
        have hk4 : k + 4 ≤ L.length := Classical.byContradiction fun h => T4.out h rfl
        obtain ⟨s1, s2, s3⟩ := HS.out 4 (F4.out rfl)
        rw [HA4.out] at s3
        have HW := Lib.hid s3
        clear s1 s3
        go_wp2_with (at_builtin; refine wpList_append_own _ rfl _ _ 28 rfl B 9 i0 (.string ⟨#[]⟩) 1 16 Tryd.underlying28 hi hz0 hz1 hz2 rfl (by decide) _ ps.length (ps.map S) rfl (HO.out.alloc _) ⟨wr.heap.size, 0, none⟩ 1 1 [S [89, 89, 89, 89]] rfl rfl (dcell_str wr _) one_str (by unfold maxLen; omega) (by omega) (by have := HB.out; simp; omega) ?_; intro v' w1 hown' hgr hnil)
        have HO1 := Lib.hid hown'
        have HG1 := Lib.hid hgr
        clear hown' hgr hnil
        go_wp2_with fail
        go_roundw
        case rel =>
          refine ⟨k + 4, ps ++ [[89, 89, 89, 89]], s2, by go_num, by have := HO1.out; simpa using this, ?_, ?_⟩
          · rw [List.append_assoc, ← HP.out, HDK.out, HW.out]; rfl
          · exact (HC.out.alloc HB.out _).trans (ch_grown_own (by have := HB.out; simp; omega) (HO.out.alloc _) HG1.out)
        case measure => simp [intOf]; omega
      · skip
        have HY := Lib.hid hY
        have Yb : (A4 == ([89, 89, 89, 89] : List UInt8)) = false := beq_eq_false_iff_ne.2 hY
        have Ya : ¬ A4.toArray = #[89, 89, 89, 89] := fun q => HY.out (by have := congrArg Array.toList q; simpa using this)
        clear hY
        by_cases hM : A2 = [77, 77]
        · skip
          subst hM
          have hk2 : k + 2 ≤ L.length := Classical.byContradiction fun h => T2.out 77 77 h rfl
          by_cases hk4 : k + 4 ≤ L.length
          · skip
            obtain ⟨s1, s2, s3⟩ := HS.out 2 (F2.out HY.out (.inl rfl))
            rw [HA2.out] at s3
            have HW := Lib.hid s3
            clear s1 s3
            go_wp2_with (at_builtin; refine wpList_append_own _ rfl _ _ 28 rfl B 9 i0 (.string ⟨#[]⟩) 1 16 Tryd.underlying28 hi hz0 hz1 hz2 rfl (by decide) _ ps.length (ps.map S) rfl (HO.out.alloc _) ⟨wr.heap.size, 0, none⟩ 1 1 [S [77, 77]] rfl rfl (dcell_str wr _) one_str (by unfold maxLen; omega) (by omega) (by have := HB.out; simp; omega) ?_; intro v' w1 hown' hgr hnil)
            have HO1 := Lib.hid hown'
            have HG1 := Lib.hid hgr
            clear hown' hgr hnil
            go_wp2_with fail
            go_roundw
            case rel =>
              refine ⟨k + 2, ps ++ [[77, 77]], s2, by go_num, by have := HO1.out; simpa using this, ?_, ?_⟩
              · rw [List.append_assoc, ← HP.out, HDK.out, HW.out]; rfl
              · exact (HC.out.alloc HB.out _).trans (ch_grown_own (by have := HB.out; simp; omega) (HO.out.alloc _) HG1.out)
            case measure => simp [intOf]; omega
          · skip
            obtain ⟨s1, s2, s3⟩ := HS.out 2 (F2.out HY.out (.inl rfl))
            rw [HA2.out] at s3
            have HW := Lib.hid s3
            clear s1 s3
            go_wp2_with (at_builtin; refine wpList_append_own _ rfl _ _ 28 rfl B 9 i0 (.string ⟨#[]⟩) 1 16 Tryd.underlying28 hi hz0 hz1 hz2 rfl (by decide) _ ps.length (ps.map S) rfl (HO.out.alloc _) ⟨wr.heap.size, 0, none⟩ 1 1 [S [77, 77]] rfl rfl (dcell_str wr _) one_str (by unfold maxLen; omega) (by omega) (by have := HB.out; simp; omega) ?_; intro v' w1 hown' hgr hnil)
            have HO1 := Lib.hid hown'
            have HG1 := Lib.hid hgr
            clear hown' hgr hnil
            go_wp2_with fail
            go_roundw
            case rel =>
              refine ⟨k + 2, ps ++ [[77, 77]], s2, by go_num, by have := HO1.out; simpa using this, ?_, ?_⟩
              · rw [List.append_assoc, ← HP.out, HDK.out, HW.out]; rfl
              · exact (HC.out.alloc HB.out _).trans (ch_grown_own (by have := HB.out; simp; omega) (HO.out.alloc _) HG1.out)
            case measure => simp [intOf]; omega
        · skip
          have HM := Lib.hid hM
          have Mb : (A2 == ([77, 77] : List UInt8)) = false := beq_eq_false_iff_ne.2 hM
          have Ma : ¬ A2.toArray = #[77, 77] := fun q => HM.out (by have := congrArg Array.toList q; simpa using this)
          clear hM
          by_cases hD : A2 = [68, 68]
          · skip
            subst hD
            have hk2 : k + 2 ≤ L.length := Classical.byContradiction fun h => T2.out 68 68 h rfl
            by_cases hk4 : k + 4 ≤ L.length
            · skip
              obtain ⟨s1, s2, s3⟩ := HS.out 2 (F2.out HY.out (.inr rfl))
              rw [HA2.out] at s3
              have HW := Lib.hid s3
              clear s1 s3
              go_wp2_with (at_builtin; refine wpList_append_own _ rfl _ _ 28 rfl B 9 i0 (.string ⟨#[]⟩) 1 16 Tryd.underlying28 hi hz0 hz1 hz2 rfl (by decide) _ ps.length (ps.map S) rfl (HO.out.alloc _) ⟨wr.heap.size, 0, none⟩ 1 1 [S [68, 68]] rfl rfl (dcell_str wr _) one_str (by unfold maxLen; omega) (by omega) (by have := HB.out; simp; omega) ?_; intro v' w1 hown' hgr hnil)
              have HO1 := Lib.hid hown'
              have HG1 := Lib.hid hgr
              clear hown' hgr hnil
              go_wp2_with fail
              go_roundw
              case rel =>
                refine ⟨k + 2, ps ++ [[68, 68]], s2, by go_num, by have := HO1.out; simpa using this, ?_, ?_⟩
                · rw [List.append_assoc, ← HP.out, HDK.out, HW.out]; rfl
                · exact (HC.out.alloc HB.out _).trans (ch_grown_own (by have := HB.out; simp; omega) (HO.out.alloc _) HG1.out)
              case measure => simp [intOf]; omega
            · skip
              obtain ⟨s1, s2, s3⟩ := HS.out 2 (F2.out HY.out (.inr rfl))
              rw [HA2.out] at s3
              have HW := Lib.hid s3
              clear s1 s3
              go_wp2_with (at_builtin; refine wpList_append_own _ rfl _ _ 28 rfl B 9 i0 (.string ⟨#[]⟩) 1 16 Tryd.underlying28 hi hz0 hz1 hz2 rfl (by decide) _ ps.length (ps.map S) rfl (HO.out.alloc _) ⟨wr.heap.size, 0, none⟩ 1 1 [S [68, 68]] rfl rfl (dcell_str wr _) one_str (by unfold maxLen; omega) (by omega) (by have := HB.out; simp; omega) ?_; intro v' w1 hown' hgr hnil)
              have HO1 := Lib.hid hown'
              have HG1 := Lib.hid hgr
              clear hown' hgr hnil
              go_wp2_with fail
              go_roundw
              case rel =>
                refine ⟨k + 2, ps ++ [[68, 68]], s2, by go_num, by have := HO1.out; simpa using this, ?_, ?_⟩
                · rw [List.append_assoc, ← HP.out, HDK.out, HW.out]; rfl
                · exact (HC.out.alloc HB.out _).trans (ch_grown_own (by have := HB.out; simp; omega) (HO.out.alloc _) HG1.out)
              case measure => simp [intOf]; omega
          · skip
            have HD := Lib.hid hD
            have Db : (A2 == ([68, 68] : List UInt8)) = false := beq_eq_false_iff_ne.2 hD
            have Da : ¬ A2.toArray = #[68, 68] := fun q => HD.out (by have := congrArg Array.toList q; simpa using this)
            clear hD
            by_cases hk4 : k + 4 ≤ L.length
            · have hk2 : k + 2 ≤ L.length := by omega
              obtain ⟨s1, s2, s3⟩ := HS.out 1 (F1.out HY.out HM.out HD.out)
              rw [HA1.out] at s3
              have HW := Lib.hid s3
              clear s1 s3
              go_wp2_with (at_builtin; refine wpList_append_own _ rfl _ _ 28 rfl B 9 i0 (.string ⟨#[]⟩) 1 16 Tryd.underlying28 hi hz0 hz1 hz2 rfl (by decide) _ ps.length (ps.map S) rfl (HO.out.alloc _) ⟨wr.heap.size, 0, none⟩ 1 1 [S A1] rfl rfl (dcell_str wr _) one_str (by unfold maxLen; omega) (by omega) (by have := HB.out; simp; omega) ?_; intro v' w1 hown' hgr hnil)
              have HO1 := Lib.hid hown'
              have HG1 := Lib.hid hgr
              clear hown' hgr hnil
              go_wp2_with fail
              go_roundw
              case rel =>
                refine ⟨k + 1, ps ++ [A1], s2, by go_num, by have := HO1.out; simpa using this, ?_, ?_⟩
                · rw [List.append_assoc, ← HP.out, HDK.out, HW.out]; rfl
                · exact (HC.out.alloc HB.out _).trans (ch_grown_own (by have := HB.out; simp; omega) (HO.out.alloc _) HG1.out)
              case measure => simp [intOf]; omega
            · by_cases hk2 : k + 2 ≤ L.length
              · skip
                obtain ⟨s1, s2, s3⟩ := HS.out 1 (F1.out HY.out HM.out HD.out)
                rw [HA1.out] at s3
                have HW := Lib.hid s3
                clear s1 s3
                go_wp2_with (at_builtin; refine wpList_append_own _ rfl _ _ 28 rfl B 9 i0 (.string ⟨#[]⟩) 1 16 Tryd.underlying28 hi hz0 hz1 hz2 rfl (by decide) _ ps.length (ps.map S) rfl (HO.out.alloc _) ⟨wr.heap.size, 0, none⟩ 1 1 [S A1] rfl rfl (dcell_str wr _) one_str (by unfold maxLen; omega) (by omega) (by have := HB.out; simp; omega) ?_; intro v' w1 hown' hgr hnil)
                have HO1 := Lib.hid hown'
                have HG1 := Lib.hid hgr
                clear hown' hgr hnil
                go_wp2_with fail
                go_roundw
                case rel =>
                  refine ⟨k + 1, ps ++ [A1], s2, by go_num, by have := HO1.out; simpa using this, ?_, ?_⟩
                  · rw [List.append_assoc, ← HP.out, HDK.out, HW.out]; rfl
                  · exact (HC.out.alloc HB.out _).trans (ch_grown_own (by have := HB.out; simp; omega) (HO.out.alloc _) HG1.out)
                case measure => simp [intOf]; omega
              · skip
                obtain ⟨s1, s2, s3⟩ := HS.out 1 (F1.out HY.out HM.out HD.out)
                rw [HA1.out] at s3
                have HW := Lib.hid s3
                clear s1 s3
                go_wp2_with (at_builtin; refine wpList_append_own _ rfl _ _ 28 rfl B 9 i0 (.string ⟨#[]⟩) 1 16 Tryd.underlying28 hi hz0 hz1 hz2 rfl (by decide) _ ps.length (ps.map S) rfl (HO.out.alloc _) ⟨wr.heap.size, 0, none⟩ 1 1 [S A1] rfl rfl (dcell_str wr _) one_str (by unfold maxLen; omega) (by omega) (by have := HB.out; simp; omega) ?_; intro v' w1 hown' hgr hnil)
                have HO1 := Lib.hid hown'
                have HG1 := Lib.hid hgr
                clear hown' hgr hnil
                go_wp2_with fail
                go_roundw
                case rel =>
                  refine ⟨k + 1, ps ++ [A1], s2, by go_num, by have := HO1.out; simpa using this, ?_, ?_⟩
                  · rw [List.append_assoc, ← HP.out, HDK.out, HW.out]; rfl
                  · exact (HC.out.alloc HB.out _).trans (ch_grown_own (by have := HB.out; simp; omega) (HO.out.alloc _) HG1.out)
                case measure => simp [intOf]; omega
    · obtain rfl : k = L.length := by omega
      have HF := Lib.hid (show ps = Lay.parts L by have := HP.out; rw [List.drop_length, Lay.parts_nil, List.append_nil] at this; exact this)
      go_wp2_with fail
      go_ret
      exact ⟨⟨_, rfl, by rw [← HF.out, HBE.out]; exact sl_of_own HO.out rfl⟩, by rw [HBE.out]; exact HC.out⟩
end Go.Proofs.YtehgkpbjbkeoeaaDoor
