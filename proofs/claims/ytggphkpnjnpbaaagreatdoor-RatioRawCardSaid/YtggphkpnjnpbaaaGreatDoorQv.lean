/- The reference model of layer 2: Parse. -/
import Derived.Test.YtggphkpnjnpbaaaGreatDoorQu
namespace Go.Proofs.YtggphkpnjnpbaaaGreatDoor
open Go.RowKit
theorem decR_is {s rs a b : List UInt8} {ng f : Bool} (h1 : Lib.hasPrefix s [45] = ng) (h2 : Lib.trimPrefix s [45] = rs) (h3 : cutS rs = (a, b, f)) :
    decR s = if decB a = true then if f = true then if decB b = true ∧ nb (dcv b) ≠ [1] then chk (ng, nb (dcv a), nb (dcv b)) else none else chk (ng, nb (dcv a), [1]) else none := by
  unfold decR
  rw [h1, h2]
  simp only [h3]
/-- The parts of what is read: its sign, and what its two halves are read as. -/
structure Cutd (s : List UInt8) (ng : Bool) (a d : List UInt8) : Prop where
  no : decB a = false ∨ decB d = false ∨ nb (dcv d) = [] → decR s = none
  yes : decB a = true → decB d = true → ∀ t, decR s = some t → t = (ng, nb (dcv a), nb (dcv d))
theorem one_dec : decB [49] = true ∧ nb (dcv [49]) = [1] := ⟨by decide, by rw [show dcv [49] = 1 from by decide]; exact nb_one⟩
theorem chk_t {t u : T3} (h : chk t = some u) : u = t := by
  unfold chk at h
  split at h
  · exact (Option.some.inj h).symm
  · simp at h
theorem cutd_no {s rs : List UInt8} {ng : Bool} (h1 : Lib.hasPrefix s [45] = ng) (h2 : Lib.trimPrefix s [45] = rs) (h3 : ∀ b ∈ rs, b ≠ 47) : Cutd s ng rs [49] := by
  have h := decR_is h1 h2 (cutS_no rs h3)
  refine ⟨fun hn => ?_, fun ha _ t ht => ?_⟩
  · rcases hn with hn | hn | hn
    · rw [h, hn]; rfl
    · rw [one_dec.1] at hn; simp at hn
    · rw [one_dec.2] at hn; simp at hn
  · rw [h, if_pos ha, if_neg (by simp)] at ht
    rw [one_dec.2]
    exact chk_t ht
theorem cutd_at {s rs : List UInt8} {ng : Bool} {k : Nat} (h1 : Lib.hasPrefix s [45] = ng) (h2 : Lib.trimPrefix s [45] = rs) (h3 : ∀ b ∈ rs.take k, b ≠ 47) (hk : k < rs.length) (h4 : rs[k] = 47) : Cutd s ng (rs.take k) (rs.drop (k + 1)) := by
  have hj : rs = rs.take k ++ 47 :: rs.drop (k + 1) := by
    rw [← h4, ← List.drop_eq_getElem_cons hk, List.take_append_drop]
  have hc : cutS rs = (rs.take k, rs.drop (k + 1), true) := by
    conv => lhs; rw [hj]
    exact cutS_at _ _ h3
  have h := decR_is h1 h2 hc
  refine ⟨fun hn => ?_, fun ha hd t ht => ?_⟩
  · rcases hn with hn | hn | hn
    · rw [h, hn]; rfl
    · rw [h, hn]
      split
      · rfl
      · rfl
    · rw [h, hn]
      split
      · rw [if_pos rfl]
        split
        · unfold chk
          rw [if_neg]
          intro hr
          exact ((rightR_iff _ _ _).1 hr).2.2.1 rfl
        · rfl
      · rfl
  · rw [h, if_pos ha, if_pos rfl] at ht
    split at ht
    · exact chk_t ht
    · simp at ht
theorem Cutd.some {s a d : List UInt8} {ng : Bool} (h : Cutd s ng a d) (ha : decB a = true) (hd : decB d = true) {q : Rat} (hq : mq ng (bv (nb (dcv a))) (bv (nb (dcv d))) = q) (hne : rtx (pt q) ≠ s) : decR s = none := by
  cases ht : decR s with
  | none => rfl
  | some t =>
    have h1 := h.yes ha hd t ht
    obtain ⟨h2, h3⟩ := rtx_dec s t ht
    exfalso
    apply hne
    have h4 := pt_of (rightR_is h2)
    unfold ratOf at h4
    rw [if_pos h2, h1] at h4
    simp only at h4
    rw [hq] at h4
    rw [h4, ← h1]
    exact h3
theorem ext_take (l : List UInt8) (k : Nat) : (ByteArray.mk l.toArray).extract 0 k = ⟨(l.take k).toArray⟩ := by
  apply ByteArray.ext
  simp [ByteArray.data_extract]
set_option maxRecDepth 100000 in
set_option maxHeartbeats 3200000 in
theorem rParse_1 (s rs : List UInt8) (ng : Bool) (hs : s.length ≤ 300) (hp : Lib.hasPrefix s [45] = ng) (ht : Lib.trimPrefix s [45] = rs) (h0 : s = 45 :: rs) (hng : ng = true) (w : World) : Calls Tryz.prog 36 #[S s] w (Yld w (pans (decR s))) := by
  have HB := Lib.hid (Box.one w #[.bool false, S [], S []])
  obtain ⟨B, hB⟩ : ∃ B, w.heap.size = B := ⟨_, rfl⟩
  rw [hB] at HB
  have HP := Lib.hid hp
  have HT2 := Lib.hid ht
  have hlr : rs.length ≤ 300 := by rw [h0] at hs; simp at hs; omega
  obtain ⟨ans, hans⟩ : ∃ v, pans (decR s) = v := ⟨_, rfl⟩
  rw [hans]
  have HS := Lib.hid hans
  clear hans hp ht
  have hg0 : ∀ h', (ByteArray.mk s.toArray)[0]'h' = 45 := by rw [h0]; exact fun _ => rfl
  have hsl : 0 < s.length := by rw [h0]; simp
  have x0 : (ByteArray.mk s.toArray).extract 1 s.length = ⟨rs.toArray⟩ := by rw [ext_drop s 1 s.length rfl, h0]; rfl
  have hsl1 : ¬ s.length = 0 := by omega
  clear h0
  subst hng
  go_enter Tryz.func36, Tryz.ntmps36
  go_wp2_with fail
  go_loop [6, 7, 8] (fun x y i => ∃ k : Nat, k ≤ rs.length ∧ x = S rs ∧ y = S [49] ∧ i = .int .i64 k ∧ ∀ b ∈ rs.take k, b ≠ 47) (fun _ _ i => rs.length - (intOf i).toNat)
  case atStart => exact ⟨0, Nat.zero_le _, rfl, rfl, rfl, fun b hb => by simp at hb⟩
  case round =>
    obtain ⟨k, hk, rfl, rfl, rfl, hno⟩ := hrel
    by_cases hlt : k < rs.length
    · obtain ⟨c, hc⟩ : ∃ c, rs[k] = c := ⟨_, rfl⟩
      have hg : ∀ h', (ByteArray.mk rs.toArray)[k]'h' = c := fun _ => hc
      by_cases h47 : c = 47
      · have HCU := Lib.hid (cutd_at HP.out HT2.out hno hlt (hc.trans h47))
        have hcn : (c.toNat : Int) = 47 := by rw [h47]; rfl
        have x1 := ext_take rs k
        have x2 := ext_drop rs (k + 1) rs.length rfl
        have lA : (rs.take k).length ≤ rs.length := by rw [List.length_take]; omega
        have lD : (rs.drop (k + 1)).length ≤ rs.length := by rw [List.length_drop]; omega
        obtain ⟨A, hA⟩ : ∃ A, rs.take k = A := ⟨_, rfl⟩
        obtain ⟨Dn, hDn⟩ : ∃ Dn, rs.drop (k + 1) = Dn := ⟨_, rfl⟩
        rw [hA] at HCU x1 lA
        rw [hDn] at HCU x2 lD
        clear hA hDn h47 hc hno
        have H3 := Lib.hid (fun w => rparse_any A w (by omega))
        have H4 := Lib.hid (fun w => rparse_any Dn w (by omega))
        cases hda : decB A with
        | false =>
          have HN := Lib.hid (HCU.out.no (.inl hda))
          rw [hda] at H3
          obtain ⟨o, ho⟩ : ∃ o, (if decB Dn = true then nb (dcv Dn) else []) = o := ⟨_, rfl⟩
          obtain ⟨ok, hok⟩ : ∃ ok, decB Dn = ok := ⟨_, rfl⟩
          rw [ho, hok] at H4
          simp only [Bool.false_eq_true, if_false] at H3
          clear hda ho hok
          go_wp2_with fail
          refine (H3.out _).mono ?_
          rintro e w3 ⟨rfl, hC⟩
          have HB2 := Lib.hid (HB.out.on hC)
          clear hC HB 
          have HB := HB2
          clear HB2
          go_wp2_with fail
          refine (H4.out _).mono ?_
          rintro e w4 ⟨rfl, hC⟩
          have HB2 := Lib.hid (HB.out.on hC)
          clear hC HB 
          have HB := HB2
          clear HB2
          have hs := HS.out
          rw [HN.out] at hs
          have hs' : Value.tuple #[Rv false [] [], .bool false] = ans := hs
          subst hs'
          clear hs HS
          obtain ⟨e0, e1, e2, f0, f1, f2⟩ := HB.out.store0
          go_wp2_with fail
          have hp := HB.out.put (i := 0) rfl (.bool false) (S []) (S [])
          refine bodyPost_ret (results_cell_row_tmp (P := Tryz.prog) rfl _ _ B 24 _ (0, 0) _ rfl hp.1 Tryz.underlying24 rfl (by kernel_rfl)) rfl ?_
          exact ⟨rfl, hp.2⟩
        | true =>
          rw [hda] at H3
          simp only [if_true] at H3
          have hna := dcv_b A hda
          obtain ⟨n, hn⟩ : ∃ n, nb (dcv A) = n := ⟨_, rfl⟩
          rw [hn] at H3 hna
          cases hdd : decB Dn with
          | false =>
            have HN := Lib.hid (HCU.out.no (.inr (.inl hdd)))
            rw [hdd] at H4
            simp only [Bool.false_eq_true, if_false] at H4
            clear hda hdd hn
            go_wp2_with fail
            refine (H3.out _).mono ?_
            rintro e w3 ⟨rfl, hC⟩
            have HB2 := Lib.hid (HB.out.on hC)
            clear hC HB 
            have HB := HB2
            clear HB2
            go_wp2_with fail
            refine (H4.out _).mono ?_
            rintro e w4 ⟨rfl, hC⟩
            have HB2 := Lib.hid (HB.out.on hC)
            clear hC HB 
            have HB := HB2
            clear HB2
            have hs := HS.out
            rw [HN.out] at hs
            have hs' : Value.tuple #[Rv false [] [], .bool false] = ans := hs
            subst hs'
            clear hs HS
            obtain ⟨e0, e1, e2, f0, f1, f2⟩ := HB.out.store0
            go_wp2_with fail
            have hp := HB.out.put (i := 0) rfl (.bool false) (S []) (S [])
            refine bodyPost_ret (results_cell_row_tmp (P := Tryz.prog) rfl _ _ B 24 _ (0, 0) _ rfl hp.1 Tryz.underlying24 rfl (by kernel_rfl)) rfl ?_
            exact ⟨rfl, hp.2⟩
          | true =>
            rw [hdd] at H4
            simp only [if_true] at H4
            have hnd := dcv_b Dn hdd
            have hcu := HCU.out
            obtain ⟨d, hd⟩ : ∃ d, nb (dcv Dn) = d := ⟨_, rfl⟩
            rw [hd] at H4 hnd
            have hrn : Rt n := hn ▸ rt_nb _
            have hrd : Rt d := hd ▸ rt_nb _
            by_cases hd0 : d = []
            · have HN := Lib.hid (hcu.no (.inr (.inr (hd.trans hd0))))
              have H5 := Lib.hid (C_rMake_no (s := true) (n := n) (d := d) (by omega) (by omega) (fun h => h.2.2 hd0))
              clear hcu hda hdd hn hd hrn hrd hd0
              go_wp2_with fail
              refine (H3.out _).mono ?_
              rintro e w3 ⟨rfl, hC⟩
              have HB2 := Lib.hid (HB.out.on hC)
              clear hC HB 
              have HB := HB2
              clear HB2
              go_wp2_with fail
              refine (H4.out _).mono ?_
              rintro e w4 ⟨rfl, hC⟩
              have HB2 := Lib.hid (HB.out.on hC)
              clear hC HB 
              have HB := HB2
              clear HB2
              go_wp2_with fail
              refine (H5.out _).mono ?_
              rintro e w5 ⟨rfl, hC⟩
              have HB2 := Lib.hid (HB.out.on hC)
              clear hC HB 
              have HB := HB2
              clear HB2
              have hs := HS.out
              rw [HN.out] at hs
              have hs' : Value.tuple #[Rv false [] [], .bool false] = ans := hs
              subst hs'
              clear hs HS
              have hal : ∀ o : Obj, Ch w5.heap.size none1 w5 (w5.alloc o) := fun o => (Ch.refl _ _ _).alloc (Nat.le_refl _) o
              have e0 : ∀ o : Obj, (w5.alloc o).cell? ⟨B, 0, none⟩ = some (.bool false) := fun o => (HB.out.on (hal o)).store0.1
              have e1 : ∀ o : Obj, (w5.alloc o).cell? ⟨B, 1, none⟩ = some (S []) := fun o => (HB.out.on (hal o)).store0.2.1
              have e2 : ∀ o : Obj, (w5.alloc o).cell? ⟨B, 2, none⟩ = some (S []) := fun o => (HB.out.on (hal o)).store0.2.2.1
              have f0 : ∀ o : Obj, (w5.alloc o).frozen? ⟨B, 0, none⟩ = false := fun o => (HB.out.on (hal o)).store0.2.2.2.1
              have f1 : ∀ o : Obj, (w5.alloc o).frozen? ⟨B, 1, none⟩ = false := fun o => (HB.out.on (hal o)).store0.2.2.2.2.1
              have f2 : ∀ o : Obj, (w5.alloc o).frozen? ⟨B, 2, none⟩ = false := fun o => (HB.out.on (hal o)).store0.2.2.2.2.2
              have HAL := Lib.hid hal
              clear hal
              go_wp2_with fail
              have hp := (HB.out.on (HAL.out (.cells #[.bool false, S [], S []] 24 (0, 0)))).put (i := 0) rfl (.bool false) (S []) (S [])
              refine bodyPost_ret (results_cell_row_tmp (P := Tryz.prog) rfl _ _ B 24 _ (0, 0) _ rfl hp.1 Tryz.underlying24 rfl (by kernel_rfl)) rfl ?_
              exact ⟨rfl, hp.2⟩
            · obtain ⟨q, hq⟩ : ∃ q, mq true (bv n) (bv d) = q := ⟨_, rfl⟩
              have hnone : rtx (pt q) ≠ s → decR s = none := hcu.some hda hdd (by rw [hn, hd]; exact hq)
              have hsome : rtx (pt q) = s → decR s = some (pt q) := fun h => by
                rw [← h]
                exact dec_rtx _ (rightR_of (pt_is q))
              obtain ⟨M, hM⟩ : ∃ M, M = 300 := ⟨_, rfl⟩
              have hsz : Szq q M := hq ▸ Szq.mq (by have := rt_pos hrd hd0; omega) (bv_b (by omega)) (bv_b (by omega))
              obtain ⟨lq1, lq2⟩ := hsz.len (pt_is q)
              have H5 := Lib.hid (C_rMake (s := true) (n := n) (d := d) (by omega) (by omega) hrn hrd hd0 (r := (pt q).1) (k := (pt q).2.1) (f := (pt q).2.2) (by rw [hq]; exact pt_is q))
              obtain ⟨tx, htx⟩ : ∃ tx, rtx (pt q) = tx := ⟨_, rfl⟩
              have H6 := Lib.hid (C_rText (s := (pt q).1) (n := (pt q).2.1) (d := (pt q).2.2) (by omega) (by omega) (rof_pt q) htx)
              rw [htx] at hnone hsome
              obtain ⟨⟨s1, n1, d1⟩, hpq⟩ : ∃ t, pt q = t := ⟨_, rfl⟩
              rw [hpq] at H5 H6 hsome
              simp only at H5 H6
              have HNONE := Lib.hid hnone
              have HSOME := Lib.hid hsome
              clear hnone hsome hsz lq1 lq2 hM M htx hpq hq hcu hda hdd hn hd hrn hrd hd0
              go_wp2_with fail
              refine (H3.out _).mono ?_
              rintro e w3 ⟨rfl, hC⟩
              have HB2 := Lib.hid (HB.out.on hC)
              clear hC HB 
              have HB := HB2
              clear HB2
              go_wp2_with fail
              refine (H4.out _).mono ?_
              rintro e w4 ⟨rfl, hC⟩
              have HB2 := Lib.hid (HB.out.on hC)
              clear hC HB 
              have HB := HB2
              clear HB2
              go_wp2_with fail
              refine (H5.out _).mono ?_
              rintro e w5 ⟨rfl, hC⟩
              have HB2 := Lib.hid (HB.out.on hC)
              clear hC HB 
              have HB := HB2
              clear HB2
              go_wp2_with fail
              have hca : Ch w5.heap.size none1 w5 (w5.alloc (.cells #[.bool s1, S n1, S d1] 24 (0, 0))) := (Ch.refl _ _ _).alloc (Nat.le_refl _) _
              have HB2 := Lib.hid (HB.out.on hca)
              have hba : Blk (w5.alloc (.cells #[.bool s1, S n1, S d1] 24 (0, 0))) w5.heap.size 24 [.bool s1, S n1, S d1] := Blk.new _ _ _
              refine (H6.out _).mono ?_
              rintro e wz ⟨rfl, hC⟩
              have HB3 := Lib.hid (HB2.out.on hC)
              have hlt5 : w5.heap.size < (w5.alloc (.cells #[.bool s1, S n1, S d1] 24 (0, 0))).heap.size := by rw [World.size_alloc]; omega
              have hb3 := hC.blk hba hlt5 (fun q => q)
              have a0 : wz.cell? ⟨w5.heap.size, 0, none⟩ = some (.bool s1) := hb3.cell 0
              have a1 : wz.cell? ⟨w5.heap.size, 1, none⟩ = some (S n1) := hb3.cell 1
              have a2 : wz.cell? ⟨w5.heap.size, 2, none⟩ = some (S d1) := hb3.cell 2
              clear hC HB HB2 hca hba hlt5 hb3
              have HB := HB3
              clear HB3
              by_cases htx : tx = s
              · have HN := HSOME.out htx
                subst htx
                have hs := HS.out
                rw [HN] at hs
                have hs' : Value.tuple #[Rv s1 n1 d1, .bool true] = ans := hs
                subst hs'
                clear hs HS HN HSOME HNONE
                obtain ⟨e0, e1, e2, f0, f1, f2⟩ := HB.out.store0
                go_wp2_with fail
                have hp := HB.out.put (i := 0) rfl (.bool s1) (S n1) (S d1)
                refine bodyPost_ret (results_cell_row_tmp (P := Tryz.prog) rfl _ _ B 24 _ (0, 0) _ rfl hp.1 Tryz.underlying24 rfl (by kernel_rfl)) rfl ?_
                exact ⟨rfl, hp.2⟩
              · have HN := HNONE.out htx
                have e9 := beq_no htx
                have hs := HS.out
                rw [HN] at hs
                have hs' : Value.tuple #[Rv false [] [], .bool false] = ans := hs
                subst hs'
                clear hs HS HN HSOME HNONE htx
                obtain ⟨e0, e1, e2, f0, f1, f2⟩ := HB.out.store0
                go_wp2_with fail
                have hp := HB.out.put (i := 0) rfl (.bool false) (S []) (S [])
                refine bodyPost_ret (results_cell_row_tmp (P := Tryz.prog) rfl _ _ B 24 _ (0, 0) _ rfl hp.1 Tryz.underlying24 rfl (by kernel_rfl)) rfl ?_
                exact ⟨rfl, hp.2⟩

      · have hcn : ¬ c.toNat = 47 := fun e => h47 (UInt8.toNat_inj.1 (show c.toNat = (47 : UInt8).toNat from e))
        have hno2 : ∀ b ∈ rs.take (k + 1), b ≠ 47 := by
          intro b hb
          rw [List.take_succ_eq_append_getElem hlt, List.mem_append] at hb
          rcases hb with hb | hb
          · exact hno b hb
          · rw [List.mem_singleton] at hb
            rw [hb, hc]
            exact h47
        have HNO := Lib.hid hno2
        clear hno hno2 h47 hc
        go_wp2_with fail
        go_round
        case rel => exact ⟨k + 1, by omega, rfl, rfl, by go_num, HNO.out⟩
        case measure => simp [intOf]; omega
    · have hkn : k = rs.length := by omega
      subst hkn
      rw [List.take_of_length_le (Nat.le_refl _)] at hno
      have HCU := Lib.hid (cutd_no HP.out HT2.out hno)
      have lA : rs.length ≤ rs.length := Nat.le_refl _
      have lD : ([49] : List UInt8).length ≤ 1 := by decide
      clear hno
      have H3 := Lib.hid (fun w => rparse_any rs w (by omega))
      have H4 := Lib.hid (fun w => rparse_any [49] w (by omega))
      cases hda : decB rs with
      | false =>
        have HN := Lib.hid (HCU.out.no (.inl hda))
        rw [hda] at H3
        obtain ⟨o, ho⟩ : ∃ o, (if decB [49] = true then nb (dcv [49]) else []) = o := ⟨_, rfl⟩
        obtain ⟨ok, hok⟩ : ∃ ok, decB [49] = ok := ⟨_, rfl⟩
        rw [ho, hok] at H4
        simp only [Bool.false_eq_true, if_false] at H3
        clear hda ho hok
        go_wp2_with fail
        refine (H3.out _).mono ?_
        rintro e w3 ⟨rfl, hC⟩
        have HB2 := Lib.hid (HB.out.on hC)
        clear hC HB 
        have HB := HB2
        clear HB2
        go_wp2_with fail
        refine (H4.out _).mono ?_
        rintro e w4 ⟨rfl, hC⟩
        have HB2 := Lib.hid (HB.out.on hC)
        clear hC HB 
        have HB := HB2
        clear HB2
        have hs := HS.out
        rw [HN.out] at hs
        have hs' : Value.tuple #[Rv false [] [], .bool false] = ans := hs
        subst hs'
        clear hs HS
        obtain ⟨e0, e1, e2, f0, f1, f2⟩ := HB.out.store0
        go_wp2_with fail
        have hp := HB.out.put (i := 0) rfl (.bool false) (S []) (S [])
        refine bodyPost_ret (results_cell_row_tmp (P := Tryz.prog) rfl _ _ B 24 _ (0, 0) _ rfl hp.1 Tryz.underlying24 rfl (by kernel_rfl)) rfl ?_
        exact ⟨rfl, hp.2⟩
      | true =>
        rw [hda] at H3
        simp only [if_true] at H3
        have hna := dcv_b rs hda
        obtain ⟨n, hn⟩ : ∃ n, nb (dcv rs) = n := ⟨_, rfl⟩
        rw [hn] at H3 hna
        cases hdd : decB [49] with
        | false =>
          have HN := Lib.hid (HCU.out.no (.inr (.inl hdd)))
          rw [hdd] at H4
          simp only [Bool.false_eq_true, if_false] at H4
          clear hda hdd hn
          go_wp2_with fail
          refine (H3.out _).mono ?_
          rintro e w3 ⟨rfl, hC⟩
          have HB2 := Lib.hid (HB.out.on hC)
          clear hC HB 
          have HB := HB2
          clear HB2
          go_wp2_with fail
          refine (H4.out _).mono ?_
          rintro e w4 ⟨rfl, hC⟩
          have HB2 := Lib.hid (HB.out.on hC)
          clear hC HB 
          have HB := HB2
          clear HB2
          have hs := HS.out
          rw [HN.out] at hs
          have hs' : Value.tuple #[Rv false [] [], .bool false] = ans := hs
          subst hs'
          clear hs HS
          obtain ⟨e0, e1, e2, f0, f1, f2⟩ := HB.out.store0
          go_wp2_with fail
          have hp := HB.out.put (i := 0) rfl (.bool false) (S []) (S [])
          refine bodyPost_ret (results_cell_row_tmp (P := Tryz.prog) rfl _ _ B 24 _ (0, 0) _ rfl hp.1 Tryz.underlying24 rfl (by kernel_rfl)) rfl ?_
          exact ⟨rfl, hp.2⟩
        | true =>
          rw [hdd] at H4
          simp only [if_true] at H4
          have hnd := dcv_b [49] hdd
          have hcu := HCU.out
          obtain ⟨d, hd⟩ : ∃ d, nb (dcv [49]) = d := ⟨_, rfl⟩
          rw [hd] at H4 hnd
          have hrn : Rt n := hn ▸ rt_nb _
          have hrd : Rt d := hd ▸ rt_nb _
          by_cases hd0 : d = []
          · have HN := Lib.hid (hcu.no (.inr (.inr (hd.trans hd0))))
            have H5 := Lib.hid (C_rMake_no (s := true) (n := n) (d := d) (by omega) (by omega) (fun h => h.2.2 hd0))
            clear hcu hda hdd hn hd hrn hrd hd0
            go_wp2_with fail
            refine (H3.out _).mono ?_
            rintro e w3 ⟨rfl, hC⟩
            have HB2 := Lib.hid (HB.out.on hC)
            clear hC HB 
            have HB := HB2
            clear HB2
            go_wp2_with fail
            refine (H4.out _).mono ?_
            rintro e w4 ⟨rfl, hC⟩
            have HB2 := Lib.hid (HB.out.on hC)
            clear hC HB 
            have HB := HB2
            clear HB2
            go_wp2_with fail
            refine (H5.out _).mono ?_
            rintro e w5 ⟨rfl, hC⟩
            have HB2 := Lib.hid (HB.out.on hC)
            clear hC HB 
            have HB := HB2
            clear HB2
            have hs := HS.out
            rw [HN.out] at hs
            have hs' : Value.tuple #[Rv false [] [], .bool false] = ans := hs
            subst hs'
            clear hs HS
            have hal : ∀ o : Obj, Ch w5.heap.size none1 w5 (w5.alloc o) := fun o => (Ch.refl _ _ _).alloc (Nat.le_refl _) o
            have e0 : ∀ o : Obj, (w5.alloc o).cell? ⟨B, 0, none⟩ = some (.bool false) := fun o => (HB.out.on (hal o)).store0.1
            have e1 : ∀ o : Obj, (w5.alloc o).cell? ⟨B, 1, none⟩ = some (S []) := fun o => (HB.out.on (hal o)).store0.2.1
            have e2 : ∀ o : Obj, (w5.alloc o).cell? ⟨B, 2, none⟩ = some (S []) := fun o => (HB.out.on (hal o)).store0.2.2.1
            have f0 : ∀ o : Obj, (w5.alloc o).frozen? ⟨B, 0, none⟩ = false := fun o => (HB.out.on (hal o)).store0.2.2.2.1
            have f1 : ∀ o : Obj, (w5.alloc o).frozen? ⟨B, 1, none⟩ = false := fun o => (HB.out.on (hal o)).store0.2.2.2.2.1
            have f2 : ∀ o : Obj, (w5.alloc o).frozen? ⟨B, 2, none⟩ = false := fun o => (HB.out.on (hal o)).store0.2.2.2.2.2
            have HAL := Lib.hid hal
            clear hal
            go_wp2_with fail
            have hp := (HB.out.on (HAL.out (.cells #[.bool false, S [], S []] 24 (0, 0)))).put (i := 0) rfl (.bool false) (S []) (S [])
            refine bodyPost_ret (results_cell_row_tmp (P := Tryz.prog) rfl _ _ B 24 _ (0, 0) _ rfl hp.1 Tryz.underlying24 rfl (by kernel_rfl)) rfl ?_
            exact ⟨rfl, hp.2⟩
          · obtain ⟨q, hq⟩ : ∃ q, mq true (bv n) (bv d) = q := ⟨_, rfl⟩
            have hnone : rtx (pt q) ≠ s → decR s = none := hcu.some hda hdd (by rw [hn, hd]; exact hq)
            have hsome : rtx (pt q) = s → decR s = some (pt q) := fun h => by
              rw [← h]
              exact dec_rtx _ (rightR_of (pt_is q))
            obtain ⟨M, hM⟩ : ∃ M, M = 300 := ⟨_, rfl⟩
            have hsz : Szq q M := hq ▸ Szq.mq (by have := rt_pos hrd hd0; omega) (bv_b (by omega)) (bv_b (by omega))
            obtain ⟨lq1, lq2⟩ := hsz.len (pt_is q)
            have H5 := Lib.hid (C_rMake (s := true) (n := n) (d := d) (by omega) (by omega) hrn hrd hd0 (r := (pt q).1) (k := (pt q).2.1) (f := (pt q).2.2) (by rw [hq]; exact pt_is q))
            obtain ⟨tx, htx⟩ : ∃ tx, rtx (pt q) = tx := ⟨_, rfl⟩
            have H6 := Lib.hid (C_rText (s := (pt q).1) (n := (pt q).2.1) (d := (pt q).2.2) (by omega) (by omega) (rof_pt q) htx)
            rw [htx] at hnone hsome
            obtain ⟨⟨s1, n1, d1⟩, hpq⟩ : ∃ t, pt q = t := ⟨_, rfl⟩
            rw [hpq] at H5 H6 hsome
            simp only at H5 H6
            have HNONE := Lib.hid hnone
            have HSOME := Lib.hid hsome
            clear hnone hsome hsz lq1 lq2 hM M htx hpq hq hcu hda hdd hn hd hrn hrd hd0
            go_wp2_with fail
            refine (H3.out _).mono ?_
            rintro e w3 ⟨rfl, hC⟩
            have HB2 := Lib.hid (HB.out.on hC)
            clear hC HB 
            have HB := HB2
            clear HB2
            go_wp2_with fail
            refine (H4.out _).mono ?_
            rintro e w4 ⟨rfl, hC⟩
            have HB2 := Lib.hid (HB.out.on hC)
            clear hC HB 
            have HB := HB2
            clear HB2
            go_wp2_with fail
            refine (H5.out _).mono ?_
            rintro e w5 ⟨rfl, hC⟩
            have HB2 := Lib.hid (HB.out.on hC)
            clear hC HB 
            have HB := HB2
            clear HB2
            go_wp2_with fail
            have hca : Ch w5.heap.size none1 w5 (w5.alloc (.cells #[.bool s1, S n1, S d1] 24 (0, 0))) := (Ch.refl _ _ _).alloc (Nat.le_refl _) _
            have HB2 := Lib.hid (HB.out.on hca)
            have hba : Blk (w5.alloc (.cells #[.bool s1, S n1, S d1] 24 (0, 0))) w5.heap.size 24 [.bool s1, S n1, S d1] := Blk.new _ _ _
            refine (H6.out _).mono ?_
            rintro e wz ⟨rfl, hC⟩
            have HB3 := Lib.hid (HB2.out.on hC)
            have hlt5 : w5.heap.size < (w5.alloc (.cells #[.bool s1, S n1, S d1] 24 (0, 0))).heap.size := by rw [World.size_alloc]; omega
            have hb3 := hC.blk hba hlt5 (fun q => q)
            have a0 : wz.cell? ⟨w5.heap.size, 0, none⟩ = some (.bool s1) := hb3.cell 0
            have a1 : wz.cell? ⟨w5.heap.size, 1, none⟩ = some (S n1) := hb3.cell 1
            have a2 : wz.cell? ⟨w5.heap.size, 2, none⟩ = some (S d1) := hb3.cell 2
            clear hC HB HB2 hca hba hlt5 hb3
            have HB := HB3
            clear HB3
            by_cases htx : tx = s
            · have HN := HSOME.out htx
              subst htx
              have hs := HS.out
              rw [HN] at hs
              have hs' : Value.tuple #[Rv s1 n1 d1, .bool true] = ans := hs
              subst hs'
              clear hs HS HN HSOME HNONE
              obtain ⟨e0, e1, e2, f0, f1, f2⟩ := HB.out.store0
              go_wp2_with fail
              have hp := HB.out.put (i := 0) rfl (.bool s1) (S n1) (S d1)
              refine bodyPost_ret (results_cell_row_tmp (P := Tryz.prog) rfl _ _ B 24 _ (0, 0) _ rfl hp.1 Tryz.underlying24 rfl (by kernel_rfl)) rfl ?_
              exact ⟨rfl, hp.2⟩
            · have HN := HNONE.out htx
              have e9 := beq_no htx
              have hs := HS.out
              rw [HN] at hs
              have hs' : Value.tuple #[Rv false [] [], .bool false] = ans := hs
              subst hs'
              clear hs HS HN HSOME HNONE htx
              obtain ⟨e0, e1, e2, f0, f1, f2⟩ := HB.out.store0
              go_wp2_with fail
              have hp := HB.out.put (i := 0) rfl (.bool false) (S []) (S [])
              refine bodyPost_ret (results_cell_row_tmp (P := Tryz.prog) rfl _ _ B 24 _ (0, 0) _ rfl hp.1 Tryz.underlying24 rfl (by kernel_rfl)) rfl ?_
              exact ⟨rfl, hp.2⟩
set_option maxRecDepth 100000 in
set_option maxHeartbeats 3200000 in
theorem rParse_2 (s : List UInt8) (c0 : UInt8) (m : List UInt8) (hs : s.length ≤ 300) (h0 : s = c0 :: m) (hc0 : c0 ≠ 45) (w : World) : Calls Tryz.prog 36 #[S s] w (Yld w (pans (decR s))) := by
  have HB := Lib.hid (Box.one w #[.bool false, S [], S []])
  obtain ⟨B, hB⟩ : ∃ B, w.heap.size = B := ⟨_, rfl⟩
  rw [hB] at HB
  obtain ⟨ans, hans⟩ : ∃ v, pans (decR s) = v := ⟨_, rfl⟩
  rw [hans]
  have HS := Lib.hid hans
  clear hans
  obtain ⟨hp, ht⟩ := pre_no s (by rw [h0]; simpa using hc0)
  have HP := Lib.hid hp
  have HT2 := Lib.hid ht
  have hlr : s.length ≤ 300 := hs
  have hg0 : ∀ h', (ByteArray.mk s.toArray)[0]'h' = c0 := by rw [h0]; exact fun _ => rfl
  have hsl : 0 < s.length := by rw [h0]; simp
  have hsl1 : ¬ s.length = 0 := by omega
  have hcn0 : ¬ c0.toNat = 45 := fun e => hc0 (UInt8.toNat_inj.1 (show c0.toNat = (45 : UInt8).toNat from e))
  clear hp ht h0 hc0
  go_enter Tryz.func36, Tryz.ntmps36
  go_wp2_with fail
  go_loop [6, 7, 8] (fun x y i => ∃ k : Nat, k ≤ s.length ∧ x = S s ∧ y = S [49] ∧ i = .int .i64 k ∧ ∀ b ∈ s.take k, b ≠ 47) (fun _ _ i => s.length - (intOf i).toNat)
  case atStart => exact ⟨0, Nat.zero_le _, rfl, rfl, rfl, fun b hb => by simp at hb⟩
  case round =>
    obtain ⟨k, hk, rfl, rfl, rfl, hno⟩ := hrel
    by_cases hlt : k < s.length
    · obtain ⟨c, hc⟩ : ∃ c, s[k] = c := ⟨_, rfl⟩
      have hg : ∀ h', (ByteArray.mk s.toArray)[k]'h' = c := fun _ => hc
      by_cases h47 : c = 47
      · have HCU := Lib.hid (cutd_at HP.out HT2.out hno hlt (hc.trans h47))
        have hcn : (c.toNat : Int) = 47 := by rw [h47]; rfl
        have x1 := ext_take s k
        have x2 := ext_drop s (k + 1) s.length rfl
        have lA : (s.take k).length ≤ s.length := by rw [List.length_take]; omega
        have lD : (s.drop (k + 1)).length ≤ s.length := by rw [List.length_drop]; omega
        obtain ⟨A, hA⟩ : ∃ A, s.take k = A := ⟨_, rfl⟩
        obtain ⟨Dn, hDn⟩ : ∃ Dn, s.drop (k + 1) = Dn := ⟨_, rfl⟩
        rw [hA] at HCU x1 lA
        rw [hDn] at HCU x2 lD
        clear hA hDn h47 hc hno
        have H3 := Lib.hid (fun w => rparse_any A w (by omega))
        have H4 := Lib.hid (fun w => rparse_any Dn w (by omega))
        cases hda : decB A with
        | false =>
          have HN := Lib.hid (HCU.out.no (.inl hda))
          rw [hda] at H3
          obtain ⟨o, ho⟩ : ∃ o, (if decB Dn = true then nb (dcv Dn) else []) = o := ⟨_, rfl⟩
          obtain ⟨ok, hok⟩ : ∃ ok, decB Dn = ok := ⟨_, rfl⟩
          rw [ho, hok] at H4
          simp only [Bool.false_eq_true, if_false] at H3
          clear hda ho hok
          go_wp2_with fail
          refine (H3.out _).mono ?_
          rintro e w3 ⟨rfl, hC⟩
          have HB2 := Lib.hid (HB.out.on hC)
          clear hC HB 
          have HB := HB2
          clear HB2
          go_wp2_with fail
          refine (H4.out _).mono ?_
          rintro e w4 ⟨rfl, hC⟩
          have HB2 := Lib.hid (HB.out.on hC)
          clear hC HB 
          have HB := HB2
          clear HB2
          have hs := HS.out
          rw [HN.out] at hs
          have hs' : Value.tuple #[Rv false [] [], .bool false] = ans := hs
          subst hs'
          clear hs HS
          obtain ⟨e0, e1, e2, f0, f1, f2⟩ := HB.out.store0
          go_wp2_with fail
          have hp := HB.out.put (i := 0) rfl (.bool false) (S []) (S [])
          refine bodyPost_ret (results_cell_row_tmp (P := Tryz.prog) rfl _ _ B 24 _ (0, 0) _ rfl hp.1 Tryz.underlying24 rfl (by kernel_rfl)) rfl ?_
          exact ⟨rfl, hp.2⟩
        | true =>
          rw [hda] at H3
          simp only [if_true] at H3
          have hna := dcv_b A hda
          obtain ⟨n, hn⟩ : ∃ n, nb (dcv A) = n := ⟨_, rfl⟩
          rw [hn] at H3 hna
          cases hdd : decB Dn with
          | false =>
            have HN := Lib.hid (HCU.out.no (.inr (.inl hdd)))
            rw [hdd] at H4
            simp only [Bool.false_eq_true, if_false] at H4
            clear hda hdd hn
            go_wp2_with fail
            refine (H3.out _).mono ?_
            rintro e w3 ⟨rfl, hC⟩
            have HB2 := Lib.hid (HB.out.on hC)
            clear hC HB 
            have HB := HB2
            clear HB2
            go_wp2_with fail
            refine (H4.out _).mono ?_
            rintro e w4 ⟨rfl, hC⟩
            have HB2 := Lib.hid (HB.out.on hC)
            clear hC HB 
            have HB := HB2
            clear HB2
            have hs := HS.out
            rw [HN.out] at hs
            have hs' : Value.tuple #[Rv false [] [], .bool false] = ans := hs
            subst hs'
            clear hs HS
            obtain ⟨e0, e1, e2, f0, f1, f2⟩ := HB.out.store0
            go_wp2_with fail
            have hp := HB.out.put (i := 0) rfl (.bool false) (S []) (S [])
            refine bodyPost_ret (results_cell_row_tmp (P := Tryz.prog) rfl _ _ B 24 _ (0, 0) _ rfl hp.1 Tryz.underlying24 rfl (by kernel_rfl)) rfl ?_
            exact ⟨rfl, hp.2⟩
          | true =>
            rw [hdd] at H4
            simp only [if_true] at H4
            have hnd := dcv_b Dn hdd
            have hcu := HCU.out
            obtain ⟨d, hd⟩ : ∃ d, nb (dcv Dn) = d := ⟨_, rfl⟩
            rw [hd] at H4 hnd
            have hrn : Rt n := hn ▸ rt_nb _
            have hrd : Rt d := hd ▸ rt_nb _
            by_cases hd0 : d = []
            · have HN := Lib.hid (hcu.no (.inr (.inr (hd.trans hd0))))
              have H5 := Lib.hid (C_rMake_no (s := false) (n := n) (d := d) (by omega) (by omega) (fun h => h.2.2 hd0))
              clear hcu hda hdd hn hd hrn hrd hd0
              go_wp2_with fail
              refine (H3.out _).mono ?_
              rintro e w3 ⟨rfl, hC⟩
              have HB2 := Lib.hid (HB.out.on hC)
              clear hC HB 
              have HB := HB2
              clear HB2
              go_wp2_with fail
              refine (H4.out _).mono ?_
              rintro e w4 ⟨rfl, hC⟩
              have HB2 := Lib.hid (HB.out.on hC)
              clear hC HB 
              have HB := HB2
              clear HB2
              go_wp2_with fail
              refine (H5.out _).mono ?_
              rintro e w5 ⟨rfl, hC⟩
              have HB2 := Lib.hid (HB.out.on hC)
              clear hC HB 
              have HB := HB2
              clear HB2
              have hs := HS.out
              rw [HN.out] at hs
              have hs' : Value.tuple #[Rv false [] [], .bool false] = ans := hs
              subst hs'
              clear hs HS
              have hal : ∀ o : Obj, Ch w5.heap.size none1 w5 (w5.alloc o) := fun o => (Ch.refl _ _ _).alloc (Nat.le_refl _) o
              have e0 : ∀ o : Obj, (w5.alloc o).cell? ⟨B, 0, none⟩ = some (.bool false) := fun o => (HB.out.on (hal o)).store0.1
              have e1 : ∀ o : Obj, (w5.alloc o).cell? ⟨B, 1, none⟩ = some (S []) := fun o => (HB.out.on (hal o)).store0.2.1
              have e2 : ∀ o : Obj, (w5.alloc o).cell? ⟨B, 2, none⟩ = some (S []) := fun o => (HB.out.on (hal o)).store0.2.2.1
              have f0 : ∀ o : Obj, (w5.alloc o).frozen? ⟨B, 0, none⟩ = false := fun o => (HB.out.on (hal o)).store0.2.2.2.1
              have f1 : ∀ o : Obj, (w5.alloc o).frozen? ⟨B, 1, none⟩ = false := fun o => (HB.out.on (hal o)).store0.2.2.2.2.1
              have f2 : ∀ o : Obj, (w5.alloc o).frozen? ⟨B, 2, none⟩ = false := fun o => (HB.out.on (hal o)).store0.2.2.2.2.2
              have HAL := Lib.hid hal
              clear hal
              go_wp2_with fail
              have hp := (HB.out.on (HAL.out (.cells #[.bool false, S [], S []] 24 (0, 0)))).put (i := 0) rfl (.bool false) (S []) (S [])
              refine bodyPost_ret (results_cell_row_tmp (P := Tryz.prog) rfl _ _ B 24 _ (0, 0) _ rfl hp.1 Tryz.underlying24 rfl (by kernel_rfl)) rfl ?_
              exact ⟨rfl, hp.2⟩
            · obtain ⟨q, hq⟩ : ∃ q, mq false (bv n) (bv d) = q := ⟨_, rfl⟩
              have hnone : rtx (pt q) ≠ s → decR s = none := hcu.some hda hdd (by rw [hn, hd]; exact hq)
              have hsome : rtx (pt q) = s → decR s = some (pt q) := fun h => by
                rw [← h]
                exact dec_rtx _ (rightR_of (pt_is q))
              obtain ⟨M, hM⟩ : ∃ M, M = 300 := ⟨_, rfl⟩
              have hsz : Szq q M := hq ▸ Szq.mq (by have := rt_pos hrd hd0; omega) (bv_b (by omega)) (bv_b (by omega))
              obtain ⟨lq1, lq2⟩ := hsz.len (pt_is q)
              have H5 := Lib.hid (C_rMake (s := false) (n := n) (d := d) (by omega) (by omega) hrn hrd hd0 (r := (pt q).1) (k := (pt q).2.1) (f := (pt q).2.2) (by rw [hq]; exact pt_is q))
              obtain ⟨tx, htx⟩ : ∃ tx, rtx (pt q) = tx := ⟨_, rfl⟩
              have H6 := Lib.hid (C_rText (s := (pt q).1) (n := (pt q).2.1) (d := (pt q).2.2) (by omega) (by omega) (rof_pt q) htx)
              rw [htx] at hnone hsome
              obtain ⟨⟨s1, n1, d1⟩, hpq⟩ : ∃ t, pt q = t := ⟨_, rfl⟩
              rw [hpq] at H5 H6 hsome
              simp only at H5 H6
              have HNONE := Lib.hid hnone
              have HSOME := Lib.hid hsome
              clear hnone hsome hsz lq1 lq2 hM M htx hpq hq hcu hda hdd hn hd hrn hrd hd0
              go_wp2_with fail
              refine (H3.out _).mono ?_
              rintro e w3 ⟨rfl, hC⟩
              have HB2 := Lib.hid (HB.out.on hC)
              clear hC HB 
              have HB := HB2
              clear HB2
              go_wp2_with fail
              refine (H4.out _).mono ?_
              rintro e w4 ⟨rfl, hC⟩
              have HB2 := Lib.hid (HB.out.on hC)
              clear hC HB 
              have HB := HB2
              clear HB2
              go_wp2_with fail
              refine (H5.out _).mono ?_
              rintro e w5 ⟨rfl, hC⟩
              have HB2 := Lib.hid (HB.out.on hC)
              clear hC HB 
              have HB := HB2
              clear HB2
              go_wp2_with fail
              have hca : Ch w5.heap.size none1 w5 (w5.alloc (.cells #[.bool s1, S n1, S d1] 24 (0, 0))) := (Ch.refl _ _ _).alloc (Nat.le_refl _) _
              have HB2 := Lib.hid (HB.out.on hca)
              have hba : Blk (w5.alloc (.cells #[.bool s1, S n1, S d1] 24 (0, 0))) w5.heap.size 24 [.bool s1, S n1, S d1] := Blk.new _ _ _
              refine (H6.out _).mono ?_
              rintro e wz ⟨rfl, hC⟩
              have HB3 := Lib.hid (HB2.out.on hC)
              have hlt5 : w5.heap.size < (w5.alloc (.cells #[.bool s1, S n1, S d1] 24 (0, 0))).heap.size := by rw [World.size_alloc]; omega
              have hb3 := hC.blk hba hlt5 (fun q => q)
              have a0 : wz.cell? ⟨w5.heap.size, 0, none⟩ = some (.bool s1) := hb3.cell 0
              have a1 : wz.cell? ⟨w5.heap.size, 1, none⟩ = some (S n1) := hb3.cell 1
              have a2 : wz.cell? ⟨w5.heap.size, 2, none⟩ = some (S d1) := hb3.cell 2
              clear hC HB HB2 hca hba hlt5 hb3
              have HB := HB3
              clear HB3
              by_cases htx : tx = s
              · have HN := HSOME.out htx
                subst htx
                have hs := HS.out
                rw [HN] at hs
                have hs' : Value.tuple #[Rv s1 n1 d1, .bool true] = ans := hs
                subst hs'
                clear hs HS HN HSOME HNONE
                obtain ⟨e0, e1, e2, f0, f1, f2⟩ := HB.out.store0
                go_wp2_with fail
                have hp := HB.out.put (i := 0) rfl (.bool s1) (S n1) (S d1)
                refine bodyPost_ret (results_cell_row_tmp (P := Tryz.prog) rfl _ _ B 24 _ (0, 0) _ rfl hp.1 Tryz.underlying24 rfl (by kernel_rfl)) rfl ?_
                exact ⟨rfl, hp.2⟩
              · have HN := HNONE.out htx
                have e9 := beq_no htx
                have hs := HS.out
                rw [HN] at hs
                have hs' : Value.tuple #[Rv false [] [], .bool false] = ans := hs
                subst hs'
                clear hs HS HN HSOME HNONE htx
                obtain ⟨e0, e1, e2, f0, f1, f2⟩ := HB.out.store0
                go_wp2_with fail
                have hp := HB.out.put (i := 0) rfl (.bool false) (S []) (S [])
                refine bodyPost_ret (results_cell_row_tmp (P := Tryz.prog) rfl _ _ B 24 _ (0, 0) _ rfl hp.1 Tryz.underlying24 rfl (by kernel_rfl)) rfl ?_
                exact ⟨rfl, hp.2⟩

      · have hcn : ¬ c.toNat = 47 := fun e => h47 (UInt8.toNat_inj.1 (show c.toNat = (47 : UInt8).toNat from e))
        have hno2 : ∀ b ∈ s.take (k + 1), b ≠ 47 := by
          intro b hb
          rw [List.take_succ_eq_append_getElem hlt, List.mem_append] at hb
          rcases hb with hb | hb
          · exact hno b hb
          · rw [List.mem_singleton] at hb
            rw [hb, hc]
            exact h47
        have HNO := Lib.hid hno2
        clear hno hno2 h47 hc
        go_wp2_with fail
        go_round
        case rel => exact ⟨k + 1, by omega, rfl, rfl, by go_num, HNO.out⟩
        case measure => simp [intOf]; omega
    · have hkn : k = s.length := by omega
      subst hkn
      rw [List.take_of_length_le (Nat.le_refl _)] at hno
      have HCU := Lib.hid (cutd_no HP.out HT2.out hno)
      have lA : s.length ≤ s.length := Nat.le_refl _
      have lD : ([49] : List UInt8).length ≤ 1 := by decide
      clear hno
      have H3 := Lib.hid (fun w => rparse_any s w (by omega))
      have H4 := Lib.hid (fun w => rparse_any [49] w (by omega))
      cases hda : decB s with
      | false =>
        have HN := Lib.hid (HCU.out.no (.inl hda))
        rw [hda] at H3
        obtain ⟨o, ho⟩ : ∃ o, (if decB [49] = true then nb (dcv [49]) else []) = o := ⟨_, rfl⟩
        obtain ⟨ok, hok⟩ : ∃ ok, decB [49] = ok := ⟨_, rfl⟩
        rw [ho, hok] at H4
        simp only [Bool.false_eq_true, if_false] at H3
        clear hda ho hok
        go_wp2_with fail
        refine (H3.out _).mono ?_
        rintro e w3 ⟨rfl, hC⟩
        have HB2 := Lib.hid (HB.out.on hC)
        clear hC HB 
        have HB := HB2
        clear HB2
        go_wp2_with fail
        refine (H4.out _).mono ?_
        rintro e w4 ⟨rfl, hC⟩
        have HB2 := Lib.hid (HB.out.on hC)
        clear hC HB 
        have HB := HB2
        clear HB2
        have hs := HS.out
        rw [HN.out] at hs
        have hs' : Value.tuple #[Rv false [] [], .bool false] = ans := hs
        subst hs'
        clear hs HS
        obtain ⟨e0, e1, e2, f0, f1, f2⟩ := HB.out.store0
        go_wp2_with fail
        have hp := HB.out.put (i := 0) rfl (.bool false) (S []) (S [])
        refine bodyPost_ret (results_cell_row_tmp (P := Tryz.prog) rfl _ _ B 24 _ (0, 0) _ rfl hp.1 Tryz.underlying24 rfl (by kernel_rfl)) rfl ?_
        exact ⟨rfl, hp.2⟩
      | true =>
        rw [hda] at H3
        simp only [if_true] at H3
        have hna := dcv_b s hda
        obtain ⟨n, hn⟩ : ∃ n, nb (dcv s) = n := ⟨_, rfl⟩
        rw [hn] at H3 hna
        cases hdd : decB [49] with
        | false =>
          have HN := Lib.hid (HCU.out.no (.inr (.inl hdd)))
          rw [hdd] at H4
          simp only [Bool.false_eq_true, if_false] at H4
          clear hda hdd hn
          go_wp2_with fail
          refine (H3.out _).mono ?_
          rintro e w3 ⟨rfl, hC⟩
          have HB2 := Lib.hid (HB.out.on hC)
          clear hC HB 
          have HB := HB2
          clear HB2
          go_wp2_with fail
          refine (H4.out _).mono ?_
          rintro e w4 ⟨rfl, hC⟩
          have HB2 := Lib.hid (HB.out.on hC)
          clear hC HB 
          have HB := HB2
          clear HB2
          have hs := HS.out
          rw [HN.out] at hs
          have hs' : Value.tuple #[Rv false [] [], .bool false] = ans := hs
          subst hs'
          clear hs HS
          obtain ⟨e0, e1, e2, f0, f1, f2⟩ := HB.out.store0
          go_wp2_with fail
          have hp := HB.out.put (i := 0) rfl (.bool false) (S []) (S [])
          refine bodyPost_ret (results_cell_row_tmp (P := Tryz.prog) rfl _ _ B 24 _ (0, 0) _ rfl hp.1 Tryz.underlying24 rfl (by kernel_rfl)) rfl ?_
          exact ⟨rfl, hp.2⟩
        | true =>
          rw [hdd] at H4
          simp only [if_true] at H4
          have hnd := dcv_b [49] hdd
          have hcu := HCU.out
          obtain ⟨d, hd⟩ : ∃ d, nb (dcv [49]) = d := ⟨_, rfl⟩
          rw [hd] at H4 hnd
          have hrn : Rt n := hn ▸ rt_nb _
          have hrd : Rt d := hd ▸ rt_nb _
          by_cases hd0 : d = []
          · have HN := Lib.hid (hcu.no (.inr (.inr (hd.trans hd0))))
            have H5 := Lib.hid (C_rMake_no (s := false) (n := n) (d := d) (by omega) (by omega) (fun h => h.2.2 hd0))
            clear hcu hda hdd hn hd hrn hrd hd0
            go_wp2_with fail
            refine (H3.out _).mono ?_
            rintro e w3 ⟨rfl, hC⟩
            have HB2 := Lib.hid (HB.out.on hC)
            clear hC HB 
            have HB := HB2
            clear HB2
            go_wp2_with fail
            refine (H4.out _).mono ?_
            rintro e w4 ⟨rfl, hC⟩
            have HB2 := Lib.hid (HB.out.on hC)
            clear hC HB 
            have HB := HB2
            clear HB2
            go_wp2_with fail
            refine (H5.out _).mono ?_
            rintro e w5 ⟨rfl, hC⟩
            have HB2 := Lib.hid (HB.out.on hC)
            clear hC HB 
            have HB := HB2
            clear HB2
            have hs := HS.out
            rw [HN.out] at hs
            have hs' : Value.tuple #[Rv false [] [], .bool false] = ans := hs
            subst hs'
            clear hs HS
            have hal : ∀ o : Obj, Ch w5.heap.size none1 w5 (w5.alloc o) := fun o => (Ch.refl _ _ _).alloc (Nat.le_refl _) o
            have e0 : ∀ o : Obj, (w5.alloc o).cell? ⟨B, 0, none⟩ = some (.bool false) := fun o => (HB.out.on (hal o)).store0.1
            have e1 : ∀ o : Obj, (w5.alloc o).cell? ⟨B, 1, none⟩ = some (S []) := fun o => (HB.out.on (hal o)).store0.2.1
            have e2 : ∀ o : Obj, (w5.alloc o).cell? ⟨B, 2, none⟩ = some (S []) := fun o => (HB.out.on (hal o)).store0.2.2.1
            have f0 : ∀ o : Obj, (w5.alloc o).frozen? ⟨B, 0, none⟩ = false := fun o => (HB.out.on (hal o)).store0.2.2.2.1
            have f1 : ∀ o : Obj, (w5.alloc o).frozen? ⟨B, 1, none⟩ = false := fun o => (HB.out.on (hal o)).store0.2.2.2.2.1
            have f2 : ∀ o : Obj, (w5.alloc o).frozen? ⟨B, 2, none⟩ = false := fun o => (HB.out.on (hal o)).store0.2.2.2.2.2
            have HAL := Lib.hid hal
            clear hal
            go_wp2_with fail
            have hp := (HB.out.on (HAL.out (.cells #[.bool false, S [], S []] 24 (0, 0)))).put (i := 0) rfl (.bool false) (S []) (S [])
            refine bodyPost_ret (results_cell_row_tmp (P := Tryz.prog) rfl _ _ B 24 _ (0, 0) _ rfl hp.1 Tryz.underlying24 rfl (by kernel_rfl)) rfl ?_
            exact ⟨rfl, hp.2⟩
          · obtain ⟨q, hq⟩ : ∃ q, mq false (bv n) (bv d) = q := ⟨_, rfl⟩
            have hnone : rtx (pt q) ≠ s → decR s = none := hcu.some hda hdd (by rw [hn, hd]; exact hq)
            have hsome : rtx (pt q) = s → decR s = some (pt q) := fun h => by
              rw [← h]
              exact dec_rtx _ (rightR_of (pt_is q))
            obtain ⟨M, hM⟩ : ∃ M, M = 300 := ⟨_, rfl⟩
            have hsz : Szq q M := hq ▸ Szq.mq (by have := rt_pos hrd hd0; omega) (bv_b (by omega)) (bv_b (by omega))
            obtain ⟨lq1, lq2⟩ := hsz.len (pt_is q)
            have H5 := Lib.hid (C_rMake (s := false) (n := n) (d := d) (by omega) (by omega) hrn hrd hd0 (r := (pt q).1) (k := (pt q).2.1) (f := (pt q).2.2) (by rw [hq]; exact pt_is q))
            obtain ⟨tx, htx⟩ : ∃ tx, rtx (pt q) = tx := ⟨_, rfl⟩
            have H6 := Lib.hid (C_rText (s := (pt q).1) (n := (pt q).2.1) (d := (pt q).2.2) (by omega) (by omega) (rof_pt q) htx)
            rw [htx] at hnone hsome
            obtain ⟨⟨s1, n1, d1⟩, hpq⟩ : ∃ t, pt q = t := ⟨_, rfl⟩
            rw [hpq] at H5 H6 hsome
            simp only at H5 H6
            have HNONE := Lib.hid hnone
            have HSOME := Lib.hid hsome
            clear hnone hsome hsz lq1 lq2 hM M htx hpq hq hcu hda hdd hn hd hrn hrd hd0
            go_wp2_with fail
            refine (H3.out _).mono ?_
            rintro e w3 ⟨rfl, hC⟩
            have HB2 := Lib.hid (HB.out.on hC)
            clear hC HB 
            have HB := HB2
            clear HB2
            go_wp2_with fail
            refine (H4.out _).mono ?_
            rintro e w4 ⟨rfl, hC⟩
            have HB2 := Lib.hid (HB.out.on hC)
            clear hC HB 
            have HB := HB2
            clear HB2
            go_wp2_with fail
            refine (H5.out _).mono ?_
            rintro e w5 ⟨rfl, hC⟩
            have HB2 := Lib.hid (HB.out.on hC)
            clear hC HB 
            have HB := HB2
            clear HB2
            go_wp2_with fail
            have hca : Ch w5.heap.size none1 w5 (w5.alloc (.cells #[.bool s1, S n1, S d1] 24 (0, 0))) := (Ch.refl _ _ _).alloc (Nat.le_refl _) _
            have HB2 := Lib.hid (HB.out.on hca)
            have hba : Blk (w5.alloc (.cells #[.bool s1, S n1, S d1] 24 (0, 0))) w5.heap.size 24 [.bool s1, S n1, S d1] := Blk.new _ _ _
            refine (H6.out _).mono ?_
            rintro e wz ⟨rfl, hC⟩
            have HB3 := Lib.hid (HB2.out.on hC)
            have hlt5 : w5.heap.size < (w5.alloc (.cells #[.bool s1, S n1, S d1] 24 (0, 0))).heap.size := by rw [World.size_alloc]; omega
            have hb3 := hC.blk hba hlt5 (fun q => q)
            have a0 : wz.cell? ⟨w5.heap.size, 0, none⟩ = some (.bool s1) := hb3.cell 0
            have a1 : wz.cell? ⟨w5.heap.size, 1, none⟩ = some (S n1) := hb3.cell 1
            have a2 : wz.cell? ⟨w5.heap.size, 2, none⟩ = some (S d1) := hb3.cell 2
            clear hC HB HB2 hca hba hlt5 hb3
            have HB := HB3
            clear HB3
            by_cases htx : tx = s
            · have HN := HSOME.out htx
              subst htx
              have hs := HS.out
              rw [HN] at hs
              have hs' : Value.tuple #[Rv s1 n1 d1, .bool true] = ans := hs
              subst hs'
              clear hs HS HN HSOME HNONE
              obtain ⟨e0, e1, e2, f0, f1, f2⟩ := HB.out.store0
              go_wp2_with fail
              have hp := HB.out.put (i := 0) rfl (.bool s1) (S n1) (S d1)
              refine bodyPost_ret (results_cell_row_tmp (P := Tryz.prog) rfl _ _ B 24 _ (0, 0) _ rfl hp.1 Tryz.underlying24 rfl (by kernel_rfl)) rfl ?_
              exact ⟨rfl, hp.2⟩
            · have HN := HNONE.out htx
              have e9 := beq_no htx
              have hs := HS.out
              rw [HN] at hs
              have hs' : Value.tuple #[Rv false [] [], .bool false] = ans := hs
              subst hs'
              clear hs HS HN HSOME HNONE htx
              obtain ⟨e0, e1, e2, f0, f1, f2⟩ := HB.out.store0
              go_wp2_with fail
              have hp := HB.out.put (i := 0) rfl (.bool false) (S []) (S [])
              refine bodyPost_ret (results_cell_row_tmp (P := Tryz.prog) rfl _ _ B 24 _ (0, 0) _ rfl hp.1 Tryz.underlying24 rfl (by kernel_rfl)) rfl ?_
              exact ⟨rfl, hp.2⟩
set_option maxRecDepth 100000 in
set_option maxHeartbeats 3200000 in
theorem rParse_3 (w : World) : Calls Tryz.prog 36 #[S []] w (Yld w (.tuple #[Rv false [] [], .bool false])) := by
  have HB := Lib.hid (Box.one w #[.bool false, S [], S []])
  obtain ⟨B, hB⟩ : ∃ B, w.heap.size = B := ⟨_, rfl⟩
  rw [hB] at HB
  have H3 := Lib.hid (fun w => rparse_any [] w (by decide))
  have H4 := Lib.hid (fun w => rparse_any [49] w (by decide))
  rw [show decB [] = false from rfl] at H3
  rw [one_dec.1, one_dec.2] at H4
  simp only [Bool.false_eq_true, if_false] at H3
  simp only [if_true] at H4
  go_enter Tryz.func36, Tryz.ntmps36
  go_wp2_with fail
  go_loop [6, 7, 8] (fun x y i => x = S [] ∧ y = S [49] ∧ i = .int .i64 0) (fun _ _ _ => 0)
  case atStart => exact ⟨rfl, rfl, rfl⟩
  case round =>
    obtain ⟨rfl, rfl, rfl⟩ := hrel
    go_wp2_with fail
    refine (H3.out _).mono ?_
    rintro e w3 ⟨rfl, hC⟩
    have HB2 := Lib.hid (HB.out.on hC)
    clear hC HB 
    have HB := HB2
    clear HB2
    go_wp2_with fail
    refine (H4.out _).mono ?_
    rintro e w4 ⟨rfl, hC⟩
    have HB2 := Lib.hid (HB.out.on hC)
    clear hC HB 
    have HB := HB2
    clear HB2
    obtain ⟨e0, e1, e2, f0, f1, f2⟩ := HB.out.store0
    go_wp2_with fail
    have hp := HB.out.put (i := 0) rfl (.bool false) (S []) (S [])
    refine bodyPost_ret (results_cell_row_tmp (P := Tryz.prog) rfl _ _ B 24 _ (0, 0) _ rfl hp.1 Tryz.underlying24 rfl (by kernel_rfl)) rfl ?_
    exact ⟨rfl, hp.2⟩
theorem C_rParse (s : List UInt8) (hs : s.length ≤ 300) : Ans 36 #[S s] (pans (decR s)) := fun w => by
  rcases s with _ | ⟨b, m⟩
  · have : decR [] = none := rfl
    rw [this]
    exact rParse_3 w
  · by_cases hb : b = 45
    · subst hb
      exact rParse_1 (45 :: m) m true hs (pre_cons m).1 (pre_cons m).2 rfl rfl w
    · exact rParse_2 (b :: m) b m hs rfl hb w
end Go.Proofs.YtggphkpnjnpbaaaGreatDoor
