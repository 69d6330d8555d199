/- Package ratio's Parse. -/
import Derived.Test.YtbpoghgokkpckaaGreatDoorQs
namespace Go.Proofs.YtbpoghgokkpckaaGreatDoor
open Go.RowKit
theorem C_cutp (s : List UInt8) : Ans 46 #[S s, S [45]] (.tuple #[S (Lib.trimPrefix s [45]), .bool (Lib.hasPrefix s [45])]) := fun w =>
  (Tryz.strings_CutPrefix ⟨s.toArray⟩ ⟨#[45]⟩ w).mono fun _ _ ⟨he, hw⟩ => ⟨he, by rw [hw]; exact Ch.refl _ _ _⟩
theorem C_cut (s : List UInt8) (hs : s.length ≤ 1000000) : AnsT 47 #[S s, S [47]] (.tuple #[S (cutS s).1, S (cutS s).2.1, .bool (cutS s).2.2]) := fun w ht => by
  obtain ⟨m, hm, -⟩ := ht.ml
  refine (Tryz.strings_Cut ⟨s.toArray⟩ ⟨#[47]⟩ m w (by show s.toArray.size < _; simp; omega) hm).mono fun e w' ⟨he, k, hw⟩ => ⟨?_, by rw [hw]; exact (Ch.refl _ _ _).drewN k⟩
  rw [he, ← cut_eq]
theorem dcv_b (l : List UInt8) (h : decB l = true) : (nb (dcv l)).length ≤ l.length := by
  refine (nb_len _ _).2 (Nat.lt_of_lt_of_le (dcv_lt l (decB_all h)) (Nat.pow_le_pow_left (by decide) _))
theorem C_nparse_yes {l : List UInt8} (hl : l.length ≤ 999) (h : decB l = true) : Ans 48 #[S l] (.tuple #[S (nb (dcv l)), .bool true]) := fun w => parse_yes l w (by omega) h
theorem C_nparse_no {l : List UInt8} (hl : l.length ≤ 999) (h : decB l = false) : Ans 48 #[S l] (.tuple #[S [], .bool false]) := fun w => parse_no l w (by omega) h
theorem chk_yes {s : Bool} {n d : List UInt8} (h : rightR s n d = true) : pans (chk (s, n, d)) = .tuple #[Rv s n d, .bool true] := by
  unfold chk
  rw [if_pos h]
  rfl
theorem chk_no {s : Bool} {n d : List UInt8} (h : rightR s n d = false) : pans (chk (s, n, d)) = .tuple #[Rv false [] [], .bool false] := by
  unfold chk
  rw [h]
  rfl
set_option maxRecDepth 100000 in
set_option maxHeartbeats 3200000 in
theorem C_Parse (s : List UInt8) (hs : s.length ≤ 999) : AnsT 16 #[S s] (pans (decR s)) := fun w ht => by
  have HB := Lib.hid (Box.one w #[.bool false, S [], S []])
  obtain ⟨B, hB⟩ : ∃ B, w.heap.size = B := ⟨_, rfl⟩
  rw [hB] at HB
  have HT := Lib.hid ht
  have H1 := Lib.hid (C_cutp s)
  have hl := pre_len s
  obtain ⟨rs, hrs⟩ : ∃ rs, Lib.trimPrefix s [45] = rs := ⟨_, rfl⟩
  obtain ⟨ng, hng⟩ : ∃ ng, Lib.hasPrefix s [45] = ng := ⟨_, rfl⟩
  have hlc := cutS_len rs
  have H2 := Lib.hid (C_cut rs (by rw [hrs] at hl; omega))
  obtain ⟨⟨a, b, f⟩, hc⟩ : ∃ c, cutS rs = c := ⟨_, rfl⟩
  unfold decR
  rw [hrs, hng]
  rw [hrs, hng] at H1
  rw [hrs] at hl
  simp only [hc]
  rw [hc] at H2 hlc
  simp only at H2 hlc
  clear hrs hng hc ht
  obtain ⟨ans, hans⟩ : ∃ v, pans (if decB a = true then if f = true then if decB b = true ∧ nb (dcv b) ≠ [1] then chk (ng, nb (dcv a), nb (dcv b)) else none else chk (ng, nb (dcv a), [1]) else none) = v := ⟨_, rfl⟩
  rw [hans]
  have HS := Lib.hid hans
  clear hans
  go_enter Tryz.func16, Tryz.ntmps16
  go_wp2_with fail
  refine (H1.out _).mono ?_
  rintro e w1 ⟨rfl, hC⟩
  have HB2 := Lib.hid (HB.out.on hC)
  clear hC HB 
  have HB := HB2
  clear HB2
  go_wp2_with fail
  refine (H2.out _ (HT.out.ch HB.out.ch)).mono ?_
  rintro e w2 ⟨rfl, hC⟩
  have HB2 := Lib.hid (HB.out.on hC)
  clear hC HB 
  have HB := HB2
  clear HB2
  go_wp2_with fail
  cases hda : decB a with
  | false =>
    have H3 := Lib.hid (C_nparse_no (l := a) (by omega) hda)
    have hs := HS.out
    rw [hda, if_neg (by simp)] at hs
    have hs' : Value.tuple #[Rv false [] [], .bool false] = ans := hs
    subst hs'
    clear hda hs HS
    refine (H3.out _).mono ?_
    rintro e w3 ⟨rfl, hC⟩
    have HB2 := Lib.hid (HB.out.on hC)
    clear hC HB 
    have HB := HB2
    clear HB2
    obtain ⟨e0, e1, e2, f0, f1, f2⟩ := HB.out.store0
    go_wp2_with fail
    have hp := HB.out.put (i := 0) rfl (.bool false) (S []) (S [])
    refine bodyPost_ret (results_cell_row_tmp (P := Tryz.prog) rfl _ _ B 25 _ (0, 0) _ rfl hp.1 Tryz.underlying25 rfl (by kernel_rfl)) rfl ?_
    exact ⟨rfl, hp.2⟩
  | true =>
    have H3 := Lib.hid (C_nparse_yes (l := a) (by omega) hda)
    have hna := dcv_b a hda
    obtain ⟨n, hn⟩ : ∃ n, nb (dcv a) = n := ⟨_, rfl⟩
    have hs := HS.out
    rw [hda, if_pos rfl, hn] at hs
    rw [hn] at H3 hna
    clear hda hn HS
    refine (H3.out _).mono ?_
    rintro e w3 ⟨rfl, hC⟩
    have HB2 := Lib.hid (HB.out.on hC)
    clear hC HB 
    have HB := HB2
    clear HB2
    cases f with
    | false =>
      rw [if_neg (by simp)] at hs
      have H4 := Lib.hid (C_Right (s := ng) (n := n) (d := [1]) (by omega) (by decide) rfl)
      obtain ⟨r, hr⟩ : ∃ r, rightR ng n [1] = r := ⟨_, rfl⟩
      rw [hr] at H4
      have HRR := Lib.hid hr
      have HS := Lib.hid hs
      clear hr hs
      go_wp2_with fail
      have hca : Ch w3.heap.size none1 w3 (w3.alloc (.cells #[.bool ng, S n, S [1]] 25 (0, 0))) := (Ch.refl _ _ _).alloc (Nat.le_refl _) _
      have HB2 := Lib.hid (HB.out.on hca)
      have hba : Blk (w3.alloc (.cells #[.bool ng, S n, S [1]] 25 (0, 0))) w3.heap.size 25 [.bool ng, S n, S [1]] := Blk.new _ _ _
      refine (H4.out _ (HT.out.ch HB2.out.ch)).mono ?_
      rintro e wz ⟨rfl, hC⟩
      have HB3 := Lib.hid (HB2.out.on hC)
      have hlt : w3.heap.size < (w3.alloc (.cells #[.bool ng, S n, S [1]] 25 (0, 0))).heap.size := by rw [World.size_alloc]; omega
      have hb3 := hC.blk hba hlt (fun q => q)
      have a0 : wz.cell? ⟨w3.heap.size, 0, none⟩ = some (.bool ng) := hb3.cell 0
      have a1 : wz.cell? ⟨w3.heap.size, 1, none⟩ = some (S n) := hb3.cell 1
      have a2 : wz.cell? ⟨w3.heap.size, 2, none⟩ = some (S [1]) := hb3.cell 2
      clear hC HB HB2 hca hba hlt hb3
      have HB := HB3
      clear HB3
      have hs := HS.out
      cases r with
      | true =>
        rw [chk_yes HRR.out] at hs
        subst hs
        clear HRR HS
        obtain ⟨e0, e1, e2, f0, f1, f2⟩ := HB.out.store0
        go_wp2_with fail
        have hp := HB.out.put (i := 0) rfl (.bool ng) (S n) (S [1])
        refine bodyPost_ret (results_cell_row_tmp (P := Tryz.prog) rfl _ _ B 25 _ (0, 0) _ rfl hp.1 Tryz.underlying25 rfl (by kernel_rfl)) rfl ?_
        exact ⟨rfl, hp.2⟩
      | false =>
        rw [chk_no HRR.out] at hs
        subst hs
        clear HRR HS
        obtain ⟨e0, e1, e2, f0, f1, f2⟩ := HB.out.store0
        go_wp2_with fail
        have hp := HB.out.put (i := 0) rfl (.bool false) (S []) (S [])
        refine bodyPost_ret (results_cell_row_tmp (P := Tryz.prog) rfl _ _ B 25 _ (0, 0) _ rfl hp.1 Tryz.underlying25 rfl (by kernel_rfl)) rfl ?_
        exact ⟨rfl, hp.2⟩
    | true =>
      rw [if_pos rfl] at hs
      go_wp2_with fail
      cases hdb : decB b with
      | false =>
        have H4 := Lib.hid (C_nparse_no (l := b) (by omega) hdb)
        rw [hdb, if_neg (by simp)] at hs
        have hs' : Value.tuple #[Rv false [] [], .bool false] = ans := hs
        subst hs'
        clear hdb hs
        refine (H4.out _).mono ?_
        rintro e w4 ⟨rfl, hC⟩
        have HB2 := Lib.hid (HB.out.on hC)
        clear hC HB 
        have HB := HB2
        clear HB2
        obtain ⟨e0, e1, e2, f0, f1, f2⟩ := HB.out.store0
        go_wp2_with fail
        have hp := HB.out.put (i := 0) rfl (.bool false) (S []) (S [])
        refine bodyPost_ret (results_cell_row_tmp (P := Tryz.prog) rfl _ _ B 25 _ (0, 0) _ rfl hp.1 Tryz.underlying25 rfl (by kernel_rfl)) rfl ?_
        exact ⟨rfl, hp.2⟩
      | true =>
        have H4 := Lib.hid (C_nparse_yes (l := b) (by omega) hdb)
        have hnb := dcv_b b hdb
        obtain ⟨d, hd⟩ : ∃ d, nb (dcv b) = d := ⟨_, rfl⟩
        rw [hdb, hd] at hs
        rw [hd] at H4 hnb
        clear hdb hd
        refine (H4.out _).mono ?_
        rintro e w4 ⟨rfl, hC⟩
        have HB2 := Lib.hid (HB.out.on hC)
        clear hC HB 
        have HB := HB2
        clear HB2
        by_cases hd1 : d = [1]
        · subst hd1
          rw [if_neg (by simp)] at hs
          have hs' : Value.tuple #[Rv false [] [], .bool false] = ans := hs
          subst hs'
          clear hs
          obtain ⟨e0, e1, e2, f0, f1, f2⟩ := HB.out.store0
          go_wp2_with fail
          have hp := HB.out.put (i := 0) rfl (.bool false) (S []) (S [])
          refine bodyPost_ret (results_cell_row_tmp (P := Tryz.prog) rfl _ _ B 25 _ (0, 0) _ rfl hp.1 Tryz.underlying25 rfl (by kernel_rfl)) rfl ?_
          exact ⟨rfl, hp.2⟩
        · have e9 := beq_no hd1
          rw [if_pos ⟨rfl, hd1⟩] at hs
          clear hd1
          have H5 := Lib.hid (C_Right (s := ng) (n := n) (d := d) (by omega) (by omega) rfl)
          obtain ⟨r, hr⟩ : ∃ r, rightR ng n d = r := ⟨_, rfl⟩
          rw [hr] at H5
          have HRR := Lib.hid hr
          have HS := Lib.hid hs
          clear hr hs
          go_wp2_with fail
          have hca : Ch w4.heap.size none1 w4 (w4.alloc (.cells #[.bool ng, S n, S d] 25 (0, 0))) := (Ch.refl _ _ _).alloc (Nat.le_refl _) _
          have HB2 := Lib.hid (HB.out.on hca)
          have hba : Blk (w4.alloc (.cells #[.bool ng, S n, S d] 25 (0, 0))) w4.heap.size 25 [.bool ng, S n, S d] := Blk.new _ _ _
          refine (H5.out _ (HT.out.ch HB2.out.ch)).mono ?_
          rintro e wz ⟨rfl, hC⟩
          have HB3 := Lib.hid (HB2.out.on hC)
          have hlt : w4.heap.size < (w4.alloc (.cells #[.bool ng, S n, S d] 25 (0, 0))).heap.size := by rw [World.size_alloc]; omega
          have hb3 := hC.blk hba hlt (fun q => q)
          have a0 : wz.cell? ⟨w4.heap.size, 0, none⟩ = some (.bool ng) := hb3.cell 0
          have a1 : wz.cell? ⟨w4.heap.size, 1, none⟩ = some (S n) := hb3.cell 1
          have a2 : wz.cell? ⟨w4.heap.size, 2, none⟩ = some (S d) := hb3.cell 2
          clear hC HB HB2 hca hba hlt hb3
          have HB := HB3
          clear HB3
          have hs := HS.out
          cases r with
          | true =>
            rw [chk_yes HRR.out] at hs
            subst hs
            clear HRR HS
            obtain ⟨e0, e1, e2, f0, f1, f2⟩ := HB.out.store0
            go_wp2_with fail
            have hp := HB.out.put (i := 0) rfl (.bool ng) (S n) (S d)
            refine bodyPost_ret (results_cell_row_tmp (P := Tryz.prog) rfl _ _ B 25 _ (0, 0) _ rfl hp.1 Tryz.underlying25 rfl (by kernel_rfl)) rfl ?_
            exact ⟨rfl, hp.2⟩
          | false =>
            rw [chk_no HRR.out] at hs
            subst hs
            clear HRR HS
            obtain ⟨e0, e1, e2, f0, f1, f2⟩ := HB.out.store0
            go_wp2_with fail
            have hp := HB.out.put (i := 0) rfl (.bool false) (S []) (S [])
            refine bodyPost_ret (results_cell_row_tmp (P := Tryz.prog) rfl _ _ B 25 _ (0, 0) _ rfl hp.1 Tryz.underlying25 rfl (by kernel_rfl)) rfl ?_
            exact ⟨rfl, hp.2⟩
end Go.Proofs.YtbpoghgokkpckaaGreatDoor
