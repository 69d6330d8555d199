/- MoneyParts: the walk where parts are made. -/
import Derived.Test.YtnblmmhpndnjcaaGreatDoorWt
import Derived.Test.YtnblmmhpndnjcaaGreatDoorWs
namespace Go.Proofs.YtnblmmhpndnjcaaGreatDoor
open Go.RowKit
theorem Kq.put1 {w W : World} {g : Nat} {t : TypeId} {a b c : Value} {l : List (Nat × TypeId × List Value)} (h : Kq w W ((g, t, [a, b, c]) :: l)) (hg : w.heap.size ≤ g) (hl : ∀ p ∈ l, p.1 ≠ g) (x : Value) : Kq w (W.setCell ⟨g, 0, none⟩ x) ((g, t, [x, b, c]) :: l) :=
  ⟨h.ch.setCell (p := ⟨g, 0, none⟩) (.inl hg) x, fun p hp => by
    rcases List.mem_cons.1 hp with rfl | hp
    · exact (h.row _ (.head _)).set 0 x
    · exact (h.row _ (.tail _ hp)).set_other (hl p hp) 0 x⟩
set_option maxRecDepth 100000 in
set_option maxHeartbeats 12800000 in
theorem parts_walk {c0 : Int} {a : Option Addr} {n c N : Nat} {lw lp : List T3} {sT : Bool} {nT dT : List UInt8} (w0 : World) (ht0 : Tm w0)
    (h0 : AnsM 11 #[] (.bool true)) (hw : ∀ V, Ch w0.heap.size none1 w0 V → Calls Tryz.prog 34 #[.slice a n c] V (Yw V lw)) (h1 : AnsM 14 #[.int .i64 c0] (Rv sT nT dT))
    (hs : ∀ (V : World) p m q, Tm V → Rs V p m lw → Calls Tryz.prog 19 #[Rv sT nT dT, .slice p m q] V fun e V' => ∃ p' n' c', e = .returned (.tuple #[.slice p' n' c', .bool true]) ∧ Rs V' p' n' lp ∧ Ch V.heap.size none1 V V')
    (hsu : ∀ (V : World) p q, Rs V p N lp → Calls Tryz.prog 36 #[.slice p N q] V (Yld V (Rv sT nT dT)))
    (hlw : lw.length = N) (hlp : lp.length = N) (ho1 : AnsM 20 #[.int .i64 1] (Rv false [1] [100])) (hN : (N : Int) ≤ 8)
    (hrd : ∀ (v : World) (g o gw ow _ cw : Nat), Tm v → Rs v (some ⟨g, o, none⟩) N lp → Rs v (some ⟨gw, ow, none⟩) N lw → ∀ k, k < N → ∃ spk npk dpk swk nwk dwk z sq nq dq sf nf df cm, (∀ V, Ch v.heap.size none1 v V → V.cell? ⟨g, o + k * 3, none⟩ = some (.bool spk) ∧ V.cell? ⟨g, o + k * 3 + 1, none⟩ = some (S npk) ∧ V.cell? ⟨g, o + k * 3 + 2, none⟩ = some (S dpk)) ∧ AnsM 29 #[Rv spk npk dpk] (.tuple #[.int .i64 z, .bool true]) ∧ (∀ V, Ch v.heap.size none1 v V → Calls Tryz.prog 37 #[Rv sT nT dT, .slice (some ⟨gw, ow, none⟩) N cw, .int .i64 k] V (Yld V (Rv sq nq dq))) ∧ Ans 27 #[Rv spk npk dpk, Rv sq nq dq] (Rv sf nf df) ∧ Ans 28 #[Rv false nf df, Rv false [1] [100]] (.int .i64 cm) ∧ decide (0 ≤ cm) = false ∧
      ∀ i, i < k → ∃ spi npi dpi swi nwi dwi mo si, (∀ V, Ch v.heap.size none1 v V → V.cell? ⟨gw, ow + i * 3, none⟩ = some (.bool swi) ∧ V.cell? ⟨gw, ow + i * 3 + 1, none⟩ = some (S nwi) ∧ V.cell? ⟨gw, ow + i * 3 + 2, none⟩ = some (S dwi) ∧ V.cell? ⟨gw, ow + k * 3, none⟩ = some (.bool swk) ∧ V.cell? ⟨gw, ow + k * 3 + 1, none⟩ = some (S nwk) ∧ V.cell? ⟨gw, ow + k * 3 + 2, none⟩ = some (S dwk) ∧ V.cell? ⟨g, o + i * 3, none⟩ = some (.bool spi) ∧ V.cell? ⟨g, o + i * 3 + 1, none⟩ = some (S npi) ∧ V.cell? ⟨g, o + i * 3 + 2, none⟩ = some (S dpi) ∧ V.cell? ⟨g, o + k * 3, none⟩ = some (.bool spk) ∧ V.cell? ⟨g, o + k * 3 + 1, none⟩ = some (S npk) ∧ V.cell? ⟨g, o + k * 3 + 2, none⟩ = some (S dpk)) ∧ Ans 28 #[Rv swi nwi dwi, Rv swk nwk dwk] (.int .i64 mo) ∧ Ans 28 #[Rv spi npi dpi, Rv spk npk dpk] (.int .i64 si) ∧ ((c0 < 0 ∧ ((0 ≤ mo ∧ si ≤ 0) ∨ (mo < 0 ∧ 0 ≤ si))) ∨ (¬ c0 < 0 ∧ ((0 ≤ mo ∧ 0 ≤ si) ∨ (mo < 0 ∧ si ≤ 0)))) ∧ (-1 ≤ si ∧ si ≤ 1)) :
    Calls Tryz.prog 10 #[.int .i64 c0, .slice a n c] w0 (Yld w0 (.bool true)) := by
  have hN0 : 0 ≤ (N : Int) := by omega
  have HT0 := Lib.hid ht0
  have HW := Lib.hid hw
  have H0 := Lib.hid h0
  have H1 := Lib.hid h1
  have HS := Lib.hid hs
  have HSU := Lib.hid hsu
  have HRD := Lib.hid hrd
  have HO1 := Lib.hid ho1
  have HLW := Lib.hid hlw
  have HLP := Lib.hid hlp
  clear ht0 hw h0 h1 hs hsu hrd ho1 hlw hlp
  go_enter Tryz.func10, Tryz.ntmps10
  go_wp2_with fail
  refine (H0.out _ HT0.out).mono ?_
  rintro e w1 ⟨rfl, hC1⟩
  have HC1 := Lib.hid hC1
  clear hC1
  go_wp2_with fail
  refine (HW.out _ HC1.out).mono ?_
  rintro e w2 ⟨pw, nw, cw, rfl, hRw, hC2⟩
  have HC2 := Lib.hid (HC1.out.step0 hC2 (Nat.le_refl _))
  have hq : N = nw := by rw [← hRw.len, HLW.out]
  subst hq
  have HRW := Lib.hid hRw
  clear hC2 hRw HC1
  go_wp2_with fail
  refine (H1.out _ (HT0.out.ch HC2.out)).mono ?_
  rintro e w3 ⟨rfl, hC3⟩
  have HC3 := Lib.hid (HC2.out.step0 hC3 (Nat.le_refl _))
  have HRW2 := Lib.hid (HRW.out.ch hC3)
  clear hC3 HRW HC2
  go_wp2_with fail
  have HBT := Lib.hid (Blk.new w3 #[.bool sT, S nT, S dT] 26)
  have HRW := Lib.hid (HRW2.out.ch (Ch.alloc0 (.cells #[.bool sT, S nT, S dT] 26 (0, 0))))
  have HC4 := Lib.hid (HC3.out.alloc (HC3.out.size) (.cells #[.bool sT, S nT, S dT] 26 (0, 0)))
  obtain ⟨W3, hW3⟩ : ∃ V, w3.alloc (.cells #[.bool sT, S nT, S dT] 26 (0, 0)) = V := ⟨_, rfl⟩
  rw [hW3] at HBT HRW HC4 ⊢
  obtain ⟨TB, hTB⟩ : ∃ A, w3.heap.size = A := ⟨_, rfl⟩
  rw [hTB] at HBT ⊢
  clear hW3 hTB HRW2 HC3
  refine (HS.out _ _ _ _ (HT0.out.ch HC4.out) HRW.out).mono ?_
  rintro e w ⟨pp, np, cp, rfl, hRp, hC⟩
  have hq : N = np := by rw [← hRp.len, HLP.out]
  subst hq
  have HCC := Lib.hid (HC4.out.step0 hC (Nat.le_refl _))
  have HRP := Lib.hid hRp
  have HRW2 := Lib.hid (HRW.out.ch hC)
  have hKK : Kq w w [(TB, 26, [.bool sT, S nT, S dT])] := ⟨Ch.refl _ _ _, fun p hp => by obtain rfl := List.mem_singleton.1 hp; exact hC.blk HBT.out HBT.out.lt (fun q => q)⟩
  have HK := Lib.hid hKK
  have HT := Lib.hid (HT0.out.ch HCC.out)
  have hms : TB < w.heap.size := (hKK.row _ (.head _)).lt
  obtain ⟨MS, hMS⟩ : ∃ m, w.heap.size = m + 1 := ⟨w.heap.size - 1, by omega⟩
  have HBB := Lib.hid hMS
  have htbm : TB ≤ MS := by omega
  clear hKK hRp hC HBT HRW HC4 hMS hms
  have HSUM := Lib.hid (fun V (h : Ch w.heap.size none1 w V) => HSU.out V _ cp (HRP.out.ch h))
  have HF11 := Lib.hid (show ∀ W, Kq w W [(TB, 26, [.bool sT, S nT, S dT])] → W.cell? ⟨TB, 0, none⟩ = some (.bool sT) ∧ W.cell? ⟨TB, 1, none⟩ = some (S nT) ∧ W.cell? ⟨TB, 2, none⟩ = some (S dT) from fun W h => ⟨(h.row _ (.head _)).cell 0, (h.row _ (.head _)).cell 1, (h.row _ (.head _)).cell 2⟩)
  obtain ⟨cc0, cc1, cc2⟩ := HF11.out _ HK.out
  go_wp2_with fail
  clear cc0 cc1 cc2
  have HKD := Lib.hid HK.out.drew
  clear HK
  have HK := HKD
  clear HKD
  refine wp_region_held_drew (S := fun w' => w'.cell? ⟨TB, 0, none⟩ = some (.bool sT) ∧ w'.cell? ⟨TB, 1, none⟩ = some (S nT) ∧ w'.cell? ⟨TB, 2, none⟩ = some (S dT)) (by kernel_rfl) ?_ (fun hHeld => ?_)
  · (try dsimp only); exact HF11.out _ HK.out
  refine tk 0 (v := ?_) hHeld ?_ ?_
  rotate_left 1
  · intro _ hw; (try dsimp only at hw); go_simp; try with_reducible rfl
  (try simp only [Act.put, List.setIfInBounds_toArray, List.set_cons_zero, List.set_cons_succ])
  refine tk 1 (v := ?_) hHeld ?_ ?_
  rotate_left 1
  · intro _ hw; (try dsimp only at hw); go_simp; try with_reducible rfl
  (try simp only [Act.put, List.setIfInBounds_toArray, List.set_cons_zero, List.set_cons_succ])
  refine tk 2 (v := ?_) hHeld ?_ ?_
  rotate_left 1
  · intro _ hw; (try dsimp only at hw); go_simp; try with_reducible rfl
  (try simp only [Act.put, List.setIfInBounds_toArray, List.set_cons_zero, List.set_cons_succ])
  refine tk 3 (v := ?_) hHeld ?_ ?_
  rotate_left 1
  · intro _ hw; (try dsimp only at hw); go_simp; try with_reducible rfl
  (try simp only [Act.put, List.setIfInBounds_toArray, List.set_cons_zero, List.set_cons_succ])
  refine tk 4 (v := ?_) hHeld ?_ ?_
  rotate_left 1
  · intro _ hw; (try dsimp only at hw); go_simp; try with_reducible rfl
  (try simp only [Act.put, List.setIfInBounds_toArray, List.set_cons_zero, List.set_cons_succ])
  refine tk 5 (v := ?_) hHeld ?_ ?_
  rotate_left 1
  · intro _ hw; (try dsimp only at hw); go_simp; try with_reducible rfl
  (try simp only [Act.put, List.setIfInBounds_toArray, List.set_cons_zero, List.set_cons_succ])
  refine tk 6 (v := ?_) hHeld ?_ ?_
  rotate_left 1
  · intro _ hw; (try dsimp only at hw); go_simp; try with_reducible rfl
  (try simp only [Act.put, List.setIfInBounds_toArray, List.set_cons_zero, List.set_cons_succ])
  refine tk 8 (v := ?_) hHeld ?_ ?_
  rotate_left 1
  · intro _ hw; (try dsimp only at hw); go_simp; try with_reducible rfl
  (try simp only [Act.put, List.setIfInBounds_toArray, List.set_cons_zero, List.set_cons_succ])
  refine wpAnyH_ready (rs := [7]) (by kernel_rfl) (by simp) ?_
  refine AllReadyH.cons (at_list rfl) (fun K hK => ?_) AllReadyH.nil
  go_simp
  go_at_call 36; with_reducible refine (HSUM.out _ HK.out.ch).mono ?_; rintro e wq ⟨rfl, hCq⟩; have HK2 := Lib.hid (HK.out.on hCq); clear hCq HK; have HK := HK2; clear HK2
  clear hHeld
  first | (refine hK.out _ _ ?_ (fun hHeld => ?_)) | (go_wp2_with fail; refine hK.out _ _ ?_ (fun hHeld => ?_))
  · (try dsimp only); exact HF11.out _ HK.out
  clear hK K
  (try simp only [Act.put, List.setIfInBounds_toArray, List.set_cons_zero, List.set_cons_succ])
  refine tk 9 (v := ?_) hHeld ?_ ?_
  rotate_left 1
  · intro _ hw; (try dsimp only at hw); go_simp; try with_reducible rfl
  (try simp only [Act.put, List.setIfInBounds_toArray, List.set_cons_zero, List.set_cons_succ])
  refine tk 10 (v := ?_) hHeld ?_ ?_
  rotate_left 1
  · intro _ hw; (try dsimp only at hw); go_simp; try with_reducible rfl
  (try simp only [Act.put, List.setIfInBounds_toArray, List.set_cons_zero, List.set_cons_succ])
  refine wpAnyH_done (by kernel_rfl) ?_ _
  clear hHeld
  obtain ⟨cc0, cc1, cc2⟩ := HF11.out _ HK.out
  go_wp2_with fail
  clear cc0 cc1 cc2
  go_loopw [10] (fun x wr => ∃ k : Nat, k ≤ N ∧ x = .int .i64 k ∧ Kq w wr [(TB, 26, [.bool sT, S nT, S dT])]) (fun x _ => N - (intOf x).toNat)
  case atStart => exact ⟨0, Nat.zero_le _, rfl, HK.out⟩
  case round =>
    clear HK
    obtain ⟨k, hkN, rfl, hKK⟩ := hrel
    have HK := Lib.hid hKK
    clear hKK
    have hk0 : 0 ≤ (k : Int) := by omega
    by_cases hlt : k < N
    · have hkl : (k : Int) < (N : Int) := by omega
      have hkd : decide ((k : Int) < (N : Int)) = true := decide_eq_true hkl
      obtain ⟨g, o, rfl⟩ := HRP.out.addr (by omega)
      obtain ⟨gw, ow, rfl⟩ := HRW2.out.addr (by omega)
      obtain ⟨spk, npk, dpk, swk, nwk, dwk, z, sq, nq, dq, sf, nf, df, cm, hx, hce, hqu, hsb, hcm, hcn, hin⟩ := HRD.out w g o gw ow cp cw HT.out HRP.out HRW2.out k hlt
      have HX := Lib.hid hx
      have HCE := Lib.hid hce
      have HQU := Lib.hid hqu
      have HSB := Lib.hid hsb
      have HCM := Lib.hid hcm
      have HIN := Lib.hid hin
      clear hx hce hqu hsb hcm hin
      have HF201 := Lib.hid (show ∀ W, Kq w W [(TB, 26, [.bool sT, S nT, S dT])] → W.cell? ⟨TB, 0, none⟩ = some (.bool sT) ∧ W.cell? ⟨TB, 1, none⟩ = some (S nT) ∧ W.cell? ⟨TB, 2, none⟩ = some (S dT) ∧ W.cell? ⟨g, o + k * 3, none⟩ = some (.bool spk) ∧ W.cell? ⟨g, o + k * 3 + 1, none⟩ = some (S npk) ∧ W.cell? ⟨g, o + k * 3 + 2, none⟩ = some (S dpk) from fun W h => ⟨(h.row _ (.head _)).cell 0, (h.row _ (.head _)).cell 1, (h.row _ (.head _)).cell 2, (HX.out W h.ch).1, (HX.out W h.ch).2.1, (HX.out W h.ch).2.2⟩)
      obtain ⟨cc0, cc1, cc2, cc3, cc4, cc5⟩ := HF201.out _ HK.out
      go_wp2_with fail
      refine (HCE.out _ (HT.out.ch HK.out.ch)).mono ?_
      rintro e w201 ⟨rfl, hC⟩
      have HK2 := Lib.hid (HK.out.on hC)
      clear cc0 cc1 cc2 cc3 cc4 cc5
      clear hC HK
      have HK := HK2
      clear HK2
      obtain ⟨cc0, cc1, cc2, cc3, cc4, cc5⟩ := HF201.out _ HK.out
      go_wp2_with fail
      clear cc0 cc1 cc2 cc3 cc4 cc5
      have HKD := Lib.hid HK.out.drew
      clear HK
      have HK := HKD
      clear HKD
      refine wp_region_held_drew (S := fun w' => w'.cell? ⟨TB, 0, none⟩ = some (.bool sT) ∧ w'.cell? ⟨TB, 1, none⟩ = some (S nT) ∧ w'.cell? ⟨TB, 2, none⟩ = some (S dT) ∧ w'.cell? ⟨g, o + k * 3, none⟩ = some (.bool spk) ∧ w'.cell? ⟨g, o + k * 3 + 1, none⟩ = some (S npk) ∧ w'.cell? ⟨g, o + k * 3 + 2, none⟩ = some (S dpk)) (by kernel_rfl) ?_ (fun hHeld => ?_)
      · (try dsimp only); exact HF201.out _ HK.out
      refine tk 0 (v := ?_) hHeld ?_ ?_
      rotate_left 1
      · intro _ hw; (try dsimp only at hw); go_simp; try with_reducible rfl
      (try simp only [Act.put, List.setIfInBounds_toArray, List.set_cons_zero, List.set_cons_succ])
      refine tk 1 (v := ?_) hHeld ?_ ?_
      rotate_left 1
      · intro _ hw; (try dsimp only at hw); go_simp; try with_reducible rfl
      (try simp only [Act.put, List.setIfInBounds_toArray, List.set_cons_zero, List.set_cons_succ])
      refine tk 2 (v := ?_) hHeld ?_ ?_
      rotate_left 1
      · intro _ hw; (try dsimp only at hw); go_simp; try with_reducible rfl
      (try simp only [Act.put, List.setIfInBounds_toArray, List.set_cons_zero, List.set_cons_succ])
      refine tk 3 (v := ?_) hHeld ?_ ?_
      rotate_left 1
      · intro _ hw; (try dsimp only at hw); go_simp; try with_reducible rfl
      (try simp only [Act.put, List.setIfInBounds_toArray, List.set_cons_zero, List.set_cons_succ])
      refine tk 4 (v := ?_) hHeld ?_ ?_
      rotate_left 1
      · intro _ hw; (try dsimp only at hw); go_simp; try with_reducible rfl
      (try simp only [Act.put, List.setIfInBounds_toArray, List.set_cons_zero, List.set_cons_succ])
      refine tk 5 (v := ?_) hHeld ?_ ?_
      rotate_left 1
      · intro _ hw; (try dsimp only at hw); go_simp; try with_reducible rfl
      (try simp only [Act.put, List.setIfInBounds_toArray, List.set_cons_zero, List.set_cons_succ])
      refine tk 6 (v := ?_) hHeld ?_ ?_
      rotate_left 1
      · intro _ hw; (try dsimp only at hw); go_simp; try with_reducible rfl
      (try simp only [Act.put, List.setIfInBounds_toArray, List.set_cons_zero, List.set_cons_succ])
      generalize hX : @wpAnyH _ _ _ _ _ = X
      have hXi : ∀ f l a W, X f l a W → wpAnyH _ _ _ _ _ f l a W := fun f l a W h => by rw [hX]; exact h
      have hXo : ∀ f l a W, wpAnyH _ _ _ _ _ f l a W → X f l a W := fun f l a W h => by rw [← hX]; exact h
      have HXI := Lib.hid hXi
      have HXO := Lib.hid hXo
      clear hXi hXo hX hHeld
      have HK0 := HK
      clear HK
      have LS2_0 : ∀ (pf : Nat) (W : World), Kq w W [(TB, 26, [.bool sT, S nT, S dT])] → Blk W pf 26 [.bool false, S [], S []] → MS < pf → X 1 #[true, true, true, true, true, true, true, true, true, true, false] { tmps := #[.int .i64 c0, .slice a n c, undef, undef, u4, .bool true, .slice (some ⟨gw, ow, none⟩) N cw, .pointer (some ⟨TB, 0, none⟩), .slice (some ⟨g, o, none⟩) N cp, .bool true, .int .i64 k, .int .i64 z, .bool true, .pointer (some ⟨pf, 0, none⟩), u14, u15, u16, .bool true, .slice a n c, .slice (some ⟨gw, ow, none⟩) N cw, .int .i64 c0, Rv sT nT dT, .tuple #[.slice (some ⟨g, o, none⟩) N cp, .bool true], .agg #[.bool sT, .string { data := nT.toArray }, .string { data := dT.toArray }], .slice (some ⟨gw, ow, none⟩) N cw, .tuple #[.slice (some ⟨g, o, none⟩) N cp, .bool true], .slice (some ⟨g, o, none⟩) N cp, .bool true, .bool true, .bool false, undef, undef, undef, undef, undef, undef, undef, undef, undef, undef, undef, undef, .slice (some ⟨g, o, none⟩) N cp, .int .i64 N, .slice (some ⟨gw, ow, none⟩) N cw, .int .i64 N, .bool false, .bool false, .slice (some ⟨g, o, none⟩) N cp, Rv sT nT dT, .agg #[.bool sT, S nT, S dT], .bool false, .bool false, .int .i64 k, .slice (some ⟨g, o, none⟩) N cp, .int .i64 N, .bool true, u57, u58, .tuple #[.int .i64 z, .bool true], .slice (some ⟨g, o, none⟩) N cp, .int .i64 k, .pointer (some ⟨g, o + k * 3, none⟩), .agg #[.bool spk, S npk, S dpk], .tuple #[.int .i64 z, .bool true], .int .i64 z, .bool true, .slice (some ⟨g, o, none⟩) N cp, .int .i64 k, .pointer (some ⟨g, o + k * 3, none⟩), Rv spk npk dpk, Rv sT nT dT, .slice (some ⟨gw, ow, none⟩) N cw, .int .i64 k, Rv sq nq dq, Rv sf nf df, u76, u77, u78, u79, u80, u81, u82, u83, u84, u85, u86, u87, u88, u89, u90, u91, u92, u93, u94, u95, u96, u97, u98, u99, u100, u101, u102, u103, u104, u105, u106, u107, u108, u109, u110, u111, u112, u113, u114, u115, u116, u117, u118, u119, u120, u121, u122, u123, u124, u125, undef], defers := [] } W := by
        intro pf W hK0 bpf gpf
        have HK := Lib.hid hK0
        clear hK0
        have hHeld := HF201.out _ HK.out
        refine HXO.out _ _ _ _ ?_
        have HK2 := Lib.hid (HK.out.add bpf)
        clear HK
        have HK := HK2
        clear HK2
        clear bpf
        have e0 := (HK.out.row _ (.head _)).cell 0
        have f0 := (HK.out.row _ (.head _)).frozen 0
        have e1 := (HK.out.row _ (.head _)).cell 1
        have f1 := (HK.out.row _ (.head _)).frozen 1
        have e2 := (HK.out.row _ (.head _)).cell 2
        have f2 := (HK.out.row _ (.head _)).frozen 2
        simp only [List.getElem?_cons_zero, List.getElem?_cons_succ] at e0 e1 e2
        refine wpAnyH_ready (rs := [10]) (by kernel_rfl) (by simp) ?_
        refine AllReadyH.cons (at_list rfl) (fun K hK => ?_) AllReadyH.nil
        go_simp
        clear hHeld e0 e1 e2 f0 f1 f2
        have HKp := Lib.hid (Kq.sub (l' := [(pf, 26, [.bool false, S [], S []]), (TB, 26, [.bool sT, S nT, S dT])]) HK.out (by intro p hp; simp only [List.mem_cons, List.not_mem_nil, or_false] at hp ⊢; rcases hp with rfl | rfl <;> simp))
        have HKq := Lib.hid (HKp.out.put3 (by have := HBB.out; omega) (by intro p hp; simp only [List.mem_cons, List.not_mem_nil, or_false] at hp; rcases hp with rfl <;> (simp only; omega)) (.bool sf) (S nf) (S df))
        have HK2 := Lib.hid (Kq.sub (l' := [(pf, 26, [.bool sf, S nf, S df]), (TB, 26, [.bool sT, S nT, S dT])]) HKq.out (by intro p hp; simp only [List.mem_cons, List.not_mem_nil, or_false] at hp ⊢; rcases hp with rfl | rfl <;> simp))
        refine hK.out _ _ ?_ (fun hHeld => ?_)
        · (try dsimp only); exact HF201.out _ (Kq.sub HK2.out (by intro p hp; simp only [List.mem_cons, List.not_mem_nil, or_false] at hp ⊢; rcases hp with rfl <;> simp))
        clear hK K HK HKp HKq
        have HK := HK2
        clear HK2
        (try simp only [List.setIfInBounds_toArray, List.set_cons_zero, List.set_cons_succ])
        refine wpAnyH_done (by kernel_rfl) ?_ _
        clear hHeld
        have f0 := (HK.out.row _ (.head _)).frozen 0
        have g0 := (HK.out.row _ (.head _)).cell 0
        simp only [List.getElem?_cons_zero] at g0
        have HF252 := Lib.hid (show ∀ W, Kq w W [(pf, 26, [.bool sf, S nf, S df]), (TB, 26, [.bool sT, S nT, S dT])] → W.cell? ⟨pf, 0, none⟩ = some (.bool sf) ∧ W.cell? ⟨pf, 1, none⟩ = some (S nf) ∧ W.cell? ⟨pf, 2, none⟩ = some (S df) ∧ W.cell? ⟨TB, 0, none⟩ = some (.bool sT) ∧ W.cell? ⟨TB, 1, none⟩ = some (S nT) ∧ W.cell? ⟨TB, 2, none⟩ = some (S dT) from fun W h => ⟨(h.row _ (.head _)).cell 0, (h.row _ (.head _)).cell 1, (h.row _ (.head _)).cell 2, (h.row _ (.tail _ (.head _))).cell 0, (h.row _ (.tail _ (.head _))).cell 1, (h.row _ (.tail _ (.head _))).cell 2⟩)
        obtain ⟨cc0, cc1, cc2, cc3, cc4, cc5⟩ := HF252.out _ HK.out
        go_wp2_with fail
        clear f0 g0
        clear cc0 cc1 cc2 cc3 cc4 cc5
        have HKp := Lib.hid (Kq.sub (l' := [(pf, 26, [.bool sf, S nf, S df]), (TB, 26, [.bool sT, S nT, S dT])]) HK.out (by intro p hp; simp only [List.mem_cons, List.not_mem_nil, or_false] at hp ⊢; rcases hp with rfl | rfl <;> simp))
        have HK2 := Lib.hid (HKp.out.put1 (by have := HBB.out; omega) (fun p hp => by obtain rfl := List.mem_singleton.1 hp; show TB ≠ pf; omega) (.bool false))
        clear HK HKp
        have HK := HK2
        clear HK2
        have HF253 := Lib.hid (show ∀ W, Kq w W [(pf, 26, [.bool false, S nf, S df]), (TB, 26, [.bool sT, S nT, S dT])] → W.cell? ⟨pf, 0, none⟩ = some (.bool false) ∧ W.cell? ⟨pf, 1, none⟩ = some (S nf) ∧ W.cell? ⟨pf, 2, none⟩ = some (S df) ∧ W.cell? ⟨TB, 0, none⟩ = some (.bool sT) ∧ W.cell? ⟨TB, 1, none⟩ = some (S nT) ∧ W.cell? ⟨TB, 2, none⟩ = some (S dT) from fun W h => ⟨(h.row _ (.head _)).cell 0, (h.row _ (.head _)).cell 1, (h.row _ (.head _)).cell 2, (h.row _ (.tail _ (.head _))).cell 0, (h.row _ (.tail _ (.head _))).cell 1, (h.row _ (.tail _ (.head _))).cell 2⟩)
        obtain ⟨cc0, cc1, cc2, cc3, cc4, cc5⟩ := HF253.out _ HK.out
        clear cc0 cc1 cc2 cc3 cc4 cc5
        have HKD := Lib.hid HK.out.drew
        clear HK
        have HK := HKD
        clear HKD
        refine wp_region_held_drew (S := fun w' => w'.cell? ⟨pf, 0, none⟩ = some (.bool false) ∧ w'.cell? ⟨pf, 1, none⟩ = some (S nf) ∧ w'.cell? ⟨pf, 2, none⟩ = some (S df) ∧ w'.cell? ⟨TB, 0, none⟩ = some (.bool sT) ∧ w'.cell? ⟨TB, 1, none⟩ = some (S nT) ∧ w'.cell? ⟨TB, 2, none⟩ = some (S dT)) (by kernel_rfl) ?_ (fun hHeld => ?_)
        · (try dsimp only); exact HF253.out _ HK.out
        refine tk 0 (v := ?_) hHeld ?_ ?_
        rotate_left 1
        · intro _ hw; (try dsimp only at hw); go_simp; try with_reducible rfl
        (try simp only [Act.put, List.setIfInBounds_toArray, List.set_cons_zero, List.set_cons_succ])
        refine tk 1 (v := ?_) hHeld ?_ ?_
        rotate_left 1
        · intro _ hw; (try dsimp only at hw); go_simp; try with_reducible rfl
        (try simp only [Act.put, List.setIfInBounds_toArray, List.set_cons_zero, List.set_cons_succ])
        refine tk 2 (v := ?_) hHeld ?_ ?_
        rotate_left 1
        · intro _ hw; (try dsimp only at hw); go_simp; try with_reducible rfl
        (try simp only [Act.put, List.setIfInBounds_toArray, List.set_cons_zero, List.set_cons_succ])
        refine tk 3 (v := ?_) hHeld ?_ ?_
        rotate_left 1
        · intro _ hw; (try dsimp only at hw); go_simp; try with_reducible rfl
        (try simp only [Act.put, List.setIfInBounds_toArray, List.set_cons_zero, List.set_cons_succ])
        refine wpAnyH_ready (rs := [4]) (by kernel_rfl) (by simp) ?_
        refine AllReadyH.cons (at_list rfl) (fun K hK => ?_) AllReadyH.nil
        go_simp
        go_at_call 20; with_reducible refine (HO1.out _ (HT.out.ch HK.out.ch)).mono ?_; rintro e wq ⟨rfl, hCq⟩; have HK2 := Lib.hid (HK.out.on hCq); clear hCq HK; have HK := HK2; clear HK2
        clear hHeld
        first | (refine hK.out _ _ ?_ (fun hHeld => ?_)) | (go_wp2_with fail; refine hK.out _ _ ?_ (fun hHeld => ?_))
        · (try dsimp only); exact HF253.out _ HK.out
        clear hK K
        (try simp only [Act.put, List.setIfInBounds_toArray, List.set_cons_zero, List.set_cons_succ])
        refine wpAnyH_ready (rs := [5]) (by kernel_rfl) (by simp) ?_
        refine AllReadyH.cons (at_list rfl) (fun K hK => ?_) AllReadyH.nil
        go_simp
        go_at_call 28; with_reducible refine (HCM.out _).mono ?_; rintro e wq ⟨rfl, hCq⟩; have HK2 := Lib.hid (HK.out.on hCq); clear hCq HK; have HK := HK2; clear HK2
        clear hHeld
        first | (refine hK.out _ _ ?_ (fun hHeld => ?_)) | (go_wp2_with fail; refine hK.out _ _ ?_ (fun hHeld => ?_))
        · (try dsimp only); exact HF253.out _ HK.out
        clear hK K
        (try simp only [Act.put, List.setIfInBounds_toArray, List.set_cons_zero, List.set_cons_succ])
        refine tk 6 (v := ?_) hHeld ?_ ?_
        rotate_left 1
        · intro _ hw; (try dsimp only at hw); go_simp; try with_reducible rfl
        (try simp only [Act.put, List.setIfInBounds_toArray, List.set_cons_zero, List.set_cons_succ])
        refine tk 7 (v := ?_) hHeld ?_ ?_
        rotate_left 1
        · intro _ hw; (try dsimp only at hw); go_simp; try with_reducible rfl
        (try simp only [Act.put, List.setIfInBounds_toArray, List.set_cons_zero, List.set_cons_succ])
        refine wpAnyH_done (by kernel_rfl) ?_ _
        clear hHeld
        obtain ⟨cc0, cc1, cc2, cc3, cc4, cc5⟩ := HF253.out _ HK.out
        go_wp2_with fail
        clear cc0 cc1 cc2 cc3 cc4 cc5
        have HK2 := Lib.hid (Kq.sub (l' := [(TB, 26, [.bool sT, S nT, S dT])]) HK.out (by intro p hp; simp only [List.mem_cons, List.not_mem_nil, or_false] at hp ⊢; obtain rfl := hp; simp))
        clear HK
        have HK := HK2
        clear HK2 gpf
        go_loopw [14] (fun y wi => ∃ i : Nat, i ≤ k ∧ y = .int .i64 i ∧ Kq w wi [(TB, 26, [.bool sT, S nT, S dT])]) (fun y _ => k - (intOf y).toNat)
        case atStart => exact ⟨0, Nat.zero_le _, rfl, HK.out⟩
        case round =>
          clear HK
          obtain ⟨i, hik, rfl, hKK⟩ := hrel
          have HK := Lib.hid hKK
          clear hKK
          have hi0 : 0 ≤ (i : Int) := by omega
          by_cases hilt : i < k
          · have hil1 : (i : Int) < (k : Int) := by omega
            have hil2 : (i : Int) < (N : Int) := by omega
            have hid : decide ((i : Int) < (k : Int)) = true := decide_eq_true hil1
            have hid2 : decide ((i : Int) < (N : Int)) = true := decide_eq_true hil2
            obtain ⟨spi, npi, dpi, swi, nwi, dwi, mo, si, hx, hmo, hsi, hsg, hbn⟩ := HIN.out i hilt
            have HX2 := Lib.hid hx
            clear HX
            have HX := HX2
            clear HX2
            have HMO := Lib.hid hmo
            have HSI := Lib.hid hsi
            have HSG := Lib.hid hsg
            obtain ⟨hb1, hb2⟩ := hbn
            clear hx hmo hsi hsg
            have HF401 := Lib.hid (show ∀ W, Kq w W [(TB, 26, [.bool sT, S nT, S dT])] → W.cell? ⟨TB, 0, none⟩ = some (.bool sT) ∧ W.cell? ⟨TB, 1, none⟩ = some (S nT) ∧ W.cell? ⟨TB, 2, none⟩ = some (S dT) ∧ W.cell? ⟨gw, ow + i * 3, none⟩ = some (.bool swi) ∧ W.cell? ⟨gw, ow + i * 3 + 1, none⟩ = some (S nwi) ∧ W.cell? ⟨gw, ow + i * 3 + 2, none⟩ = some (S dwi) ∧ W.cell? ⟨gw, ow + k * 3, none⟩ = some (.bool swk) ∧ W.cell? ⟨gw, ow + k * 3 + 1, none⟩ = some (S nwk) ∧ W.cell? ⟨gw, ow + k * 3 + 2, none⟩ = some (S dwk) ∧ W.cell? ⟨g, o + i * 3, none⟩ = some (.bool spi) ∧ W.cell? ⟨g, o + i * 3 + 1, none⟩ = some (S npi) ∧ W.cell? ⟨g, o + i * 3 + 2, none⟩ = some (S dpi) ∧ W.cell? ⟨g, o + k * 3, none⟩ = some (.bool spk) ∧ W.cell? ⟨g, o + k * 3 + 1, none⟩ = some (S npk) ∧ W.cell? ⟨g, o + k * 3 + 2, none⟩ = some (S dpk) from fun W h => ⟨(h.row _ (.head _)).cell 0, (h.row _ (.head _)).cell 1, (h.row _ (.head _)).cell 2, (HX.out W h.ch).1, (HX.out W h.ch).2.1, (HX.out W h.ch).2.2.1, (HX.out W h.ch).2.2.2.1, (HX.out W h.ch).2.2.2.2.1, (HX.out W h.ch).2.2.2.2.2.1, (HX.out W h.ch).2.2.2.2.2.2.1, (HX.out W h.ch).2.2.2.2.2.2.2.1, (HX.out W h.ch).2.2.2.2.2.2.2.2.1, (HX.out W h.ch).2.2.2.2.2.2.2.2.2.1, (HX.out W h.ch).2.2.2.2.2.2.2.2.2.2.1, (HX.out W h.ch).2.2.2.2.2.2.2.2.2.2.2⟩)
            obtain ⟨cc0, cc1, cc2, cc3, cc4, cc5, cc6, cc7, cc8, cc9, cc10, cc11, cc12, cc13, cc14⟩ := HF401.out _ HK.out
            go_wp2_with fail
            clear cc0 cc1 cc2 cc3 cc4 cc5 cc6 cc7 cc8 cc9 cc10 cc11 cc12 cc13 cc14
            have HKD := Lib.hid HK.out.drew
            clear HK
            have HK := HKD
            clear HKD
            refine wp_region_held_drew (S := fun w' => w'.cell? ⟨TB, 0, none⟩ = some (.bool sT) ∧ w'.cell? ⟨TB, 1, none⟩ = some (S nT) ∧ w'.cell? ⟨TB, 2, none⟩ = some (S dT) ∧ w'.cell? ⟨gw, ow + i * 3, none⟩ = some (.bool swi) ∧ w'.cell? ⟨gw, ow + i * 3 + 1, none⟩ = some (S nwi) ∧ w'.cell? ⟨gw, ow + i * 3 + 2, none⟩ = some (S dwi) ∧ w'.cell? ⟨gw, ow + k * 3, none⟩ = some (.bool swk) ∧ w'.cell? ⟨gw, ow + k * 3 + 1, none⟩ = some (S nwk) ∧ w'.cell? ⟨gw, ow + k * 3 + 2, none⟩ = some (S dwk) ∧ w'.cell? ⟨g, o + i * 3, none⟩ = some (.bool spi) ∧ w'.cell? ⟨g, o + i * 3 + 1, none⟩ = some (S npi) ∧ w'.cell? ⟨g, o + i * 3 + 2, none⟩ = some (S dpi) ∧ w'.cell? ⟨g, o + k * 3, none⟩ = some (.bool spk) ∧ w'.cell? ⟨g, o + k * 3 + 1, none⟩ = some (S npk) ∧ w'.cell? ⟨g, o + k * 3 + 2, none⟩ = some (S dpk)) (by kernel_rfl) ?_ (fun hHeld => ?_)
            · (try dsimp only); exact HF401.out _ HK.out
            refine tk 0 (v := ?_) hHeld ?_ ?_
            rotate_left 1
            · intro _ hw; (try dsimp only at hw); go_simp; try with_reducible rfl
            (try simp only [Act.put, List.setIfInBounds_toArray, List.set_cons_zero, List.set_cons_succ])
            refine tk 1 (v := ?_) hHeld ?_ ?_
            rotate_left 1
            · intro _ hw; (try dsimp only at hw); go_simp; try with_reducible rfl
            (try simp only [Act.put, List.setIfInBounds_toArray, List.set_cons_zero, List.set_cons_succ])
            refine tk 2 (v := ?_) hHeld ?_ ?_
            rotate_left 1
            · intro _ hw; (try dsimp only at hw); go_simp; try with_reducible rfl
            (try simp only [Act.put, List.setIfInBounds_toArray, List.set_cons_zero, List.set_cons_succ])
            refine tk 3 (v := ?_) hHeld ?_ ?_
            rotate_left 1
            · intro _ hw; (try dsimp only at hw); go_simp; try with_reducible rfl
            (try simp only [Act.put, List.setIfInBounds_toArray, List.set_cons_zero, List.set_cons_succ])
            refine tk 4 (v := ?_) hHeld ?_ ?_
            rotate_left 1
            · intro _ hw; (try dsimp only at hw); go_simp; try with_reducible rfl
            (try simp only [Act.put, List.setIfInBounds_toArray, List.set_cons_zero, List.set_cons_succ])
            refine tk 5 (v := ?_) hHeld ?_ ?_
            rotate_left 1
            · intro _ hw; (try dsimp only at hw); go_simp; try with_reducible rfl
            (try simp only [Act.put, List.setIfInBounds_toArray, List.set_cons_zero, List.set_cons_succ])
            refine tk 6 (v := ?_) hHeld ?_ ?_
            rotate_left 1
            · intro _ hw; (try dsimp only at hw); go_simp; try with_reducible rfl
            (try simp only [Act.put, List.setIfInBounds_toArray, List.set_cons_zero, List.set_cons_succ])
            refine tk 7 (v := ?_) hHeld ?_ ?_
            rotate_left 1
            · intro _ hw; (try dsimp only at hw); go_simp; try with_reducible rfl
            (try simp only [Act.put, List.setIfInBounds_toArray, List.set_cons_zero, List.set_cons_succ])
            refine wpAnyH_ready (rs := [8]) (by kernel_rfl) (by simp) ?_
            refine AllReadyH.cons (at_list rfl) (fun K hK => ?_) AllReadyH.nil
            go_simp
            go_at_call 28; with_reducible refine (HMO.out _).mono ?_; rintro e wq ⟨rfl, hCq⟩; have HK2 := Lib.hid (HK.out.on hCq); clear hCq HK; have HK := HK2; clear HK2
            clear hHeld
            first | (refine hK.out _ _ ?_ (fun hHeld => ?_)) | (go_wp2_with fail; refine hK.out _ _ ?_ (fun hHeld => ?_))
            · (try dsimp only); exact HF401.out _ HK.out
            clear hK K
            (try simp only [Act.put, List.setIfInBounds_toArray, List.set_cons_zero, List.set_cons_succ])
            refine tk 9 (v := ?_) hHeld ?_ ?_
            rotate_left 1
            · intro _ hw; (try dsimp only at hw); go_simp; try with_reducible rfl
            (try simp only [Act.put, List.setIfInBounds_toArray, List.set_cons_zero, List.set_cons_succ])
            refine wpAnyH_done (by kernel_rfl) ?_ _
            clear hHeld
            obtain ⟨cc0, cc1, cc2, cc3, cc4, cc5, cc6, cc7, cc8, cc9, cc10, cc11, cc12, cc13, cc14⟩ := HF401.out _ HK.out
            go_wp2_with fail
            clear cc0 cc1 cc2 cc3 cc4 cc5 cc6 cc7 cc8 cc9 cc10 cc11 cc12 cc13 cc14
            have HKD := Lib.hid HK.out.drew
            clear HK
            have HK := HKD
            clear HKD
            refine wp_region_held_drew (S := fun w' => w'.cell? ⟨TB, 0, none⟩ = some (.bool sT) ∧ w'.cell? ⟨TB, 1, none⟩ = some (S nT) ∧ w'.cell? ⟨TB, 2, none⟩ = some (S dT) ∧ w'.cell? ⟨gw, ow + i * 3, none⟩ = some (.bool swi) ∧ w'.cell? ⟨gw, ow + i * 3 + 1, none⟩ = some (S nwi) ∧ w'.cell? ⟨gw, ow + i * 3 + 2, none⟩ = some (S dwi) ∧ w'.cell? ⟨gw, ow + k * 3, none⟩ = some (.bool swk) ∧ w'.cell? ⟨gw, ow + k * 3 + 1, none⟩ = some (S nwk) ∧ w'.cell? ⟨gw, ow + k * 3 + 2, none⟩ = some (S dwk) ∧ w'.cell? ⟨g, o + i * 3, none⟩ = some (.bool spi) ∧ w'.cell? ⟨g, o + i * 3 + 1, none⟩ = some (S npi) ∧ w'.cell? ⟨g, o + i * 3 + 2, none⟩ = some (S dpi) ∧ w'.cell? ⟨g, o + k * 3, none⟩ = some (.bool spk) ∧ w'.cell? ⟨g, o + k * 3 + 1, none⟩ = some (S npk) ∧ w'.cell? ⟨g, o + k * 3 + 2, none⟩ = some (S dpk)) (by kernel_rfl) ?_ (fun hHeld => ?_)
            · (try dsimp only); exact HF401.out _ HK.out
            refine tk 0 (v := ?_) hHeld ?_ ?_
            rotate_left 1
            · intro _ hw; (try dsimp only at hw); go_simp; try with_reducible rfl
            (try simp only [Act.put, List.setIfInBounds_toArray, List.set_cons_zero, List.set_cons_succ])
            refine tk 1 (v := ?_) hHeld ?_ ?_
            rotate_left 1
            · intro _ hw; (try dsimp only at hw); go_simp; try with_reducible rfl
            (try simp only [Act.put, List.setIfInBounds_toArray, List.set_cons_zero, List.set_cons_succ])
            refine tk 2 (v := ?_) hHeld ?_ ?_
            rotate_left 1
            · intro _ hw; (try dsimp only at hw); go_simp; try with_reducible rfl
            (try simp only [Act.put, List.setIfInBounds_toArray, List.set_cons_zero, List.set_cons_succ])
            refine tk 3 (v := ?_) hHeld ?_ ?_
            rotate_left 1
            · intro _ hw; (try dsimp only at hw); go_simp; try with_reducible rfl
            (try simp only [Act.put, List.setIfInBounds_toArray, List.set_cons_zero, List.set_cons_succ])
            refine tk 4 (v := ?_) hHeld ?_ ?_
            rotate_left 1
            · intro _ hw; (try dsimp only at hw); go_simp; try with_reducible rfl
            (try simp only [Act.put, List.setIfInBounds_toArray, List.set_cons_zero, List.set_cons_succ])
            refine tk 5 (v := ?_) hHeld ?_ ?_
            rotate_left 1
            · intro _ hw; (try dsimp only at hw); go_simp; try with_reducible rfl
            (try simp only [Act.put, List.setIfInBounds_toArray, List.set_cons_zero, List.set_cons_succ])
            refine tk 6 (v := ?_) hHeld ?_ ?_
            rotate_left 1
            · intro _ hw; (try dsimp only at hw); go_simp; try with_reducible rfl
            (try simp only [Act.put, List.setIfInBounds_toArray, List.set_cons_zero, List.set_cons_succ])
            refine tk 7 (v := ?_) hHeld ?_ ?_
            rotate_left 1
            · intro _ hw; (try dsimp only at hw); go_simp; try with_reducible rfl
            (try simp only [Act.put, List.setIfInBounds_toArray, List.set_cons_zero, List.set_cons_succ])
            refine wpAnyH_ready (rs := [8]) (by kernel_rfl) (by simp) ?_
            refine AllReadyH.cons (at_list rfl) (fun K hK => ?_) AllReadyH.nil
            go_simp
            go_at_call 28; with_reducible refine (HSI.out _).mono ?_; rintro e wq ⟨rfl, hCq⟩; have HK2 := Lib.hid (HK.out.on hCq); clear hCq HK; have HK := HK2; clear HK2
            clear hHeld
            first | (refine hK.out _ _ ?_ (fun hHeld => ?_)) | (go_wp2_with fail; refine hK.out _ _ ?_ (fun hHeld => ?_))
            · (try dsimp only); exact HF401.out _ HK.out
            clear hK K
            (try simp only [Act.put, List.setIfInBounds_toArray, List.set_cons_zero, List.set_cons_succ])
            refine tk 9 (v := ?_) hHeld ?_ ?_
            rotate_left 1
            · intro _ hw; (try dsimp only at hw); go_simp; try with_reducible rfl
            (try simp only [Act.put, List.setIfInBounds_toArray, List.set_cons_zero, List.set_cons_succ])
            refine wpAnyH_done (by kernel_rfl) ?_ _
            clear hHeld
            obtain ⟨cc0, cc1, cc2, cc3, cc4, cc5, cc6, cc7, cc8, cc9, cc10, cc11, cc12, cc13, cc14⟩ := HF401.out _ HK.out
            clear cc0 cc1 cc2 cc3 cc4 cc5 cc6 cc7 cc8 cc9 cc10 cc11 cc12 cc13 cc14
            obtain ⟨hc, ⟨hm, hs⟩ | ⟨hm, hs⟩⟩ | ⟨hc, ⟨hm, hs⟩ | ⟨hm, hs⟩⟩ := HSG.out
            all_goals
              have b1 : decide (0 ≤ mo) = decide (0 ≤ mo) := rfl
              go_wp2_with fail
              go_roundw
              case rel => exact ⟨i + 1, by omega, by go_num, HK.out⟩
              case measure => simp [intOf]; omega
          · obtain rfl : i = k := by omega
            have hid : decide ((i : Int) < (i : Int)) = false := decide_eq_false (Int.lt_irrefl _)
            go_wp2_with fail
            go_roundw
            case rel => exact ⟨i + 1, by omega, by go_num, HK.out⟩
            case measure => simp [intOf]; omega
      have LS1_0 : ∀ (pf : Nat) (W : World), Kq w W [(TB, 26, [.bool sT, S nT, S dT])] → Blk W pf 26 [.bool false, S [], S []] → MS < pf → X 2 #[true, true, true, true, true, true, true, true, false, true, false] { tmps := #[.int .i64 c0, .slice a n c, undef, undef, u4, .bool true, .slice (some ⟨gw, ow, none⟩) N cw, .pointer (some ⟨TB, 0, none⟩), .slice (some ⟨g, o, none⟩) N cp, .bool true, .int .i64 k, .int .i64 z, .bool true, .pointer (some ⟨pf, 0, none⟩), u14, u15, u16, .bool true, .slice a n c, .slice (some ⟨gw, ow, none⟩) N cw, .int .i64 c0, Rv sT nT dT, .tuple #[.slice (some ⟨g, o, none⟩) N cp, .bool true], .agg #[.bool sT, .string { data := nT.toArray }, .string { data := dT.toArray }], .slice (some ⟨gw, ow, none⟩) N cw, .tuple #[.slice (some ⟨g, o, none⟩) N cp, .bool true], .slice (some ⟨g, o, none⟩) N cp, .bool true, .bool true, .bool false, undef, undef, undef, undef, undef, undef, undef, undef, undef, undef, undef, undef, .slice (some ⟨g, o, none⟩) N cp, .int .i64 N, .slice (some ⟨gw, ow, none⟩) N cw, .int .i64 N, .bool false, .bool false, .slice (some ⟨g, o, none⟩) N cp, Rv sT nT dT, .agg #[.bool sT, S nT, S dT], .bool false, .bool false, .int .i64 k, .slice (some ⟨g, o, none⟩) N cp, .int .i64 N, .bool true, u57, u58, .tuple #[.int .i64 z, .bool true], .slice (some ⟨g, o, none⟩) N cp, .int .i64 k, .pointer (some ⟨g, o + k * 3, none⟩), .agg #[.bool spk, S npk, S dpk], .tuple #[.int .i64 z, .bool true], .int .i64 z, .bool true, .slice (some ⟨g, o, none⟩) N cp, .int .i64 k, .pointer (some ⟨g, o + k * 3, none⟩), Rv spk npk dpk, Rv sT nT dT, .slice (some ⟨gw, ow, none⟩) N cw, .int .i64 k, Rv sq nq dq, u75, u76, u77, u78, u79, u80, u81, u82, u83, u84, u85, u86, u87, u88, u89, u90, u91, u92, u93, u94, u95, u96, u97, u98, u99, u100, u101, u102, u103, u104, u105, u106, u107, u108, u109, u110, u111, u112, u113, u114, u115, u116, u117, u118, u119, u120, u121, u122, u123, u124, u125, undef], defers := [] } W := by
        intro pf W hK0 bpf gpf
        have HK := Lib.hid hK0
        clear hK0
        have hHeld := HF201.out _ HK.out
        refine HXO.out _ _ _ _ ?_
        refine wpAnyH_ready (rs := [8]) (by kernel_rfl) (by simp) ?_
        refine AllReadyH.cons (at_list rfl) (fun K hK => ?_) (AllReadyH.nil)
        · go_simp
          go_at_call 27
          with_reducible refine (HSB.out _).mono ?_
          rintro e wq ⟨rfl, hCq⟩
          have HK2 := Lib.hid (HK.out.on hCq)
          clear hHeld
          first | (refine hK.out _ _ ?_ (fun hHeld => ?_)) | (go_wp2_with fail; refine hK.out _ _ ?_ (fun hHeld => ?_))
          · (try dsimp only); exact HF201.out _ HK2.out
          (try simp only [List.setIfInBounds_toArray, List.set_cons_zero, List.set_cons_succ])
          exact HXI.out _ _ _ _ (LS2_0 _ _ HK2.out (hCq.blk bpf (Blk.lt bpf) (fun q => q)) gpf)
      have LS2_ : ∀ (W : World), Kq w W [(TB, 26, [.bool sT, S nT, S dT])] → X 2 #[true, true, true, true, true, true, true, true, true, false, false] { tmps := #[.int .i64 c0, .slice a n c, undef, undef, u4, .bool true, .slice (some ⟨gw, ow, none⟩) N cw, .pointer (some ⟨TB, 0, none⟩), .slice (some ⟨g, o, none⟩) N cp, .bool true, .int .i64 k, .int .i64 z, .bool true, u13, u14, u15, u16, .bool true, .slice a n c, .slice (some ⟨gw, ow, none⟩) N cw, .int .i64 c0, Rv sT nT dT, .tuple #[.slice (some ⟨g, o, none⟩) N cp, .bool true], .agg #[.bool sT, .string { data := nT.toArray }, .string { data := dT.toArray }], .slice (some ⟨gw, ow, none⟩) N cw, .tuple #[.slice (some ⟨g, o, none⟩) N cp, .bool true], .slice (some ⟨g, o, none⟩) N cp, .bool true, .bool true, .bool false, undef, undef, undef, undef, undef, undef, undef, undef, undef, undef, undef, undef, .slice (some ⟨g, o, none⟩) N cp, .int .i64 N, .slice (some ⟨gw, ow, none⟩) N cw, .int .i64 N, .bool false, .bool false, .slice (some ⟨g, o, none⟩) N cp, Rv sT nT dT, .agg #[.bool sT, S nT, S dT], .bool false, .bool false, .int .i64 k, .slice (some ⟨g, o, none⟩) N cp, .int .i64 N, .bool true, u57, u58, .tuple #[.int .i64 z, .bool true], .slice (some ⟨g, o, none⟩) N cp, .int .i64 k, .pointer (some ⟨g, o + k * 3, none⟩), .agg #[.bool spk, S npk, S dpk], .tuple #[.int .i64 z, .bool true], .int .i64 z, .bool true, .slice (some ⟨g, o, none⟩) N cp, .int .i64 k, .pointer (some ⟨g, o + k * 3, none⟩), Rv spk npk dpk, Rv sT nT dT, .slice (some ⟨gw, ow, none⟩) N cw, .int .i64 k, Rv sq nq dq, Rv sf nf df, u76, u77, u78, u79, u80, u81, u82, u83, u84, u85, u86, u87, u88, u89, u90, u91, u92, u93, u94, u95, u96, u97, u98, u99, u100, u101, u102, u103, u104, u105, u106, u107, u108, u109, u110, u111, u112, u113, u114, u115, u116, u117, u118, u119, u120, u121, u122, u123, u124, u125, undef], defers := [] } W := by
        intro  W hK0 
        have HK := Lib.hid hK0
        clear hK0
        have hHeld := HF201.out _ HK.out
        refine HXO.out _ _ _ _ ?_
        refine wpAnyH_ready (rs := [9]) (by kernel_rfl) (by simp) ?_
        refine AllReadyH.cons (at_list rfl) (fun K hK => ?_) (AllReadyH.nil)
        · go_simp
          have HK2 := Lib.hid (HK.out.other (.cells #[.bool false, S [], S []] 26 (0, 0)))
          have nB := Blk.new W #[.bool false, S [], S []] 26
          have nG : MS < W.heap.size := (by have := HK.out.ch.size; have := HBB.out; omega)
          clear hHeld
          refine hK.out _ _ ?_ (fun hHeld => ?_)
          · (try dsimp only); exact HF201.out _ HK2.out
          (try simp only [List.setIfInBounds_toArray, List.set_cons_zero, List.set_cons_succ])
          exact HXI.out _ _ _ _ (LS2_0 _ _ HK2.out nB nG)
      have LS0_0 : ∀ (pf : Nat) (W : World), Kq w W [(TB, 26, [.bool sT, S nT, S dT])] → Blk W pf 26 [.bool false, S [], S []] → MS < pf → X 3 #[true, true, true, true, true, true, true, false, false, true, false] { tmps := #[.int .i64 c0, .slice a n c, undef, undef, u4, .bool true, .slice (some ⟨gw, ow, none⟩) N cw, .pointer (some ⟨TB, 0, none⟩), .slice (some ⟨g, o, none⟩) N cp, .bool true, .int .i64 k, .int .i64 z, .bool true, .pointer (some ⟨pf, 0, none⟩), u14, u15, u16, .bool true, .slice a n c, .slice (some ⟨gw, ow, none⟩) N cw, .int .i64 c0, Rv sT nT dT, .tuple #[.slice (some ⟨g, o, none⟩) N cp, .bool true], .agg #[.bool sT, .string { data := nT.toArray }, .string { data := dT.toArray }], .slice (some ⟨gw, ow, none⟩) N cw, .tuple #[.slice (some ⟨g, o, none⟩) N cp, .bool true], .slice (some ⟨g, o, none⟩) N cp, .bool true, .bool true, .bool false, undef, undef, undef, undef, undef, undef, undef, undef, undef, undef, undef, undef, .slice (some ⟨g, o, none⟩) N cp, .int .i64 N, .slice (some ⟨gw, ow, none⟩) N cw, .int .i64 N, .bool false, .bool false, .slice (some ⟨g, o, none⟩) N cp, Rv sT nT dT, .agg #[.bool sT, S nT, S dT], .bool false, .bool false, .int .i64 k, .slice (some ⟨g, o, none⟩) N cp, .int .i64 N, .bool true, u57, u58, .tuple #[.int .i64 z, .bool true], .slice (some ⟨g, o, none⟩) N cp, .int .i64 k, .pointer (some ⟨g, o + k * 3, none⟩), .agg #[.bool spk, S npk, S dpk], .tuple #[.int .i64 z, .bool true], .int .i64 z, .bool true, .slice (some ⟨g, o, none⟩) N cp, .int .i64 k, .pointer (some ⟨g, o + k * 3, none⟩), Rv spk npk dpk, Rv sT nT dT, .slice (some ⟨gw, ow, none⟩) N cw, .int .i64 k, u74, u75, u76, u77, u78, u79, u80, u81, u82, u83, u84, u85, u86, u87, u88, u89, u90, u91, u92, u93, u94, u95, u96, u97, u98, u99, u100, u101, u102, u103, u104, u105, u106, u107, u108, u109, u110, u111, u112, u113, u114, u115, u116, u117, u118, u119, u120, u121, u122, u123, u124, u125, undef], defers := [] } W := by
        intro pf W hK0 bpf gpf
        have HK := Lib.hid hK0
        clear hK0
        have hHeld := HF201.out _ HK.out
        refine HXO.out _ _ _ _ ?_
        refine wpAnyH_ready (rs := [7]) (by kernel_rfl) (by simp) ?_
        refine AllReadyH.cons (at_list rfl) (fun K hK => ?_) (AllReadyH.nil)
        · go_simp
          go_at_call 37
          with_reducible refine (HQU.out _ HK.out.ch).mono ?_
          rintro e wq ⟨rfl, hCq⟩
          have HK2 := Lib.hid (HK.out.on hCq)
          clear hHeld
          first | (refine hK.out _ _ ?_ (fun hHeld => ?_)) | (go_wp2_with fail; refine hK.out _ _ ?_ (fun hHeld => ?_))
          · (try dsimp only); exact HF201.out _ HK2.out
          (try simp only [List.setIfInBounds_toArray, List.set_cons_zero, List.set_cons_succ])
          exact HXI.out _ _ _ _ (LS1_0 _ _ HK2.out (hCq.blk bpf (Blk.lt bpf) (fun q => q)) gpf)
      have LS1_ : ∀ (W : World), Kq w W [(TB, 26, [.bool sT, S nT, S dT])] → X 3 #[true, true, true, true, true, true, true, true, false, false, false] { tmps := #[.int .i64 c0, .slice a n c, undef, undef, u4, .bool true, .slice (some ⟨gw, ow, none⟩) N cw, .pointer (some ⟨TB, 0, none⟩), .slice (some ⟨g, o, none⟩) N cp, .bool true, .int .i64 k, .int .i64 z, .bool true, u13, u14, u15, u16, .bool true, .slice a n c, .slice (some ⟨gw, ow, none⟩) N cw, .int .i64 c0, Rv sT nT dT, .tuple #[.slice (some ⟨g, o, none⟩) N cp, .bool true], .agg #[.bool sT, .string { data := nT.toArray }, .string { data := dT.toArray }], .slice (some ⟨gw, ow, none⟩) N cw, .tuple #[.slice (some ⟨g, o, none⟩) N cp, .bool true], .slice (some ⟨g, o, none⟩) N cp, .bool true, .bool true, .bool false, undef, undef, undef, undef, undef, undef, undef, undef, undef, undef, undef, undef, .slice (some ⟨g, o, none⟩) N cp, .int .i64 N, .slice (some ⟨gw, ow, none⟩) N cw, .int .i64 N, .bool false, .bool false, .slice (some ⟨g, o, none⟩) N cp, Rv sT nT dT, .agg #[.bool sT, S nT, S dT], .bool false, .bool false, .int .i64 k, .slice (some ⟨g, o, none⟩) N cp, .int .i64 N, .bool true, u57, u58, .tuple #[.int .i64 z, .bool true], .slice (some ⟨g, o, none⟩) N cp, .int .i64 k, .pointer (some ⟨g, o + k * 3, none⟩), .agg #[.bool spk, S npk, S dpk], .tuple #[.int .i64 z, .bool true], .int .i64 z, .bool true, .slice (some ⟨g, o, none⟩) N cp, .int .i64 k, .pointer (some ⟨g, o + k * 3, none⟩), Rv spk npk dpk, Rv sT nT dT, .slice (some ⟨gw, ow, none⟩) N cw, .int .i64 k, Rv sq nq dq, u75, u76, u77, u78, u79, u80, u81, u82, u83, u84, u85, u86, u87, u88, u89, u90, u91, u92, u93, u94, u95, u96, u97, u98, u99, u100, u101, u102, u103, u104, u105, u106, u107, u108, u109, u110, u111, u112, u113, u114, u115, u116, u117, u118, u119, u120, u121, u122, u123, u124, u125, undef], defers := [] } W := by
        intro  W hK0 
        have HK := Lib.hid hK0
        clear hK0
        have hHeld := HF201.out _ HK.out
        refine HXO.out _ _ _ _ ?_
        refine wpAnyH_ready (rs := [8, 9]) (by kernel_rfl) (by simp) ?_
        refine AllReadyH.cons (at_list rfl) (fun K hK => ?_) (AllReadyH.cons (at_list rfl) (fun K hK => ?_) (AllReadyH.nil))
        · go_simp
          go_at_call 27
          with_reducible refine (HSB.out _).mono ?_
          rintro e wq ⟨rfl, hCq⟩
          have HK2 := Lib.hid (HK.out.on hCq)
          clear hHeld
          first | (refine hK.out _ _ ?_ (fun hHeld => ?_)) | (go_wp2_with fail; refine hK.out _ _ ?_ (fun hHeld => ?_))
          · (try dsimp only); exact HF201.out _ HK2.out
          (try simp only [List.setIfInBounds_toArray, List.set_cons_zero, List.set_cons_succ])
          exact HXI.out _ _ _ _ (LS2_ _ HK2.out)
        · go_simp
          have HK2 := Lib.hid (HK.out.other (.cells #[.bool false, S [], S []] 26 (0, 0)))
          have nB := Blk.new W #[.bool false, S [], S []] 26
          have nG : MS < W.heap.size := (by have := HK.out.ch.size; have := HBB.out; omega)
          clear hHeld
          refine hK.out _ _ ?_ (fun hHeld => ?_)
          · (try dsimp only); exact HF201.out _ HK2.out
          (try simp only [List.setIfInBounds_toArray, List.set_cons_zero, List.set_cons_succ])
          exact HXI.out _ _ _ _ (LS1_0 _ _ HK2.out nB nG)
      have LS0_ : ∀ (W : World), Kq w W [(TB, 26, [.bool sT, S nT, S dT])] → X 4 #[true, true, true, true, true, true, true, false, false, false, false] { tmps := #[.int .i64 c0, .slice a n c, undef, undef, u4, .bool true, .slice (some ⟨gw, ow, none⟩) N cw, .pointer (some ⟨TB, 0, none⟩), .slice (some ⟨g, o, none⟩) N cp, .bool true, .int .i64 k, .int .i64 z, .bool true, u13, u14, u15, u16, .bool true, .slice a n c, .slice (some ⟨gw, ow, none⟩) N cw, .int .i64 c0, Rv sT nT dT, .tuple #[.slice (some ⟨g, o, none⟩) N cp, .bool true], .agg #[.bool sT, .string { data := nT.toArray }, .string { data := dT.toArray }], .slice (some ⟨gw, ow, none⟩) N cw, .tuple #[.slice (some ⟨g, o, none⟩) N cp, .bool true], .slice (some ⟨g, o, none⟩) N cp, .bool true, .bool true, .bool false, undef, undef, undef, undef, undef, undef, undef, undef, undef, undef, undef, undef, .slice (some ⟨g, o, none⟩) N cp, .int .i64 N, .slice (some ⟨gw, ow, none⟩) N cw, .int .i64 N, .bool false, .bool false, .slice (some ⟨g, o, none⟩) N cp, Rv sT nT dT, .agg #[.bool sT, S nT, S dT], .bool false, .bool false, .int .i64 k, .slice (some ⟨g, o, none⟩) N cp, .int .i64 N, .bool true, u57, u58, .tuple #[.int .i64 z, .bool true], .slice (some ⟨g, o, none⟩) N cp, .int .i64 k, .pointer (some ⟨g, o + k * 3, none⟩), .agg #[.bool spk, S npk, S dpk], .tuple #[.int .i64 z, .bool true], .int .i64 z, .bool true, .slice (some ⟨g, o, none⟩) N cp, .int .i64 k, .pointer (some ⟨g, o + k * 3, none⟩), Rv spk npk dpk, Rv sT nT dT, .slice (some ⟨gw, ow, none⟩) N cw, .int .i64 k, u74, u75, u76, u77, u78, u79, u80, u81, u82, u83, u84, u85, u86, u87, u88, u89, u90, u91, u92, u93, u94, u95, u96, u97, u98, u99, u100, u101, u102, u103, u104, u105, u106, u107, u108, u109, u110, u111, u112, u113, u114, u115, u116, u117, u118, u119, u120, u121, u122, u123, u124, u125, undef], defers := [] } W := by
        intro  W hK0 
        have HK := Lib.hid hK0
        clear hK0
        have hHeld := HF201.out _ HK.out
        refine HXO.out _ _ _ _ ?_
        refine wpAnyH_ready (rs := [7, 9]) (by kernel_rfl) (by simp) ?_
        refine AllReadyH.cons (at_list rfl) (fun K hK => ?_) (AllReadyH.cons (at_list rfl) (fun K hK => ?_) (AllReadyH.nil))
        · go_simp
          go_at_call 37
          with_reducible refine (HQU.out _ HK.out.ch).mono ?_
          rintro e wq ⟨rfl, hCq⟩
          have HK2 := Lib.hid (HK.out.on hCq)
          clear hHeld
          first | (refine hK.out _ _ ?_ (fun hHeld => ?_)) | (go_wp2_with fail; refine hK.out _ _ ?_ (fun hHeld => ?_))
          · (try dsimp only); exact HF201.out _ HK2.out
          (try simp only [List.setIfInBounds_toArray, List.set_cons_zero, List.set_cons_succ])
          exact HXI.out _ _ _ _ (LS1_ _ HK2.out)
        · go_simp
          have HK2 := Lib.hid (HK.out.other (.cells #[.bool false, S [], S []] 26 (0, 0)))
          have nB := Blk.new W #[.bool false, S [], S []] 26
          have nG : MS < W.heap.size := (by have := HK.out.ch.size; have := HBB.out; omega)
          clear hHeld
          refine hK.out _ _ ?_ (fun hHeld => ?_)
          · (try dsimp only); exact HF201.out _ HK2.out
          (try simp only [List.setIfInBounds_toArray, List.set_cons_zero, List.set_cons_succ])
          exact HXI.out _ _ _ _ (LS0_0 _ _ HK2.out nB nG)
      exact LS0_ _ HK0.out
    · obtain rfl : k = N := by omega
      have hkd : decide ((k : Int) < (k : Int)) = false := decide_eq_false (Int.lt_irrefl _)
      go_wp2_with fail
      go_ret
      exact ⟨rfl, HCC.out.step0 HK.out.ch (Nat.le_refl _)⟩
end Go.Proofs.YtnblmmhpndnjcaaGreatDoor
