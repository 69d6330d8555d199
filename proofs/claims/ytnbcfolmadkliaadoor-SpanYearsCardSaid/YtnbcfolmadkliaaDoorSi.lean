/- Package span: the iterator of the changes: the walk. -/
import Derived.Test.YtnbcfolmadkliaaDoorSh
namespace Go.Proofs.YtnbcfolmadkliaaDoor
open Go.RowKit Go.Shelf
attribute [local go_sem] Oper.semAt_some
set_option maxRecDepth 100000 in
set_option maxHeartbeats 4000000 in
theorem changes1_in (n : Nat) (hn : 2 ≤ n) (l : Nat) (a b : List Spn.Sp) (pa pb : Option Addr) (na nb ca cb gL Bx n0 : Nat) (tL tB : TypeId) (W : World) (J : Nat → Int → World → Prop)
    (hn0 : W.heap.size = n0) (hBx : Blk W Bx tB [.slice (some ⟨gL, 0, none⟩) 2 2]) (hL : Blk W gL tL [.slice pa na ca, .slice pb nb cb]) (ha : Rd spc 2 W pa na a) (hb : Rd spc 2 W pb nb b) (hna : na ≤ 4000000) (hnb : nb ≤ 4000000)
    (hJ : ∀ n1 s A B, J n1 s A → Own n0 n1 A B → J n1 s B)
    (hY : ∀ n1 t c W1, n0 ≤ n1 → J n1 t W1 → ChgOk a b n0 n1 t c W1 → YieldAt Fence.wide (n - 1) Tryd.prog l c.vals W1 fun e W' => e = .returned (.bool true) ∧ J n1 c.day W' ∧ Kpt n0 n1 W1 W')
    (h0 : ∀ W', Below n0 W W' → J W'.heap.size (-1) W') :
    CallsIn Fence.wide n Tryd.prog 46 #[.func (.yield l) #[] #[], .pointer (some ⟨Bx, 0, none⟩)] W fun e W' => (∃ v, e = .returned v) ∧ ∃ n1 t, n0 ≤ n1 ∧ Spn.Fin a b t ∧ J n1 t W' := by
  have HJ := Lib.hid hJ
  have HY := Lib.hid hY
  have H0 := Lib.hid h0
  have HB := Lib.hid ((callsIn_wide (n := n - 1)).2 (bounds_any a b pa pb na nb ca cb gL tL W ha hb hL hna hnb))
  have HBX := Lib.hid hBx
  have hm1 := make_ints
  have hm2 := make_bools
  have cx := hBx.cell 0
  simp only [List.getElem?_cons_zero] at cx
  clear hJ hY h0 hBx hL ha hb
  have h1 : 1 ≤ n := by omega
  refine callsIn_of_wp Tryd.func46 rfl trivial ?_ rfl
  simp only [Tryd.ntmps46, List.size_toArray, List.length_cons, List.length_nil, Nat.reduceAdd, Nat.reduceSub, Array.replicate_succ, Array.replicate_zero, List.push_toArray, List.append_toArray, List.nil_append, List.cons_append]
  gi_wp2
  refine ⟨trivial, ?_⟩
  refine HB.out.mono ?_
  rintro e w1 ⟨p, m, c, B, rfl, hS, hr, hm, hC, hp⟩
  have hgx : Bx < W.heap.size := HBX.out.lt
  have cx1 : w1.cell? ⟨Bx, 0, none⟩ = some (.slice (some ⟨gL, 0, none⟩) 2 2) := by rw [hC.cell (p := ⟨Bx, 0, none⟩) hgx (fun q => q)]; exact cx
  have cx2 : ∀ o, (w1.alloc o).cell? ⟨Bx, 0, none⟩ = some (.slice (some ⟨gL, 0, none⟩) 2 2) := fun o => by
    rw [((Ch.refl w1.heap.size none1 w1).alloc (Nat.le_refl _) o).cell (p := ⟨Bx, 0, none⟩) (by have := hC.size; show Bx < _; omega) (fun q => q)]; exact cx1
  have HS := Lib.hid hS
  have HR := Lib.hid hr
  have HM := Lib.hid hm
  have HC := Lib.hid hC
  have HP := Lib.hid hp
  clear hS hr hm hC hp cx hgx
  gi_wp2
  obtain ⟨gd, hgd⟩ : ∃ gd, w1.heap.size = gd := ⟨_, rfl⟩
  have h3 : Own3 w1 ((w1.alloc (.cells #[iz 0, iz 0] 3)).alloc (.cells #[.bool false, .bool false] 4)) n0 (gd + 1 + 1) gd (gd + 1) p m B [] := by
    have hsz := HC.out.size
    have hlt := HR.out.lt
    have hge := HP.out
    rw [hgd] at hlt
    rw [hn0] at hge
    have hC2 : Ch w1.heap.size none1 w1 ((w1.alloc (.cells #[iz 0, iz 0] 3)).alloc (.cells #[.bool false, .bool false] 4)) := ((Ch.refl _ _ w1).alloc (Nat.le_refl _) _).alloc (by simp) _
    refine ⟨?_, ?_, HR.out.ch hC2, ⟨by omega, by omega⟩, ⟨by omega, by omega⟩, fun x hx => ⟨hge x hx, by have := hlt x hx; omega, by have := hlt x hx; omega, by have := hlt x hx; omega⟩, by omega, by simp; omega⟩
    · rw [← hgd]; exact (Blk.new w1 _ _).alloc _
    · have := Blk.new (w1.alloc (.cells #[iz 0, iz 0] 3)) #[.bool false, .bool false] 4
      simp only [World.size_alloc, hgd] at this
      exact this
  have hj0 : J (gd + 1 + 1) (-1) ((w1.alloc (.cells #[iz 0, iz 0] 3)).alloc (.cells #[.bool false, .bool false] 4)) := by
    have := H0.out ((w1.alloc (.cells #[iz 0, iz 0] 3)).alloc (.cells #[.bool false, .bool false] 4)) (by
      have hsz := HC.out.size
      rw [← hn0]
      exact (HC.out.below.alloc hsz _).alloc (by simp; omega) _)
    simpa [hgd] using this
  have H3 := Lib.hid h3
  have HJ0 := Lib.hid hj0
  have HN1 := Lib.hid (show n0 ≤ gd + 1 + 1 by have := HC.out.size; omega)
  have HSZ := Lib.hid hgd
  rw [hgd]
  clear h3 hj0 hgd cx1 cx2 hm1 hm2
  gi_loopw [19] (fun i wr => ∃ (P R : List Spn.Bd) (t : Int), B = P ++ R ∧ i = .int .i64 (P.length : Int) ∧ Spn.Mid P R t ∧ Own3 w1 wr n0 (gd + 1 + 1) gd (gd + 1) p m B P ∧ J (gd + 1 + 1) t wr) (fun i _ => m - (intOf i).toNat)
  case atStart => exact ⟨[], B, -1, rfl, rfl, Spn.Mid.start HS.out, H3.out, HJ0.out⟩
  case round =>
    clear H3 HJ0
    obtain ⟨P, R, t, hB, rfl, hmid, hown, hj⟩ := hrel
    have HBB := Lib.hid hB
    have HMID := Lib.hid hmid
    have HOWN := Lib.hid hown
    have HJR := Lib.hid hj
    have hml := HR.out.len
    rw [hB, List.length_append] at hml
    have HML := Lib.hid hml
    clear hB hmid hown hj
    cases R with
    | nil =>
      have hkm : P.length = m := by simpa using hml
      have hnlt : ¬ ((P.length : Int) < (m : Int)) := by omega
      clear hml
      gi_wp2
      go_end0
      have hE := HBB.out
      rw [List.append_nil] at hE
      have hmm := HMID.out
      rw [← hE] at hmm
      exact ⟨⟨_, rfl⟩, _, HN1.out, t, HS.out.fin hmm, HJR.out⟩
    | cons x R =>
      obtain ⟨c0, i, s⟩ := x
      have hkm : P.length < m := by simp at hml; omega
      clear hml
      have hx : B[P.length]? = some (c0, i, s) := by rw [HBB.out]; simp
      obtain ⟨g, o, rfl, hg⟩ := HR.out.addr (by omega)
      obtain ⟨e0, e1, e2⟩ := HOWN.out.s.bd hx
      have hin : i = 0 ∨ i = 1 := (HS.out.mem (x := (c0, i, s)) (by rw [HBB.out]; simp)).2.2.1
      have hsn : s = 1 ∨ s = -1 := (HS.out.mem (x := (c0, i, s)) (by rw [HBB.out]; simp)).2.2.2
      have hdb : ∀ i, -16000000 ≤ Spn.dep i P ∧ Spn.dep i P ≤ 16000000 := fun i => by
        have h1 := dep_bd i P fun x hx => (HS.out.mem (x := x) (by rw [HBB.out]; simp [hx])).2.2.2
        have h2 := HM.out
        omega
      obtain ⟨X, hX⟩ : ∃ X, wr.heap.size = X := ⟨_, rfl⟩
      have hsz3 := HOWN.out.sz
      rw [hX] at hsz3
      have hmb := HM.out
      have HSS := Lib.hid (show Spn.Srt a b (P ++ (c0, i, s) :: R) by rw [← HBB.out]; exact HS.out)
      have HA := Lib.hid (show ∀ z ∈ R, c0 ≤ z.1 from (List.pairwise_cons.1 (List.pairwise_append.1 HSS.out.asc).2.1).1)
      rcases hin with rfl | rfl
      · have hbx := Blk.new wr #[iz c0, iz 0, iz s] 70
        rw [hX] at hbx
        have b0 := hbx.cell 0
        have b1 := hbx.cell 1
        have b2 := hbx.cell 2
        have hdd := HOWN.out.d.alloc (.cells #[iz c0, iz 0, iz s] 70)
        have hhh := HOWN.out.h.alloc (.cells #[iz c0, iz 0, iz s] 70)
        have d0 := hdd.cell 0
        have f0 := hdd.frozen 0
        simp only [List.getElem?_cons_zero, List.getElem?_cons_succ] at b0 b1 b2 d0
        obtain ⟨D, hD⟩ : ∃ D, Spn.dep 0 P = D := ⟨_, rfl⟩
        have hdb0 := hdb 0
        rw [hD] at d0 hdb0
        have HD := Lib.hid hD
        have hw : IntKind.i64.wrap (D + s) = D + s := by simp [IntKind.wrap, IntKind.bits, IntKind.signed]; omega
        have HBX2 := Lib.hid (((hbx.set_other (g' := gd) (by omega) 0 (iz (D + s)))).drew)
        have HDD2 := Lib.hid ((hdd.set 0 (iz (D + s))).drew)
        have HHH2 := Lib.hid ((hhh.set_other (g' := gd) (by omega) 0 (iz (D + s))).drew)
        clear hD hbx hdd hhh hdb
        gi_wp2
        gi_region
        obtain ⟨W2, hW2⟩ : ∃ W2, ((wr.alloc (.cells #[iz c0, iz 0, iz s] 70)).setCell ⟨gd, 0, none⟩ (iz (D + s))).drew = W2 := ⟨_, rfl⟩
        rw [hW2] at HBX2 HDD2 HHH2 ⊢
        have HW2 := Lib.hid hW2
        clear hW2 b0 b1 b2 d0 f0 e0 e1 e2 hw
        have b0 := HBX2.out.cell 0
        have b1 := HBX2.out.cell 1
        have d0 := HDD2.out.cell 0
        have h0 := HHH2.out.cell 0
        have f0 := HHH2.out.frozen 0
        simp only [List.getElem?_cons_zero, List.getElem?_cons_succ, List.set_cons_zero] at b0 b1 d0 h0
        gi_wp2
        gi_region
        obtain ⟨W3, hW3⟩ : ∃ W3, (W2.setCell ⟨gd + 1, 0, none⟩ (.bool (decide (0 < D + s)))).drew = W3 := ⟨_, rfl⟩
        have hs3 := HOWN.out.step c0 0 s (.cells #[iz c0, iz 0, iz s] 70) (by omega) (D + s) (by rw [HD.out]) (decide (0 < D + s)) rfl
        have hheap : W3.heap = (((wr.alloc (.cells #[iz c0, iz 0, iz s] 70)).setCell ⟨gd, Int.toNat 0, none⟩ (iz (D + s))).setCell ⟨gd + 1, Int.toNat 0, none⟩ (.bool (decide (0 < D + s)))).heap := by rw [← hW3, ← HW2.out]; rfl
        have HO3 := Lib.hid (hs3.1.heap hheap)
        have HJ3 := Lib.hid (HJ.out _ _ wr W3 HJR.out (hs3.2.heap hheap (by rw [← hW3, ← HW2.out]; exact ⟨rfl, rfl, rfl⟩)))
        have q0 : W3.cell? ⟨X, 0, none⟩ = some (iz c0) := by rw [← hW3]; exact (HBX2.out.set_other (g' := gd + 1) (by omega) 0 _).drew.cell 0
        rw [hW3]
        clear hs3 hheap b0 b1 d0 h0 f0 hW3 HW2 HBX2 HDD2 HHH2
        cases R with
        | nil =>
          have hkm2 : P.length + 1 = m := by have := HML.out; simp at this; omega
          have hq : (((P.length : Int) + 1) == (m : Int)) = true := beq_iff_eq.2 (by omega)
          have hnx := HMID.out.next (fun z hz => by cases hz)
          have hok : ChgOk a b n0 (gd + 1 + 1) t ⟨c0, gd + 1, decide (0 < Spn.dep 0 (P ++ [(c0, 0, s)])), decide (0 < Spn.dep 1 (P ++ [(c0, 0, s)]))⟩ W3 :=
            ⟨HSS.out.stp HMID.out, (HSS.out.now0 HMID.out (fun z hz => by cases hz)).symm, (HSS.out.now1 HMID.out (fun z hz => by cases hz)).symm, HO3.out.hg.1, HO3.out.hg.2, HO3.out.h⟩
          have HOK := Lib.hid hok
          have HNX := Lib.hid hnx
          clear hnx hok
          gi_wp2
          gi_quiet (fail)
          obtain ⟨W5, hW5⟩ : ∃ W5, W3.drewN nq = W5 := ⟨_, rfl⟩
          have h5 : W5.heap = W3.heap := by rw [← hW5]; rfl
          have r0 : W5.cell? ⟨X, 0, none⟩ = some (iz c0) := by rw [← hW5]; exact q0
          have HO5 := Lib.hid (HO3.out.heap h5)
          obtain ⟨fn, tmps, assign, body, hyy, hRR⟩ := HY.out _ t _ W5 HN1.out (HJ.out _ _ W3 W5 HJ3.out ((Own.refl _ _ _).heap h5 (by rw [← hW5]; exact ⟨rfl, rfl, rfl⟩))) (HOK.out.heap h5)
          dsimp only [Chg.vals] at hyy
          rw [hW5]
          clear hW5 h5
          gi_wp2
          refine hRR.mono ?_
          rintro e W4 ⟨rfl, hJ4, hk4⟩
          have HJ4 := Lib.hid hJ4
          have HO4 := Lib.hid (HO5.out.kpt hk4)
          clear hyy hJ4 hk4
          gi_wp2
          go_roundw
          case rel => exact ⟨P ++ [(c0, 0, s)], _, c0, by rw [HBB.out]; simp, by simp, HNX.out, HO4.out, HJ4.out⟩
          case measure => simp [intOf]; omega
        | cons y R2 =>
          obtain ⟨y0, y1, y2⟩ := y
          have hkm2 : P.length + 1 < m := by have := HML.out; simp at this; omega
          have HA2 := Lib.hid (show ∀ z ∈ R2, y0 ≤ z.1 from (List.pairwise_cons.1 (List.pairwise_cons.1 (List.pairwise_append.1 HSS.out.asc).2.1).2).1)
          have hy : B[P.length + 1]? = some (y0, y1, y2) := by rw [HBB.out, List.getElem?_append_right (by omega), show P.length + 1 - P.length = 1 by omega]; rfl
          by_cases hlt : c0 < y0
          · skip
            have hq : (((P.length : Int) + 1) == (m : Int)) = false := beq_eq_false_iff_ne.2 (by omega)
            have hgt : decide (c0 < y0) = true := decide_eq_true hlt
            obtain ⟨v0, _, _⟩ := HO3.out.s.bd hy
            have HLT := Lib.hid hlt
            clear hlt hy
            have hnx := HMID.out.next (fun z hz => by rcases List.mem_cons.1 hz with rfl | hz; exact HLT.out; exact Int.lt_of_lt_of_le HLT.out (HA2.out z hz))
            have hok : ChgOk a b n0 (gd + 1 + 1) t ⟨c0, gd + 1, decide (0 < Spn.dep 0 (P ++ [(c0, 0, s)])), decide (0 < Spn.dep 1 (P ++ [(c0, 0, s)]))⟩ W3 :=
              ⟨HSS.out.stp HMID.out, (HSS.out.now0 HMID.out (fun z hz => by rcases List.mem_cons.1 hz with rfl | hz; exact HLT.out; exact Int.lt_of_lt_of_le HLT.out (HA2.out z hz))).symm, (HSS.out.now1 HMID.out (fun z hz => by rcases List.mem_cons.1 hz with rfl | hz; exact HLT.out; exact Int.lt_of_lt_of_le HLT.out (HA2.out z hz))).symm, HO3.out.hg.1, HO3.out.hg.2, HO3.out.h⟩
            have HOK := Lib.hid hok
            have HNX := Lib.hid hnx
            clear hnx hok
            gi_wp2
            gi_quiet (fail)
            obtain ⟨W5, hW5⟩ : ∃ W5, W3.drewN nq = W5 := ⟨_, rfl⟩
            have h5 : W5.heap = W3.heap := by rw [← hW5]; rfl
            have r0 : W5.cell? ⟨X, 0, none⟩ = some (iz c0) := by rw [← hW5]; exact q0
            have HO5 := Lib.hid (HO3.out.heap h5)
            obtain ⟨fn, tmps, assign, body, hyy, hRR⟩ := HY.out _ t _ W5 HN1.out (HJ.out _ _ W3 W5 HJ3.out ((Own.refl _ _ _).heap h5 (by rw [← hW5]; exact ⟨rfl, rfl, rfl⟩))) (HOK.out.heap h5)
            dsimp only [Chg.vals] at hyy
            rw [hW5]
            clear hW5 h5
            gi_wp2
            refine hRR.mono ?_
            rintro e W4 ⟨rfl, hJ4, hk4⟩
            have HJ4 := Lib.hid hJ4
            have HO4 := Lib.hid (HO5.out.kpt hk4)
            clear hyy hJ4 hk4
            gi_wp2
            go_roundw
            case rel => exact ⟨P ++ [(c0, 0, s)], _, c0, by rw [HBB.out]; simp, by simp, HNX.out, HO4.out, HJ4.out⟩
            case measure => simp [intOf]; omega
          · skip
            have hq : (((P.length : Int) + 1) == (m : Int)) = false := beq_eq_false_iff_ne.2 (by omega)
            have hgt : decide (c0 < y0) = false := decide_eq_false hlt
            obtain ⟨v0, _, _⟩ := HO3.out.s.bd hy
            have HLT := Lib.hid hlt
            clear hlt hy
            have hnx := HMID.out.same (show c0 = y0 from Int.le_antisymm (HA.out (y0, y1, y2) (by simp)) (by have := HLT.out; omega))
            have HNX := Lib.hid hnx
            clear hnx
            gi_wp2
            gi_quiet (fail)
            gi_wp2
            refine ⟨fun _ h => (by cases h), ?_⟩
            gi_wp2
            go_roundw
            case rel => exact ⟨P ++ [(c0, 0, s)], _, t, by rw [HBB.out]; simp, by simp, HNX.out, HO3.out.heap rfl, HJ.out _ _ W3 _ HJ3.out ((Own.refl _ _ _).heap rfl ⟨rfl, rfl, rfl⟩)⟩
            case measure => simp [intOf]; omega
      · have hbx := Blk.new wr #[iz c0, iz 1, iz s] 70
        rw [hX] at hbx
        have b0 := hbx.cell 0
        have b1 := hbx.cell 1
        have b2 := hbx.cell 2
        have hdd := HOWN.out.d.alloc (.cells #[iz c0, iz 1, iz s] 70)
        have hhh := HOWN.out.h.alloc (.cells #[iz c0, iz 1, iz s] 70)
        have d0 := hdd.cell 1
        have f0 := hdd.frozen 1
        simp only [List.getElem?_cons_zero, List.getElem?_cons_succ] at b0 b1 b2 d0
        obtain ⟨D, hD⟩ : ∃ D, Spn.dep 1 P = D := ⟨_, rfl⟩
        have hdb0 := hdb 1
        rw [hD] at d0 hdb0
        have HD := Lib.hid hD
        have hw : IntKind.i64.wrap (D + s) = D + s := by simp [IntKind.wrap, IntKind.bits, IntKind.signed]; omega
        have HBX2 := Lib.hid (((hbx.set_other (g' := gd) (by omega) 1 (iz (D + s)))).drew)
        have HDD2 := Lib.hid ((hdd.set 1 (iz (D + s))).drew)
        have HHH2 := Lib.hid ((hhh.set_other (g' := gd) (by omega) 1 (iz (D + s))).drew)
        clear hD hbx hdd hhh hdb
        gi_wp2
        gi_region
        obtain ⟨W2, hW2⟩ : ∃ W2, ((wr.alloc (.cells #[iz c0, iz 1, iz s] 70)).setCell ⟨gd, 1, none⟩ (iz (D + s))).drew = W2 := ⟨_, rfl⟩
        rw [hW2] at HBX2 HDD2 HHH2 ⊢
        have HW2 := Lib.hid hW2
        clear hW2 b0 b1 b2 d0 f0 e0 e1 e2 hw
        have b0 := HBX2.out.cell 0
        have b1 := HBX2.out.cell 1
        have d0 := HDD2.out.cell 1
        have h0 := HHH2.out.cell 1
        have f0 := HHH2.out.frozen 1
        simp only [List.getElem?_cons_zero, List.getElem?_cons_succ, List.set_cons_zero, List.set_cons_succ] at b0 b1 d0 h0
        gi_wp2
        gi_region
        obtain ⟨W3, hW3⟩ : ∃ W3, (W2.setCell ⟨gd + 1, 1, none⟩ (.bool (decide (0 < D + s)))).drew = W3 := ⟨_, rfl⟩
        have hs3 := HOWN.out.step c0 1 s (.cells #[iz c0, iz 1, iz s] 70) (by omega) (D + s) (by rw [HD.out]) (decide (0 < D + s)) rfl
        have hheap : W3.heap = (((wr.alloc (.cells #[iz c0, iz 1, iz s] 70)).setCell ⟨gd, Int.toNat 1, none⟩ (iz (D + s))).setCell ⟨gd + 1, Int.toNat 1, none⟩ (.bool (decide (0 < D + s)))).heap := by rw [← hW3, ← HW2.out]; rfl
        have HO3 := Lib.hid (hs3.1.heap hheap)
        have HJ3 := Lib.hid (HJ.out _ _ wr W3 HJR.out (hs3.2.heap hheap (by rw [← hW3, ← HW2.out]; exact ⟨rfl, rfl, rfl⟩)))
        have q0 : W3.cell? ⟨X, 0, none⟩ = some (iz c0) := by rw [← hW3]; exact (HBX2.out.set_other (g' := gd + 1) (by omega) 1 _).drew.cell 0
        rw [hW3]
        clear hs3 hheap b0 b1 d0 h0 f0 hW3 HW2 HBX2 HDD2 HHH2
        cases R with
        | nil =>
          have hkm2 : P.length + 1 = m := by have := HML.out; simp at this; omega
          have hq : (((P.length : Int) + 1) == (m : Int)) = true := beq_iff_eq.2 (by omega)
          have hnx := HMID.out.next (fun z hz => by cases hz)
          have hok : ChgOk a b n0 (gd + 1 + 1) t ⟨c0, gd + 1, decide (0 < Spn.dep 0 (P ++ [(c0, 1, s)])), decide (0 < Spn.dep 1 (P ++ [(c0, 1, s)]))⟩ W3 :=
            ⟨HSS.out.stp HMID.out, (HSS.out.now0 HMID.out (fun z hz => by cases hz)).symm, (HSS.out.now1 HMID.out (fun z hz => by cases hz)).symm, HO3.out.hg.1, HO3.out.hg.2, HO3.out.h⟩
          have HOK := Lib.hid hok
          have HNX := Lib.hid hnx
          clear hnx hok
          gi_wp2
          gi_quiet (fail)
          obtain ⟨W5, hW5⟩ : ∃ W5, W3.drewN nq = W5 := ⟨_, rfl⟩
          have h5 : W5.heap = W3.heap := by rw [← hW5]; rfl
          have r0 : W5.cell? ⟨X, 0, none⟩ = some (iz c0) := by rw [← hW5]; exact q0
          have HO5 := Lib.hid (HO3.out.heap h5)
          obtain ⟨fn, tmps, assign, body, hyy, hRR⟩ := HY.out _ t _ W5 HN1.out (HJ.out _ _ W3 W5 HJ3.out ((Own.refl _ _ _).heap h5 (by rw [← hW5]; exact ⟨rfl, rfl, rfl⟩))) (HOK.out.heap h5)
          dsimp only [Chg.vals] at hyy
          rw [hW5]
          clear hW5 h5
          gi_wp2
          refine hRR.mono ?_
          rintro e W4 ⟨rfl, hJ4, hk4⟩
          have HJ4 := Lib.hid hJ4
          have HO4 := Lib.hid (HO5.out.kpt hk4)
          clear hyy hJ4 hk4
          gi_wp2
          go_roundw
          case rel => exact ⟨P ++ [(c0, 1, s)], _, c0, by rw [HBB.out]; simp, by simp, HNX.out, HO4.out, HJ4.out⟩
          case measure => simp [intOf]; omega
        | cons y R2 =>
          obtain ⟨y0, y1, y2⟩ := y
          have hkm2 : P.length + 1 < m := by have := HML.out; simp at this; omega
          have HA2 := Lib.hid (show ∀ z ∈ R2, y0 ≤ z.1 from (List.pairwise_cons.1 (List.pairwise_cons.1 (List.pairwise_append.1 HSS.out.asc).2.1).2).1)
          have hy : B[P.length + 1]? = some (y0, y1, y2) := by rw [HBB.out, List.getElem?_append_right (by omega), show P.length + 1 - P.length = 1 by omega]; rfl
          by_cases hlt : c0 < y0
          · skip
            have hq : (((P.length : Int) + 1) == (m : Int)) = false := beq_eq_false_iff_ne.2 (by omega)
            have hgt : decide (c0 < y0) = true := decide_eq_true hlt
            obtain ⟨v0, _, _⟩ := HO3.out.s.bd hy
            have HLT := Lib.hid hlt
            clear hlt hy
            have hnx := HMID.out.next (fun z hz => by rcases List.mem_cons.1 hz with rfl | hz; exact HLT.out; exact Int.lt_of_lt_of_le HLT.out (HA2.out z hz))
            have hok : ChgOk a b n0 (gd + 1 + 1) t ⟨c0, gd + 1, decide (0 < Spn.dep 0 (P ++ [(c0, 1, s)])), decide (0 < Spn.dep 1 (P ++ [(c0, 1, s)]))⟩ W3 :=
              ⟨HSS.out.stp HMID.out, (HSS.out.now0 HMID.out (fun z hz => by rcases List.mem_cons.1 hz with rfl | hz; exact HLT.out; exact Int.lt_of_lt_of_le HLT.out (HA2.out z hz))).symm, (HSS.out.now1 HMID.out (fun z hz => by rcases List.mem_cons.1 hz with rfl | hz; exact HLT.out; exact Int.lt_of_lt_of_le HLT.out (HA2.out z hz))).symm, HO3.out.hg.1, HO3.out.hg.2, HO3.out.h⟩
            have HOK := Lib.hid hok
            have HNX := Lib.hid hnx
            clear hnx hok
            gi_wp2
            gi_quiet (fail)
            obtain ⟨W5, hW5⟩ : ∃ W5, W3.drewN nq = W5 := ⟨_, rfl⟩
            have h5 : W5.heap = W3.heap := by rw [← hW5]; rfl
            have r0 : W5.cell? ⟨X, 0, none⟩ = some (iz c0) := by rw [← hW5]; exact q0
            have HO5 := Lib.hid (HO3.out.heap h5)
            obtain ⟨fn, tmps, assign, body, hyy, hRR⟩ := HY.out _ t _ W5 HN1.out (HJ.out _ _ W3 W5 HJ3.out ((Own.refl _ _ _).heap h5 (by rw [← hW5]; exact ⟨rfl, rfl, rfl⟩))) (HOK.out.heap h5)
            dsimp only [Chg.vals] at hyy
            rw [hW5]
            clear hW5 h5
            gi_wp2
            refine hRR.mono ?_
            rintro e W4 ⟨rfl, hJ4, hk4⟩
            have HJ4 := Lib.hid hJ4
            have HO4 := Lib.hid (HO5.out.kpt hk4)
            clear hyy hJ4 hk4
            gi_wp2
            go_roundw
            case rel => exact ⟨P ++ [(c0, 1, s)], _, c0, by rw [HBB.out]; simp, by simp, HNX.out, HO4.out, HJ4.out⟩
            case measure => simp [intOf]; omega
          · skip
            have hq : (((P.length : Int) + 1) == (m : Int)) = false := beq_eq_false_iff_ne.2 (by omega)
            have hgt : decide (c0 < y0) = false := decide_eq_false hlt
            obtain ⟨v0, _, _⟩ := HO3.out.s.bd hy
            have HLT := Lib.hid hlt
            clear hlt hy
            have hnx := HMID.out.same (show c0 = y0 from Int.le_antisymm (HA.out (y0, y1, y2) (by simp)) (by have := HLT.out; omega))
            have HNX := Lib.hid hnx
            clear hnx
            gi_wp2
            gi_quiet (fail)
            gi_wp2
            refine ⟨fun _ h => (by cases h), ?_⟩
            gi_wp2
            go_roundw
            case rel => exact ⟨P ++ [(c0, 1, s)], _, t, by rw [HBB.out]; simp, by simp, HNX.out, HO3.out.heap rfl, HJ.out _ _ W3 _ HJ3.out ((Own.refl _ _ _).heap rfl ⟨rfl, rfl, rfl⟩)⟩
            case measure => simp [intOf]; omega
end Go.Proofs.YtnbcfolmadkliaaDoor
