/- The laws of layer 2: RatioField. -/
import Derived.Test.YtninbglhomdmjaaGreatDoorLa
namespace Go.Proofs.YtninbglhomdmjaaGreatDoor
open Go.RowKit
theorem C_one_of : Ans 36 #[.int .i64 1] (Rv false [1] [1]) := C_Of 1 (by decide) (by decide) nb_one
theorem C_zero_of : Ans 36 #[.int .i64 0] (Rv false [] [1]) := C_Of 0 (by decide) (by decide) nb_zero
theorem one_is : Is 1 false [1] [1] := ⟨rfl, nb_one, nb_one⟩
theorem rsum3 (a b c : Rat) : rsum [a, b, c] = a + b + c := by
  unfold rsum
  simp only [List.foldr_cons, List.foldr_nil]
  rw [Rat.add_zero, Rat.add_assoc]
theorem Kq.drewN {w W : World} {l : List (Nat × TypeId × List Value)} (h : Kq w W l) (n : Nat) : Kq w (W.drewN n) l := ⟨h.ch.drewN n, fun p hp => (h.row p hp).drewN n⟩
theorem Kq.tail {w W : World} {p : Nat × TypeId × List Value} {l : List (Nat × TypeId × List Value)} (h : Kq w W (p :: l)) : Kq w W l := ⟨h.ch, fun q hq => h.row q (.tail _ hq)⟩
theorem field_quo {a b : Rat} {s t : Bool} {n d m e : List UInt8} (za : Szq a 16) (zb : Szq b 16) (hn : n.length ≤ 400) (hd : d.length ≤ 400) (hm : m.length ≤ 400) (he : e.length ≤ 400) (ra : ratOf s n d = a) (rb : ratOf t m e = b) (ia : Is a s n d) (ib : Is b t m e) :
    (t = false ∧ m = [] ∧ e = [1] ∧ AnsT 12 #[Rv s n d, Rv t m e] (.tuple #[Rv false [] [], .bool false])) ∨
    (∃ (sq : Bool) (nq dq : List UInt8), (m == []) = false ∧ AnsT 12 #[Rv s n d, Rv t m e] (.tuple #[Rv sq nq dq, .bool true]) ∧ AnsT 18 #[Rv sq nq dq, Rv t m e] (Rv s n d)) := by
  by_cases hb : b = 0
  · subst hb
    obtain ⟨h1, h2, h3⟩ := Is.eqs ib Is.zero
    exact .inl ⟨h1, h2, h3, C_Quo_no (by omega) (by omega) (by omega) (by omega) ra rb rfl⟩
  · right
    have hz := (za.div zb hb).len (pt_is (a / b))
    have hm0 : (m == []) = false := beq_no fun h => by
      have h1 := ib.num
      rw [h] at h1
      have h2 := bv_nb b.num.natAbs
      rw [h1] at h2
      have h3 : b.num = 0 := Int.natAbs_eq_zero.1 h2.symm
      exact hb (Rat.num_eq_zero.1 h3)
    exact ⟨_, _, _, hm0, C_Quo (by omega) (by omega) (by omega) (by omega) ra rb hb (pt_is (a / b)), C_Mul (by omega) (by omega) (by omega) (by omega) (ratOf_is (pt_is _)) rb (by rw [Rat.div_mul_cancel hb]; exact ia)⟩
abbrev fcells (sa sb sc : Bool) (na da nb db nc dc : List UInt8) : List Value := [.bool sa, S na, S da, .bool sb, S nb, S db, .bool sc, S nc, S dc]
theorem field_sum {w : World} {qa qb qc : Rat} {sa sb sc st : Bool} {na da nb db nc dc nt dt : List UInt8} (ra : rof (sa, na, da) = qa) (rb : rof (sb, nb, db) = qb) (rc : rof (sc, nc, dc) = qc) (l1 : na.length ≤ 16) (l2 : da.length ≤ 16) (l3 : nb.length ≤ 16) (l4 : db.length ≤ 16) (l5 : nc.length ≤ 16) (l6 : dc.length ≤ 16)
    (hpt : pt (qa + qb + qc) = (st, nt, dt)) (ht : Tb w) :
    ∀ (W : World) (X : Nat) (rest : List (Nat × TypeId × List Value)), Kq w W ((X, 26, fcells sa sb sc na da nb db nc dc) :: rest) → Calls Tryz.prog 30 #[.slice (some ⟨X, 0, none⟩) 3 3] W (Yld W (Rv st nt dt)) := fun W X rest hK => by
  have h := C_Sum 16 W (some ⟨X, 0, none⟩) 3 3 [(sa, na, da), (sb, nb, db), (sc, nc, dc)] (Rs.blk (hK.row _ (.head _)) rfl) (ht.ch hK.ch) (by omega) (by omega) (by omega) (by omega) (by
    intro t hm
    simp only [List.mem_cons, List.not_mem_nil, or_false] at hm
    rcases hm with rfl | rfl | rfl <;> simp only <;> omega)
  rw [show [(sa, na, da), (sb, nb, db), (sc, nc, dc)].map rof = [qa, qb, qc] by simp only [List.map_cons, List.map_nil, ra, rb, rc], rsum3, hpt] at h
  exact h
set_option maxRecDepth 100000 in
set_option maxHeartbeats 3200000 in
theorem field_walk0 {x0 x1 x2 y0 y1 y2 z0 z1 z2 : Int} {sa sc sp su st sm sv sk sg se sh sj soo : Bool} {na da nc dc np dp nu du nt dt nm dm nv dv nk dk ng dg ne de nh dh nj dj noo doo : List UInt8} (w : World) (ht : Tb w)
    (hH0 : AnsT 10 #[] (.bool true)) (hH1 : Ans 11 #[.agg #[.int .i64 x0, .int .i64 x1, .int .i64 x2]] (Tv (sa, na, da))) (hH2 : Ans 11 #[.agg #[.int .i64 y0, .int .i64 y1, .int .i64 y2]] (Tv (false, [], [1]))) (hH3 : Ans 11 #[.agg #[.int .i64 z0, .int .i64 z1, .int .i64 z2]] (Tv (sc, nc, dc))) (hHZ : Ans 36 #[.int .i64 0] (Rv false [] [1])) (hHO : Ans 36 #[.int .i64 1] (Rv false [1] [1])) (hG1 : AnsT 14 #[Rv sa na da, Rv false [] [1]] (Rv sp np dp)) (hG2 : AnsT 14 #[Rv false [] [1], Rv sa na da] (Rv sp np dp)) (hG3 : AnsT 18 #[Rv sa na da, Rv false [] [1]] (Rv sm nm dm)) (hG4 : AnsT 18 #[Rv false [] [1], Rv sa na da] (Rv sm nm dm)) (hG5 : AnsT 14 #[Rv sp np dp, Rv sc nc dc] (Rv st nt dt)) (hG6 : AnsT 14 #[Rv false [] [1], Rv sc nc dc] (Rv su nu du)) (hG7 : AnsT 14 #[Rv sa na da, Rv su nu du] (Rv st nt dt)) (hG8 : AnsT 18 #[Rv sm nm dm, Rv sc nc dc] (Rv sk nk dk)) (hG9 : AnsT 18 #[Rv false [] [1], Rv sc nc dc] (Rv sv nv dv)) (hG10 : AnsT 18 #[Rv sa na da, Rv sv nv dv] (Rv sk nk dk)) (hG11 : AnsT 18 #[Rv sa na da, Rv su nu du] (Rv se ne de)) (hG12 : AnsT 18 #[Rv sa na da, Rv sc nc dc] (Rv sg ng dg)) (hG13 : AnsT 14 #[Rv sm nm dm, Rv sg ng dg] (Rv se ne de)) (hG14 : AnsT 14 #[Rv sa na da, Rv false [] [1]] (Rv sa na da)) (hG15 : AnsT 18 #[Rv sa na da, Rv false [1] [1]] (Rv sa na da)) (hG17 : AnsT 14 #[Rv sa na da, Rv sh nh dh] (Rv false [] [1])) (hG18 : AnsT 16 #[Rv sa na da, Rv false [] [1]] (Rv soo noo doo)) (hG20 : AnsT 14 #[Rv sa na da, Rv sj nj dj] (Rv soo noo doo)) (hG16 : AnsT 24 #[Rv sa na da] (Rv sh nh dh)) (hG19 : AnsT 24 #[Rv false [] [1]] (Rv sj nj dj)) (hHQ : AnsT 12 #[Rv sa na da, Rv false [] [1]] (.tuple #[Rv false [] [], .bool false])) (hHS : ∀ (W : World) (X : Nat) (rest : List (Nat × TypeId × List Value)), Kq w W ((X, 26, fcells sa false sc na da [] [1] nc dc) :: rest) → Calls Tryz.prog 30 #[.slice (some ⟨X, 0, none⟩) 3 3] W (Yld W (Rv st nt dt))) :
    Calls Tryz.prog 6 #[.agg #[.int .i64 x0, .int .i64 x1, .int .i64 x2], .agg #[.int .i64 y0, .int .i64 y1, .int .i64 y2], .agg #[.int .i64 z0, .int .i64 z1, .int .i64 z2]] w (Yld w (.bool true)) := by
  have H0 := Lib.hid hH0
  have H1 := Lib.hid hH1
  have H2 := Lib.hid hH2
  have H3 := Lib.hid hH3
  have HZ := Lib.hid hHZ
  have HO := Lib.hid hHO
  have G1 := Lib.hid hG1
  have G2 := Lib.hid hG2
  have G3 := Lib.hid hG3
  have G4 := Lib.hid hG4
  have G5 := Lib.hid hG5
  have G6 := Lib.hid hG6
  have G7 := Lib.hid hG7
  have G8 := Lib.hid hG8
  have G9 := Lib.hid hG9
  have G10 := Lib.hid hG10
  have G11 := Lib.hid hG11
  have G12 := Lib.hid hG12
  have G13 := Lib.hid hG13
  have G14 := Lib.hid hG14
  have G15 := Lib.hid hG15
  have G17 := Lib.hid hG17
  have G18 := Lib.hid hG18
  have G20 := Lib.hid hG20
  have G16 := Lib.hid hG16
  have G19 := Lib.hid hG19
  have HQ := Lib.hid hHQ
  have HS := Lib.hid hHS
  have HT := Lib.hid ht
  clear ht hH0 hH1 hH2 hH3 hHZ hHO hG1 hG2 hG3 hG4 hG5 hG6 hG7 hG8 hG9 hG10 hG11 hG12 hG13 hG14 hG15 hG17 hG18 hG20 hG16 hG19 hHQ hHS
  have HK := Lib.hid ((((Kq.nil w).new #[.int .i64 x0, .int .i64 x1, .int .i64 x2] 22).new #[.int .i64 y0, .int .i64 y1, .int .i64 y2] 22).new #[.int .i64 z0, .int .i64 z1, .int .i64 z2] 22)
  rw [World.size_alloc, World.size_alloc] at HK
  obtain ⟨B, hB⟩ : ∃ B, w.heap.size = B := ⟨_, rfl⟩
  rw [hB] at HK
  have HF1 := Lib.hid (show ∀ W, Kq w W [(B + 1 + 1, 22, [.int .i64 z0, .int .i64 z1, .int .i64 z2]), (B + 1, 22, [.int .i64 y0, .int .i64 y1, .int .i64 y2]), (B, 22, [.int .i64 x0, .int .i64 x1, .int .i64 x2])] → W.cell? ⟨B + 1 + 1, 0, none⟩ = some (.int .i64 z0) ∧ W.cell? ⟨B + 1 + 1, 1, none⟩ = some (.int .i64 z1) ∧ W.cell? ⟨B + 1 + 1, 2, none⟩ = some (.int .i64 z2) ∧ W.cell? ⟨B + 1, 0, none⟩ = some (.int .i64 y0) ∧ W.cell? ⟨B + 1, 1, none⟩ = some (.int .i64 y1) ∧ W.cell? ⟨B + 1, 2, none⟩ = some (.int .i64 y2) ∧ W.cell? ⟨B, 0, none⟩ = some (.int .i64 x0) ∧ W.cell? ⟨B, 1, none⟩ = some (.int .i64 x1) ∧ W.cell? ⟨B, 2, none⟩ = some (.int .i64 x2) from fun W h => ⟨(h.row _ (.head _)).cell 0, (h.row _ (.head _)).cell 1, (h.row _ (.head _)).cell 2, (h.row _ (.tail _ (.head _))).cell 0, (h.row _ (.tail _ (.head _))).cell 1, (h.row _ (.tail _ (.head _))).cell 2, (h.row _ (.tail _ (.tail _ (.head _)))).cell 0, (h.row _ (.tail _ (.tail _ (.head _)))).cell 1, (h.row _ (.tail _ (.tail _ (.head _)))).cell 2⟩)
  obtain ⟨cc0, cc1, cc2, cc3, cc4, cc5, cc6, cc7, cc8⟩ := HF1.out _ HK.out
  go_enter Tryz.func6, Tryz.ntmps6
  go_wp2_with fail
  refine (H0.out _ (HT.out.ch HK.out.ch)).mono ?_
  rintro e w1 ⟨rfl, hC⟩
  have HK2 := Lib.hid (HK.out.on hC)
  clear cc0 cc1 cc2 cc3 cc4 cc5 cc6 cc7 cc8
  clear hC HK
  have HK := HK2
  clear HK2
  obtain ⟨cc0, cc1, cc2, cc3, cc4, cc5, cc6, cc7, cc8⟩ := HF1.out _ HK.out
  go_wp2_with fail
  refine (H1.out _).mono ?_
  rintro e w2 ⟨rfl, hC⟩
  have HK2 := Lib.hid (HK.out.on hC)
  clear cc0 cc1 cc2 cc3 cc4 cc5 cc6 cc7 cc8
  clear hC HK
  have HK := HK2
  clear HK2
  obtain ⟨cc0, cc1, cc2, cc3, cc4, cc5, cc6, cc7, cc8⟩ := HF1.out _ HK.out
  have hall := fun o : Obj => HF1.out _ (HK.out.other o)
  have dd0 : ∀ o : Obj, (w2.alloc o).cell? ⟨B + 1 + 1, 0, none⟩ = some (.int .i64 z0) := fun o => (hall o).1
  have dd1 : ∀ o : Obj, (w2.alloc o).cell? ⟨B + 1 + 1, 1, none⟩ = some (.int .i64 z1) := fun o => (hall o).2.1
  have dd2 : ∀ o : Obj, (w2.alloc o).cell? ⟨B + 1 + 1, 2, none⟩ = some (.int .i64 z2) := fun o => (hall o).2.2.1
  have dd3 : ∀ o : Obj, (w2.alloc o).cell? ⟨B + 1, 0, none⟩ = some (.int .i64 y0) := fun o => (hall o).2.2.2.1
  have dd4 : ∀ o : Obj, (w2.alloc o).cell? ⟨B + 1, 1, none⟩ = some (.int .i64 y1) := fun o => (hall o).2.2.2.2.1
  have dd5 : ∀ o : Obj, (w2.alloc o).cell? ⟨B + 1, 2, none⟩ = some (.int .i64 y2) := fun o => (hall o).2.2.2.2.2.1
  have dd6 : ∀ o : Obj, (w2.alloc o).cell? ⟨B, 0, none⟩ = some (.int .i64 x0) := fun o => (hall o).2.2.2.2.2.2.1
  have dd7 : ∀ o : Obj, (w2.alloc o).cell? ⟨B, 1, none⟩ = some (.int .i64 x1) := fun o => (hall o).2.2.2.2.2.2.2.1
  have dd8 : ∀ o : Obj, (w2.alloc o).cell? ⟨B, 2, none⟩ = some (.int .i64 x2) := fun o => (hall o).2.2.2.2.2.2.2.2
  clear hall
  go_wp2_with fail
  clear cc0 cc1 cc2 cc3 cc4 cc5 cc6 cc7 cc8 dd0 dd1 dd2 dd3 dd4 dd5 dd6 dd7 dd8
  have HK2 := Lib.hid (HK.out.new #[.bool sa, S na, S da] 26)
  obtain ⟨w3, hW⟩ : ∃ W, w2.alloc (.cells #[.bool sa, S na, S da] 26 (0, 0)) = W := ⟨_, rfl⟩
  rw [hW] at HK2 ⊢
  obtain ⟨A, hA⟩ : ∃ A, w2.heap.size = A := ⟨_, rfl⟩
  rw [hA] at HK2 ⊢
  clear hA hW HK
  have HK := HK2
  clear HK2
  have HF2 := Lib.hid (show ∀ W, Kq w W [(A, 26, [.bool sa, S na, S da]), (B + 1 + 1, 22, [.int .i64 z0, .int .i64 z1, .int .i64 z2]), (B + 1, 22, [.int .i64 y0, .int .i64 y1, .int .i64 y2]), (B, 22, [.int .i64 x0, .int .i64 x1, .int .i64 x2])] → W.cell? ⟨A, 0, none⟩ = some (.bool sa) ∧ W.cell? ⟨A, 1, none⟩ = some (S na) ∧ W.cell? ⟨A, 2, none⟩ = some (S da) ∧ W.cell? ⟨B + 1 + 1, 0, none⟩ = some (.int .i64 z0) ∧ W.cell? ⟨B + 1 + 1, 1, none⟩ = some (.int .i64 z1) ∧ W.cell? ⟨B + 1 + 1, 2, none⟩ = some (.int .i64 z2) ∧ W.cell? ⟨B + 1, 0, none⟩ = some (.int .i64 y0) ∧ W.cell? ⟨B + 1, 1, none⟩ = some (.int .i64 y1) ∧ W.cell? ⟨B + 1, 2, none⟩ = some (.int .i64 y2) ∧ W.cell? ⟨B, 0, none⟩ = some (.int .i64 x0) ∧ W.cell? ⟨B, 1, none⟩ = some (.int .i64 x1) ∧ W.cell? ⟨B, 2, none⟩ = some (.int .i64 x2) from fun W h => ⟨(h.row _ (.head _)).cell 0, (h.row _ (.head _)).cell 1, (h.row _ (.head _)).cell 2, (h.row _ (.tail _ (.head _))).cell 0, (h.row _ (.tail _ (.head _))).cell 1, (h.row _ (.tail _ (.head _))).cell 2, (h.row _ (.tail _ (.tail _ (.head _)))).cell 0, (h.row _ (.tail _ (.tail _ (.head _)))).cell 1, (h.row _ (.tail _ (.tail _ (.head _)))).cell 2, (h.row _ (.tail _ (.tail _ (.tail _ (.head _))))).cell 0, (h.row _ (.tail _ (.tail _ (.tail _ (.head _))))).cell 1, (h.row _ (.tail _ (.tail _ (.tail _ (.head _))))).cell 2⟩)
  obtain ⟨cc0, cc1, cc2, cc3, cc4, cc5, cc6, cc7, cc8, cc9, cc10, cc11⟩ := HF2.out _ HK.out
  refine (H2.out _).mono ?_
  rintro e w4 ⟨rfl, hC⟩
  have HK2 := Lib.hid (HK.out.on hC)
  clear cc0 cc1 cc2 cc3 cc4 cc5 cc6 cc7 cc8 cc9 cc10 cc11
  clear hC HK
  have HK := HK2
  clear HK2
  obtain ⟨cc0, cc1, cc2, cc3, cc4, cc5, cc6, cc7, cc8, cc9, cc10, cc11⟩ := HF2.out _ HK.out
  have hall := fun o : Obj => HF2.out _ (HK.out.other o)
  have dd0 : ∀ o : Obj, (w4.alloc o).cell? ⟨A, 0, none⟩ = some (.bool sa) := fun o => (hall o).1
  have dd1 : ∀ o : Obj, (w4.alloc o).cell? ⟨A, 1, none⟩ = some (S na) := fun o => (hall o).2.1
  have dd2 : ∀ o : Obj, (w4.alloc o).cell? ⟨A, 2, none⟩ = some (S da) := fun o => (hall o).2.2.1
  have dd3 : ∀ o : Obj, (w4.alloc o).cell? ⟨B + 1 + 1, 0, none⟩ = some (.int .i64 z0) := fun o => (hall o).2.2.2.1
  have dd4 : ∀ o : Obj, (w4.alloc o).cell? ⟨B + 1 + 1, 1, none⟩ = some (.int .i64 z1) := fun o => (hall o).2.2.2.2.1
  have dd5 : ∀ o : Obj, (w4.alloc o).cell? ⟨B + 1 + 1, 2, none⟩ = some (.int .i64 z2) := fun o => (hall o).2.2.2.2.2.1
  have dd6 : ∀ o : Obj, (w4.alloc o).cell? ⟨B + 1, 0, none⟩ = some (.int .i64 y0) := fun o => (hall o).2.2.2.2.2.2.1
  have dd7 : ∀ o : Obj, (w4.alloc o).cell? ⟨B + 1, 1, none⟩ = some (.int .i64 y1) := fun o => (hall o).2.2.2.2.2.2.2.1
  have dd8 : ∀ o : Obj, (w4.alloc o).cell? ⟨B + 1, 2, none⟩ = some (.int .i64 y2) := fun o => (hall o).2.2.2.2.2.2.2.2.1
  have dd9 : ∀ o : Obj, (w4.alloc o).cell? ⟨B, 0, none⟩ = some (.int .i64 x0) := fun o => (hall o).2.2.2.2.2.2.2.2.2.1
  have dd10 : ∀ o : Obj, (w4.alloc o).cell? ⟨B, 1, none⟩ = some (.int .i64 x1) := fun o => (hall o).2.2.2.2.2.2.2.2.2.2.1
  have dd11 : ∀ o : Obj, (w4.alloc o).cell? ⟨B, 2, none⟩ = some (.int .i64 x2) := fun o => (hall o).2.2.2.2.2.2.2.2.2.2.2
  clear hall
  go_wp2_with fail
  clear cc0 cc1 cc2 cc3 cc4 cc5 cc6 cc7 cc8 cc9 cc10 cc11 dd0 dd1 dd2 dd3 dd4 dd5 dd6 dd7 dd8 dd9 dd10 dd11
  have HK2 := Lib.hid (HK.out.new #[.bool false, S [], S [1]] 26)
  obtain ⟨w5, hW⟩ : ∃ W, w4.alloc (.cells #[.bool false, S [], S [1]] 26 (0, 0)) = W := ⟨_, rfl⟩
  rw [hW] at HK2 ⊢
  obtain ⟨Bb, hA⟩ : ∃ A, w4.heap.size = A := ⟨_, rfl⟩
  rw [hA] at HK2 ⊢
  clear hA hW HK
  have HK := HK2
  clear HK2
  have HF3 := Lib.hid (show ∀ W, Kq w W [(Bb, 26, [.bool false, S [], S [1]]), (A, 26, [.bool sa, S na, S da]), (B + 1 + 1, 22, [.int .i64 z0, .int .i64 z1, .int .i64 z2]), (B + 1, 22, [.int .i64 y0, .int .i64 y1, .int .i64 y2]), (B, 22, [.int .i64 x0, .int .i64 x1, .int .i64 x2])] → W.cell? ⟨Bb, 0, none⟩ = some (.bool false) ∧ W.cell? ⟨Bb, 1, none⟩ = some (S []) ∧ W.cell? ⟨Bb, 2, none⟩ = some (S [1]) ∧ W.cell? ⟨A, 0, none⟩ = some (.bool sa) ∧ W.cell? ⟨A, 1, none⟩ = some (S na) ∧ W.cell? ⟨A, 2, none⟩ = some (S da) ∧ W.cell? ⟨B + 1 + 1, 0, none⟩ = some (.int .i64 z0) ∧ W.cell? ⟨B + 1 + 1, 1, none⟩ = some (.int .i64 z1) ∧ W.cell? ⟨B + 1 + 1, 2, none⟩ = some (.int .i64 z2) ∧ W.cell? ⟨B + 1, 0, none⟩ = some (.int .i64 y0) ∧ W.cell? ⟨B + 1, 1, none⟩ = some (.int .i64 y1) ∧ W.cell? ⟨B + 1, 2, none⟩ = some (.int .i64 y2) ∧ W.cell? ⟨B, 0, none⟩ = some (.int .i64 x0) ∧ W.cell? ⟨B, 1, none⟩ = some (.int .i64 x1) ∧ W.cell? ⟨B, 2, none⟩ = some (.int .i64 x2) from fun W h => ⟨(h.row _ (.head _)).cell 0, (h.row _ (.head _)).cell 1, (h.row _ (.head _)).cell 2, (h.row _ (.tail _ (.head _))).cell 0, (h.row _ (.tail _ (.head _))).cell 1, (h.row _ (.tail _ (.head _))).cell 2, (h.row _ (.tail _ (.tail _ (.head _)))).cell 0, (h.row _ (.tail _ (.tail _ (.head _)))).cell 1, (h.row _ (.tail _ (.tail _ (.head _)))).cell 2, (h.row _ (.tail _ (.tail _ (.tail _ (.head _))))).cell 0, (h.row _ (.tail _ (.tail _ (.tail _ (.head _))))).cell 1, (h.row _ (.tail _ (.tail _ (.tail _ (.head _))))).cell 2, (h.row _ (.tail _ (.tail _ (.tail _ (.tail _ (.head _)))))).cell 0, (h.row _ (.tail _ (.tail _ (.tail _ (.tail _ (.head _)))))).cell 1, (h.row _ (.tail _ (.tail _ (.tail _ (.tail _ (.head _)))))).cell 2⟩)
  obtain ⟨cc0, cc1, cc2, cc3, cc4, cc5, cc6, cc7, cc8, cc9, cc10, cc11, cc12, cc13, cc14⟩ := HF3.out _ HK.out
  refine (H3.out _).mono ?_
  rintro e w6 ⟨rfl, hC⟩
  have HK2 := Lib.hid (HK.out.on hC)
  clear cc0 cc1 cc2 cc3 cc4 cc5 cc6 cc7 cc8 cc9 cc10 cc11 cc12 cc13 cc14
  clear hC HK
  have HK := HK2
  clear HK2
  obtain ⟨cc0, cc1, cc2, cc3, cc4, cc5, cc6, cc7, cc8, cc9, cc10, cc11, cc12, cc13, cc14⟩ := HF3.out _ HK.out
  have hall := fun o : Obj => HF3.out _ (HK.out.other o)
  have dd0 : ∀ o : Obj, (w6.alloc o).cell? ⟨Bb, 0, none⟩ = some (.bool false) := fun o => (hall o).1
  have dd1 : ∀ o : Obj, (w6.alloc o).cell? ⟨Bb, 1, none⟩ = some (S []) := fun o => (hall o).2.1
  have dd2 : ∀ o : Obj, (w6.alloc o).cell? ⟨Bb, 2, none⟩ = some (S [1]) := fun o => (hall o).2.2.1
  have dd3 : ∀ o : Obj, (w6.alloc o).cell? ⟨A, 0, none⟩ = some (.bool sa) := fun o => (hall o).2.2.2.1
  have dd4 : ∀ o : Obj, (w6.alloc o).cell? ⟨A, 1, none⟩ = some (S na) := fun o => (hall o).2.2.2.2.1
  have dd5 : ∀ o : Obj, (w6.alloc o).cell? ⟨A, 2, none⟩ = some (S da) := fun o => (hall o).2.2.2.2.2.1
  have dd6 : ∀ o : Obj, (w6.alloc o).cell? ⟨B + 1 + 1, 0, none⟩ = some (.int .i64 z0) := fun o => (hall o).2.2.2.2.2.2.1
  have dd7 : ∀ o : Obj, (w6.alloc o).cell? ⟨B + 1 + 1, 1, none⟩ = some (.int .i64 z1) := fun o => (hall o).2.2.2.2.2.2.2.1
  have dd8 : ∀ o : Obj, (w6.alloc o).cell? ⟨B + 1 + 1, 2, none⟩ = some (.int .i64 z2) := fun o => (hall o).2.2.2.2.2.2.2.2.1
  have dd9 : ∀ o : Obj, (w6.alloc o).cell? ⟨B + 1, 0, none⟩ = some (.int .i64 y0) := fun o => (hall o).2.2.2.2.2.2.2.2.2.1
  have dd10 : ∀ o : Obj, (w6.alloc o).cell? ⟨B + 1, 1, none⟩ = some (.int .i64 y1) := fun o => (hall o).2.2.2.2.2.2.2.2.2.2.1
  have dd11 : ∀ o : Obj, (w6.alloc o).cell? ⟨B + 1, 2, none⟩ = some (.int .i64 y2) := fun o => (hall o).2.2.2.2.2.2.2.2.2.2.2.1
  have dd12 : ∀ o : Obj, (w6.alloc o).cell? ⟨B, 0, none⟩ = some (.int .i64 x0) := fun o => (hall o).2.2.2.2.2.2.2.2.2.2.2.2.1
  have dd13 : ∀ o : Obj, (w6.alloc o).cell? ⟨B, 1, none⟩ = some (.int .i64 x1) := fun o => (hall o).2.2.2.2.2.2.2.2.2.2.2.2.2.1
  have dd14 : ∀ o : Obj, (w6.alloc o).cell? ⟨B, 2, none⟩ = some (.int .i64 x2) := fun o => (hall o).2.2.2.2.2.2.2.2.2.2.2.2.2.2
  clear hall
  go_wp2_with fail
  clear cc0 cc1 cc2 cc3 cc4 cc5 cc6 cc7 cc8 cc9 cc10 cc11 cc12 cc13 cc14 dd0 dd1 dd2 dd3 dd4 dd5 dd6 dd7 dd8 dd9 dd10 dd11 dd12 dd13 dd14
  have HK2 := Lib.hid (HK.out.new #[.bool sc, S nc, S dc] 26)
  obtain ⟨w7, hW⟩ : ∃ W, w6.alloc (.cells #[.bool sc, S nc, S dc] 26 (0, 0)) = W := ⟨_, rfl⟩
  rw [hW] at HK2 ⊢
  obtain ⟨Cc, hA⟩ : ∃ A, w6.heap.size = A := ⟨_, rfl⟩
  rw [hA] at HK2 ⊢
  clear hA hW HK
  have HK := HK2
  clear HK2
  have HF4 := Lib.hid (show ∀ W, Kq w W [(Cc, 26, [.bool sc, S nc, S dc]), (Bb, 26, [.bool false, S [], S [1]]), (A, 26, [.bool sa, S na, S da]), (B + 1 + 1, 22, [.int .i64 z0, .int .i64 z1, .int .i64 z2]), (B + 1, 22, [.int .i64 y0, .int .i64 y1, .int .i64 y2]), (B, 22, [.int .i64 x0, .int .i64 x1, .int .i64 x2])] → W.cell? ⟨Cc, 0, none⟩ = some (.bool sc) ∧ W.cell? ⟨Cc, 1, none⟩ = some (S nc) ∧ W.cell? ⟨Cc, 2, none⟩ = some (S dc) ∧ W.cell? ⟨Bb, 0, none⟩ = some (.bool false) ∧ W.cell? ⟨Bb, 1, none⟩ = some (S []) ∧ W.cell? ⟨Bb, 2, none⟩ = some (S [1]) ∧ W.cell? ⟨A, 0, none⟩ = some (.bool sa) ∧ W.cell? ⟨A, 1, none⟩ = some (S na) ∧ W.cell? ⟨A, 2, none⟩ = some (S da) ∧ W.cell? ⟨B + 1 + 1, 0, none⟩ = some (.int .i64 z0) ∧ W.cell? ⟨B + 1 + 1, 1, none⟩ = some (.int .i64 z1) ∧ W.cell? ⟨B + 1 + 1, 2, none⟩ = some (.int .i64 z2) ∧ W.cell? ⟨B + 1, 0, none⟩ = some (.int .i64 y0) ∧ W.cell? ⟨B + 1, 1, none⟩ = some (.int .i64 y1) ∧ W.cell? ⟨B + 1, 2, none⟩ = some (.int .i64 y2) ∧ W.cell? ⟨B, 0, none⟩ = some (.int .i64 x0) ∧ W.cell? ⟨B, 1, none⟩ = some (.int .i64 x1) ∧ W.cell? ⟨B, 2, none⟩ = some (.int .i64 x2) from fun W h => ⟨(h.row _ (.head _)).cell 0, (h.row _ (.head _)).cell 1, (h.row _ (.head _)).cell 2, (h.row _ (.tail _ (.head _))).cell 0, (h.row _ (.tail _ (.head _))).cell 1, (h.row _ (.tail _ (.head _))).cell 2, (h.row _ (.tail _ (.tail _ (.head _)))).cell 0, (h.row _ (.tail _ (.tail _ (.head _)))).cell 1, (h.row _ (.tail _ (.tail _ (.head _)))).cell 2, (h.row _ (.tail _ (.tail _ (.tail _ (.head _))))).cell 0, (h.row _ (.tail _ (.tail _ (.tail _ (.head _))))).cell 1, (h.row _ (.tail _ (.tail _ (.tail _ (.head _))))).cell 2, (h.row _ (.tail _ (.tail _ (.tail _ (.tail _ (.head _)))))).cell 0, (h.row _ (.tail _ (.tail _ (.tail _ (.tail _ (.head _)))))).cell 1, (h.row _ (.tail _ (.tail _ (.tail _ (.tail _ (.head _)))))).cell 2, (h.row _ (.tail _ (.tail _ (.tail _ (.tail _ (.tail _ (.head _))))))).cell 0, (h.row _ (.tail _ (.tail _ (.tail _ (.tail _ (.tail _ (.head _))))))).cell 1, (h.row _ (.tail _ (.tail _ (.tail _ (.tail _ (.tail _ (.head _))))))).cell 2⟩)
  obtain ⟨cc0, cc1, cc2, cc3, cc4, cc5, cc6, cc7, cc8, cc9, cc10, cc11, cc12, cc13, cc14, cc15, cc16, cc17⟩ := HF4.out _ HK.out
  refine (HZ.out _).mono ?_
  rintro e w8 ⟨rfl, hC⟩
  have HK2 := Lib.hid (HK.out.on hC)
  clear cc0 cc1 cc2 cc3 cc4 cc5 cc6 cc7 cc8 cc9 cc10 cc11 cc12 cc13 cc14 cc15 cc16 cc17
  clear hC HK
  have HK := HK2
  clear HK2
  obtain ⟨cc0, cc1, cc2, cc3, cc4, cc5, cc6, cc7, cc8, cc9, cc10, cc11, cc12, cc13, cc14, cc15, cc16, cc17⟩ := HF4.out _ HK.out
  have hall := fun o : Obj => HF4.out _ (HK.out.other o)
  have dd0 : ∀ o : Obj, (w8.alloc o).cell? ⟨Cc, 0, none⟩ = some (.bool sc) := fun o => (hall o).1
  have dd1 : ∀ o : Obj, (w8.alloc o).cell? ⟨Cc, 1, none⟩ = some (S nc) := fun o => (hall o).2.1
  have dd2 : ∀ o : Obj, (w8.alloc o).cell? ⟨Cc, 2, none⟩ = some (S dc) := fun o => (hall o).2.2.1
  have dd3 : ∀ o : Obj, (w8.alloc o).cell? ⟨Bb, 0, none⟩ = some (.bool false) := fun o => (hall o).2.2.2.1
  have dd4 : ∀ o : Obj, (w8.alloc o).cell? ⟨Bb, 1, none⟩ = some (S []) := fun o => (hall o).2.2.2.2.1
  have dd5 : ∀ o : Obj, (w8.alloc o).cell? ⟨Bb, 2, none⟩ = some (S [1]) := fun o => (hall o).2.2.2.2.2.1
  have dd6 : ∀ o : Obj, (w8.alloc o).cell? ⟨A, 0, none⟩ = some (.bool sa) := fun o => (hall o).2.2.2.2.2.2.1
  have dd7 : ∀ o : Obj, (w8.alloc o).cell? ⟨A, 1, none⟩ = some (S na) := fun o => (hall o).2.2.2.2.2.2.2.1
  have dd8 : ∀ o : Obj, (w8.alloc o).cell? ⟨A, 2, none⟩ = some (S da) := fun o => (hall o).2.2.2.2.2.2.2.2.1
  have dd9 : ∀ o : Obj, (w8.alloc o).cell? ⟨B + 1 + 1, 0, none⟩ = some (.int .i64 z0) := fun o => (hall o).2.2.2.2.2.2.2.2.2.1
  have dd10 : ∀ o : Obj, (w8.alloc o).cell? ⟨B + 1 + 1, 1, none⟩ = some (.int .i64 z1) := fun o => (hall o).2.2.2.2.2.2.2.2.2.2.1
  have dd11 : ∀ o : Obj, (w8.alloc o).cell? ⟨B + 1 + 1, 2, none⟩ = some (.int .i64 z2) := fun o => (hall o).2.2.2.2.2.2.2.2.2.2.2.1
  have dd12 : ∀ o : Obj, (w8.alloc o).cell? ⟨B + 1, 0, none⟩ = some (.int .i64 y0) := fun o => (hall o).2.2.2.2.2.2.2.2.2.2.2.2.1
  have dd13 : ∀ o : Obj, (w8.alloc o).cell? ⟨B + 1, 1, none⟩ = some (.int .i64 y1) := fun o => (hall o).2.2.2.2.2.2.2.2.2.2.2.2.2.1
  have dd14 : ∀ o : Obj, (w8.alloc o).cell? ⟨B + 1, 2, none⟩ = some (.int .i64 y2) := fun o => (hall o).2.2.2.2.2.2.2.2.2.2.2.2.2.2.1
  have dd15 : ∀ o : Obj, (w8.alloc o).cell? ⟨B, 0, none⟩ = some (.int .i64 x0) := fun o => (hall o).2.2.2.2.2.2.2.2.2.2.2.2.2.2.2.1
  have dd16 : ∀ o : Obj, (w8.alloc o).cell? ⟨B, 1, none⟩ = some (.int .i64 x1) := fun o => (hall o).2.2.2.2.2.2.2.2.2.2.2.2.2.2.2.2.1
  have dd17 : ∀ o : Obj, (w8.alloc o).cell? ⟨B, 2, none⟩ = some (.int .i64 x2) := fun o => (hall o).2.2.2.2.2.2.2.2.2.2.2.2.2.2.2.2.2
  clear hall
  go_wp2_with fail
  clear cc0 cc1 cc2 cc3 cc4 cc5 cc6 cc7 cc8 cc9 cc10 cc11 cc12 cc13 cc14 cc15 cc16 cc17 dd0 dd1 dd2 dd3 dd4 dd5 dd6 dd7 dd8 dd9 dd10 dd11 dd12 dd13 dd14 dd15 dd16 dd17
  have HK2 := Lib.hid (HK.out.new #[.bool false, S [], S [1]] 26)
  obtain ⟨w9, hW⟩ : ∃ W, w8.alloc (.cells #[.bool false, S [], S [1]] 26 (0, 0)) = W := ⟨_, rfl⟩
  rw [hW] at HK2 ⊢
  obtain ⟨Zr, hA⟩ : ∃ A, w8.heap.size = A := ⟨_, rfl⟩
  rw [hA] at HK2 ⊢
  clear hA hW HK
  have HK := HK2
  clear HK2
  have HF5 := Lib.hid (show ∀ W, Kq w W [(Zr, 26, [.bool false, S [], S [1]]), (Cc, 26, [.bool sc, S nc, S dc]), (Bb, 26, [.bool false, S [], S [1]]), (A, 26, [.bool sa, S na, S da]), (B + 1 + 1, 22, [.int .i64 z0, .int .i64 z1, .int .i64 z2]), (B + 1, 22, [.int .i64 y0, .int .i64 y1, .int .i64 y2]), (B, 22, [.int .i64 x0, .int .i64 x1, .int .i64 x2])] → W.cell? ⟨Zr, 0, none⟩ = some (.bool false) ∧ W.cell? ⟨Zr, 1, none⟩ = some (S []) ∧ W.cell? ⟨Zr, 2, none⟩ = some (S [1]) ∧ W.cell? ⟨Cc, 0, none⟩ = some (.bool sc) ∧ W.cell? ⟨Cc, 1, none⟩ = some (S nc) ∧ W.cell? ⟨Cc, 2, none⟩ = some (S dc) ∧ W.cell? ⟨Bb, 0, none⟩ = some (.bool false) ∧ W.cell? ⟨Bb, 1, none⟩ = some (S []) ∧ W.cell? ⟨Bb, 2, none⟩ = some (S [1]) ∧ W.cell? ⟨A, 0, none⟩ = some (.bool sa) ∧ W.cell? ⟨A, 1, none⟩ = some (S na) ∧ W.cell? ⟨A, 2, none⟩ = some (S da) ∧ W.cell? ⟨B + 1 + 1, 0, none⟩ = some (.int .i64 z0) ∧ W.cell? ⟨B + 1 + 1, 1, none⟩ = some (.int .i64 z1) ∧ W.cell? ⟨B + 1 + 1, 2, none⟩ = some (.int .i64 z2) ∧ W.cell? ⟨B + 1, 0, none⟩ = some (.int .i64 y0) ∧ W.cell? ⟨B + 1, 1, none⟩ = some (.int .i64 y1) ∧ W.cell? ⟨B + 1, 2, none⟩ = some (.int .i64 y2) ∧ W.cell? ⟨B, 0, none⟩ = some (.int .i64 x0) ∧ W.cell? ⟨B, 1, none⟩ = some (.int .i64 x1) ∧ W.cell? ⟨B, 2, none⟩ = some (.int .i64 x2) from fun W h => ⟨(h.row _ (.head _)).cell 0, (h.row _ (.head _)).cell 1, (h.row _ (.head _)).cell 2, (h.row _ (.tail _ (.head _))).cell 0, (h.row _ (.tail _ (.head _))).cell 1, (h.row _ (.tail _ (.head _))).cell 2, (h.row _ (.tail _ (.tail _ (.head _)))).cell 0, (h.row _ (.tail _ (.tail _ (.head _)))).cell 1, (h.row _ (.tail _ (.tail _ (.head _)))).cell 2, (h.row _ (.tail _ (.tail _ (.tail _ (.head _))))).cell 0, (h.row _ (.tail _ (.tail _ (.tail _ (.head _))))).cell 1, (h.row _ (.tail _ (.tail _ (.tail _ (.head _))))).cell 2, (h.row _ (.tail _ (.tail _ (.tail _ (.tail _ (.head _)))))).cell 0, (h.row _ (.tail _ (.tail _ (.tail _ (.tail _ (.head _)))))).cell 1, (h.row _ (.tail _ (.tail _ (.tail _ (.tail _ (.head _)))))).cell 2, (h.row _ (.tail _ (.tail _ (.tail _ (.tail _ (.tail _ (.head _))))))).cell 0, (h.row _ (.tail _ (.tail _ (.tail _ (.tail _ (.tail _ (.head _))))))).cell 1, (h.row _ (.tail _ (.tail _ (.tail _ (.tail _ (.tail _ (.head _))))))).cell 2, (h.row _ (.tail _ (.tail _ (.tail _ (.tail _ (.tail _ (.tail _ (.head _)))))))).cell 0, (h.row _ (.tail _ (.tail _ (.tail _ (.tail _ (.tail _ (.tail _ (.head _)))))))).cell 1, (h.row _ (.tail _ (.tail _ (.tail _ (.tail _ (.tail _ (.tail _ (.head _)))))))).cell 2⟩)
  obtain ⟨cc0, cc1, cc2, cc3, cc4, cc5, cc6, cc7, cc8, cc9, cc10, cc11, cc12, cc13, cc14, cc15, cc16, cc17, cc18, cc19, cc20⟩ := HF5.out _ HK.out
  refine (HO.out _).mono ?_
  rintro e w10 ⟨rfl, hC⟩
  have HK2 := Lib.hid (HK.out.on hC)
  clear cc0 cc1 cc2 cc3 cc4 cc5 cc6 cc7 cc8 cc9 cc10 cc11 cc12 cc13 cc14 cc15 cc16 cc17 cc18 cc19 cc20
  clear hC HK
  have HK := HK2
  clear HK2
  obtain ⟨cc0, cc1, cc2, cc3, cc4, cc5, cc6, cc7, cc8, cc9, cc10, cc11, cc12, cc13, cc14, cc15, cc16, cc17, cc18, cc19, cc20⟩ := HF5.out _ HK.out
  have hall := fun o : Obj => HF5.out _ (HK.out.other o)
  have dd0 : ∀ o : Obj, (w10.alloc o).cell? ⟨Zr, 0, none⟩ = some (.bool false) := fun o => (hall o).1
  have dd1 : ∀ o : Obj, (w10.alloc o).cell? ⟨Zr, 1, none⟩ = some (S []) := fun o => (hall o).2.1
  have dd2 : ∀ o : Obj, (w10.alloc o).cell? ⟨Zr, 2, none⟩ = some (S [1]) := fun o => (hall o).2.2.1
  have dd3 : ∀ o : Obj, (w10.alloc o).cell? ⟨Cc, 0, none⟩ = some (.bool sc) := fun o => (hall o).2.2.2.1
  have dd4 : ∀ o : Obj, (w10.alloc o).cell? ⟨Cc, 1, none⟩ = some (S nc) := fun o => (hall o).2.2.2.2.1
  have dd5 : ∀ o : Obj, (w10.alloc o).cell? ⟨Cc, 2, none⟩ = some (S dc) := fun o => (hall o).2.2.2.2.2.1
  have dd6 : ∀ o : Obj, (w10.alloc o).cell? ⟨Bb, 0, none⟩ = some (.bool false) := fun o => (hall o).2.2.2.2.2.2.1
  have dd7 : ∀ o : Obj, (w10.alloc o).cell? ⟨Bb, 1, none⟩ = some (S []) := fun o => (hall o).2.2.2.2.2.2.2.1
  have dd8 : ∀ o : Obj, (w10.alloc o).cell? ⟨Bb, 2, none⟩ = some (S [1]) := fun o => (hall o).2.2.2.2.2.2.2.2.1
  have dd9 : ∀ o : Obj, (w10.alloc o).cell? ⟨A, 0, none⟩ = some (.bool sa) := fun o => (hall o).2.2.2.2.2.2.2.2.2.1
  have dd10 : ∀ o : Obj, (w10.alloc o).cell? ⟨A, 1, none⟩ = some (S na) := fun o => (hall o).2.2.2.2.2.2.2.2.2.2.1
  have dd11 : ∀ o : Obj, (w10.alloc o).cell? ⟨A, 2, none⟩ = some (S da) := fun o => (hall o).2.2.2.2.2.2.2.2.2.2.2.1
  have dd12 : ∀ o : Obj, (w10.alloc o).cell? ⟨B + 1 + 1, 0, none⟩ = some (.int .i64 z0) := fun o => (hall o).2.2.2.2.2.2.2.2.2.2.2.2.1
  have dd13 : ∀ o : Obj, (w10.alloc o).cell? ⟨B + 1 + 1, 1, none⟩ = some (.int .i64 z1) := fun o => (hall o).2.2.2.2.2.2.2.2.2.2.2.2.2.1
  have dd14 : ∀ o : Obj, (w10.alloc o).cell? ⟨B + 1 + 1, 2, none⟩ = some (.int .i64 z2) := fun o => (hall o).2.2.2.2.2.2.2.2.2.2.2.2.2.2.1
  have dd15 : ∀ o : Obj, (w10.alloc o).cell? ⟨B + 1, 0, none⟩ = some (.int .i64 y0) := fun o => (hall o).2.2.2.2.2.2.2.2.2.2.2.2.2.2.2.1
  have dd16 : ∀ o : Obj, (w10.alloc o).cell? ⟨B + 1, 1, none⟩ = some (.int .i64 y1) := fun o => (hall o).2.2.2.2.2.2.2.2.2.2.2.2.2.2.2.2.1
  have dd17 : ∀ o : Obj, (w10.alloc o).cell? ⟨B + 1, 2, none⟩ = some (.int .i64 y2) := fun o => (hall o).2.2.2.2.2.2.2.2.2.2.2.2.2.2.2.2.2.1
  have dd18 : ∀ o : Obj, (w10.alloc o).cell? ⟨B, 0, none⟩ = some (.int .i64 x0) := fun o => (hall o).2.2.2.2.2.2.2.2.2.2.2.2.2.2.2.2.2.2.1
  have dd19 : ∀ o : Obj, (w10.alloc o).cell? ⟨B, 1, none⟩ = some (.int .i64 x1) := fun o => (hall o).2.2.2.2.2.2.2.2.2.2.2.2.2.2.2.2.2.2.2.1
  have dd20 : ∀ o : Obj, (w10.alloc o).cell? ⟨B, 2, none⟩ = some (.int .i64 x2) := fun o => (hall o).2.2.2.2.2.2.2.2.2.2.2.2.2.2.2.2.2.2.2.2
  clear hall
  go_wp2_with fail
  clear cc0 cc1 cc2 cc3 cc4 cc5 cc6 cc7 cc8 cc9 cc10 cc11 cc12 cc13 cc14 cc15 cc16 cc17 cc18 cc19 cc20 dd0 dd1 dd2 dd3 dd4 dd5 dd6 dd7 dd8 dd9 dd10 dd11 dd12 dd13 dd14 dd15 dd16 dd17 dd18 dd19 dd20
  have HK2 := Lib.hid (HK.out.new #[.bool false, S [1], S [1]] 26)
  obtain ⟨w11, hW⟩ : ∃ W, w10.alloc (.cells #[.bool false, S [1], S [1]] 26 (0, 0)) = W := ⟨_, rfl⟩
  rw [hW] at HK2 ⊢
  obtain ⟨On, hA⟩ : ∃ A, w10.heap.size = A := ⟨_, rfl⟩
  rw [hA] at HK2 ⊢
  clear hA hW HK
  have HK := HK2
  clear HK2
  have HF6 := Lib.hid (show ∀ W, Kq w W [(On, 26, [.bool false, S [1], S [1]]), (Zr, 26, [.bool false, S [], S [1]]), (Cc, 26, [.bool sc, S nc, S dc]), (Bb, 26, [.bool false, S [], S [1]]), (A, 26, [.bool sa, S na, S da]), (B + 1 + 1, 22, [.int .i64 z0, .int .i64 z1, .int .i64 z2]), (B + 1, 22, [.int .i64 y0, .int .i64 y1, .int .i64 y2]), (B, 22, [.int .i64 x0, .int .i64 x1, .int .i64 x2])] → W.cell? ⟨On, 0, none⟩ = some (.bool false) ∧ W.cell? ⟨On, 1, none⟩ = some (S [1]) ∧ W.cell? ⟨On, 2, none⟩ = some (S [1]) ∧ W.cell? ⟨Zr, 0, none⟩ = some (.bool false) ∧ W.cell? ⟨Zr, 1, none⟩ = some (S []) ∧ W.cell? ⟨Zr, 2, none⟩ = some (S [1]) ∧ W.cell? ⟨Cc, 0, none⟩ = some (.bool sc) ∧ W.cell? ⟨Cc, 1, none⟩ = some (S nc) ∧ W.cell? ⟨Cc, 2, none⟩ = some (S dc) ∧ W.cell? ⟨Bb, 0, none⟩ = some (.bool false) ∧ W.cell? ⟨Bb, 1, none⟩ = some (S []) ∧ W.cell? ⟨Bb, 2, none⟩ = some (S [1]) ∧ W.cell? ⟨A, 0, none⟩ = some (.bool sa) ∧ W.cell? ⟨A, 1, none⟩ = some (S na) ∧ W.cell? ⟨A, 2, none⟩ = some (S da) ∧ W.cell? ⟨B + 1 + 1, 0, none⟩ = some (.int .i64 z0) ∧ W.cell? ⟨B + 1 + 1, 1, none⟩ = some (.int .i64 z1) ∧ W.cell? ⟨B + 1 + 1, 2, none⟩ = some (.int .i64 z2) ∧ W.cell? ⟨B + 1, 0, none⟩ = some (.int .i64 y0) ∧ W.cell? ⟨B + 1, 1, none⟩ = some (.int .i64 y1) ∧ W.cell? ⟨B + 1, 2, none⟩ = some (.int .i64 y2) ∧ W.cell? ⟨B, 0, none⟩ = some (.int .i64 x0) ∧ W.cell? ⟨B, 1, none⟩ = some (.int .i64 x1) ∧ W.cell? ⟨B, 2, none⟩ = some (.int .i64 x2) from fun W h => ⟨(h.row _ (.head _)).cell 0, (h.row _ (.head _)).cell 1, (h.row _ (.head _)).cell 2, (h.row _ (.tail _ (.head _))).cell 0, (h.row _ (.tail _ (.head _))).cell 1, (h.row _ (.tail _ (.head _))).cell 2, (h.row _ (.tail _ (.tail _ (.head _)))).cell 0, (h.row _ (.tail _ (.tail _ (.head _)))).cell 1, (h.row _ (.tail _ (.tail _ (.head _)))).cell 2, (h.row _ (.tail _ (.tail _ (.tail _ (.head _))))).cell 0, (h.row _ (.tail _ (.tail _ (.tail _ (.head _))))).cell 1, (h.row _ (.tail _ (.tail _ (.tail _ (.head _))))).cell 2, (h.row _ (.tail _ (.tail _ (.tail _ (.tail _ (.head _)))))).cell 0, (h.row _ (.tail _ (.tail _ (.tail _ (.tail _ (.head _)))))).cell 1, (h.row _ (.tail _ (.tail _ (.tail _ (.tail _ (.head _)))))).cell 2, (h.row _ (.tail _ (.tail _ (.tail _ (.tail _ (.tail _ (.head _))))))).cell 0, (h.row _ (.tail _ (.tail _ (.tail _ (.tail _ (.tail _ (.head _))))))).cell 1, (h.row _ (.tail _ (.tail _ (.tail _ (.tail _ (.tail _ (.head _))))))).cell 2, (h.row _ (.tail _ (.tail _ (.tail _ (.tail _ (.tail _ (.tail _ (.head _)))))))).cell 0, (h.row _ (.tail _ (.tail _ (.tail _ (.tail _ (.tail _ (.tail _ (.head _)))))))).cell 1, (h.row _ (.tail _ (.tail _ (.tail _ (.tail _ (.tail _ (.tail _ (.head _)))))))).cell 2, (h.row _ (.tail _ (.tail _ (.tail _ (.tail _ (.tail _ (.tail _ (.tail _ (.head _))))))))).cell 0, (h.row _ (.tail _ (.tail _ (.tail _ (.tail _ (.tail _ (.tail _ (.tail _ (.head _))))))))).cell 1, (h.row _ (.tail _ (.tail _ (.tail _ (.tail _ (.tail _ (.tail _ (.tail _ (.head _))))))))).cell 2⟩)
  obtain ⟨cc0, cc1, cc2, cc3, cc4, cc5, cc6, cc7, cc8, cc9, cc10, cc11, cc12, cc13, cc14, cc15, cc16, cc17, cc18, cc19, cc20, cc21, cc22, cc23⟩ := HF6.out _ HK.out
  clear cc0 cc1 cc2 cc3 cc4 cc5 cc6 cc7 cc8 cc9 cc10 cc11 cc12 cc13 cc14 cc15 cc16 cc17 cc18 cc19 cc20 cc21 cc22 cc23
  have HKD := Lib.hid HK.out.drew
  clear HK
  have HK := HKD
  clear HKD
  go_region_held3 (fun w' => w'.cell? ⟨On, 0, none⟩ = some (.bool false) ∧ w'.cell? ⟨On, 1, none⟩ = some (S [1]) ∧ w'.cell? ⟨On, 2, none⟩ = some (S [1]) ∧ w'.cell? ⟨Zr, 0, none⟩ = some (.bool false) ∧ w'.cell? ⟨Zr, 1, none⟩ = some (S []) ∧ w'.cell? ⟨Zr, 2, none⟩ = some (S [1]) ∧ w'.cell? ⟨Cc, 0, none⟩ = some (.bool sc) ∧ w'.cell? ⟨Cc, 1, none⟩ = some (S nc) ∧ w'.cell? ⟨Cc, 2, none⟩ = some (S dc) ∧ w'.cell? ⟨Bb, 0, none⟩ = some (.bool false) ∧ w'.cell? ⟨Bb, 1, none⟩ = some (S []) ∧ w'.cell? ⟨Bb, 2, none⟩ = some (S [1]) ∧ w'.cell? ⟨A, 0, none⟩ = some (.bool sa) ∧ w'.cell? ⟨A, 1, none⟩ = some (S na) ∧ w'.cell? ⟨A, 2, none⟩ = some (S da) ∧ w'.cell? ⟨B + 1 + 1, 0, none⟩ = some (.int .i64 z0) ∧ w'.cell? ⟨B + 1 + 1, 1, none⟩ = some (.int .i64 z1) ∧ w'.cell? ⟨B + 1 + 1, 2, none⟩ = some (.int .i64 z2) ∧ w'.cell? ⟨B + 1, 0, none⟩ = some (.int .i64 y0) ∧ w'.cell? ⟨B + 1, 1, none⟩ = some (.int .i64 y1) ∧ w'.cell? ⟨B + 1, 2, none⟩ = some (.int .i64 y2) ∧ w'.cell? ⟨B, 0, none⟩ = some (.int .i64 x0) ∧ w'.cell? ⟨B, 1, none⟩ = some (.int .i64 x1) ∧ w'.cell? ⟨B, 2, none⟩ = some (.int .i64 x2))
    (first
      | (with_reducible exact HF6.out _ HK.out)
      | go_keep)
    (first
      | (go_at_call 14; with_reducible refine (G1.out _ (HT.out.ch HK.out.ch)).mono ?_; rintro e wq ⟨rfl, hCq⟩; have HK2 := Lib.hid (HK.out.on hCq); clear hCq HK; have HK := HK2; clear HK2)
      | (go_at_call 14; with_reducible refine (G2.out _ (HT.out.ch HK.out.ch)).mono ?_; rintro e wq ⟨rfl, hCq⟩; have HK2 := Lib.hid (HK.out.on hCq); clear hCq HK; have HK := HK2; clear HK2)
      | (go_at_call 18; with_reducible refine (G3.out _ (HT.out.ch HK.out.ch)).mono ?_; rintro e wq ⟨rfl, hCq⟩; have HK2 := Lib.hid (HK.out.on hCq); clear hCq HK; have HK := HK2; clear HK2)
      | (go_at_call 18; with_reducible refine (G4.out _ (HT.out.ch HK.out.ch)).mono ?_; rintro e wq ⟨rfl, hCq⟩; have HK2 := Lib.hid (HK.out.on hCq); clear hCq HK; have HK := HK2; clear HK2)
      | (go_at_call 14; with_reducible refine (G5.out _ (HT.out.ch HK.out.ch)).mono ?_; rintro e wq ⟨rfl, hCq⟩; have HK2 := Lib.hid (HK.out.on hCq); clear hCq HK; have HK := HK2; clear HK2)
      | (go_at_call 14; with_reducible refine (G6.out _ (HT.out.ch HK.out.ch)).mono ?_; rintro e wq ⟨rfl, hCq⟩; have HK2 := Lib.hid (HK.out.on hCq); clear hCq HK; have HK := HK2; clear HK2)
      | (go_at_call 14; with_reducible refine (G7.out _ (HT.out.ch HK.out.ch)).mono ?_; rintro e wq ⟨rfl, hCq⟩; have HK2 := Lib.hid (HK.out.on hCq); clear hCq HK; have HK := HK2; clear HK2)
      | (go_at_call 18; with_reducible refine (G8.out _ (HT.out.ch HK.out.ch)).mono ?_; rintro e wq ⟨rfl, hCq⟩; have HK2 := Lib.hid (HK.out.on hCq); clear hCq HK; have HK := HK2; clear HK2)
      | (go_at_call 18; with_reducible refine (G9.out _ (HT.out.ch HK.out.ch)).mono ?_; rintro e wq ⟨rfl, hCq⟩; have HK2 := Lib.hid (HK.out.on hCq); clear hCq HK; have HK := HK2; clear HK2)
      | (go_at_call 18; with_reducible refine (G10.out _ (HT.out.ch HK.out.ch)).mono ?_; rintro e wq ⟨rfl, hCq⟩; have HK2 := Lib.hid (HK.out.on hCq); clear hCq HK; have HK := HK2; clear HK2))
  obtain ⟨cc0, cc1, cc2, cc3, cc4, cc5, cc6, cc7, cc8, cc9, cc10, cc11, cc12, cc13, cc14, cc15, cc16, cc17, cc18, cc19, cc20, cc21, cc22, cc23⟩ := HF6.out _ HK.out
  go_wp2_with fail
  clear cc0 cc1 cc2 cc3 cc4 cc5 cc6 cc7 cc8 cc9 cc10 cc11 cc12 cc13 cc14 cc15 cc16 cc17 cc18 cc19 cc20 cc21 cc22 cc23
  have HKD := Lib.hid HK.out.drew
  clear HK
  have HK := HKD
  clear HKD
  go_region_held3 (fun w' => w'.cell? ⟨On, 0, none⟩ = some (.bool false) ∧ w'.cell? ⟨On, 1, none⟩ = some (S [1]) ∧ w'.cell? ⟨On, 2, none⟩ = some (S [1]) ∧ w'.cell? ⟨Zr, 0, none⟩ = some (.bool false) ∧ w'.cell? ⟨Zr, 1, none⟩ = some (S []) ∧ w'.cell? ⟨Zr, 2, none⟩ = some (S [1]) ∧ w'.cell? ⟨Cc, 0, none⟩ = some (.bool sc) ∧ w'.cell? ⟨Cc, 1, none⟩ = some (S nc) ∧ w'.cell? ⟨Cc, 2, none⟩ = some (S dc) ∧ w'.cell? ⟨Bb, 0, none⟩ = some (.bool false) ∧ w'.cell? ⟨Bb, 1, none⟩ = some (S []) ∧ w'.cell? ⟨Bb, 2, none⟩ = some (S [1]) ∧ w'.cell? ⟨A, 0, none⟩ = some (.bool sa) ∧ w'.cell? ⟨A, 1, none⟩ = some (S na) ∧ w'.cell? ⟨A, 2, none⟩ = some (S da) ∧ w'.cell? ⟨B + 1 + 1, 0, none⟩ = some (.int .i64 z0) ∧ w'.cell? ⟨B + 1 + 1, 1, none⟩ = some (.int .i64 z1) ∧ w'.cell? ⟨B + 1 + 1, 2, none⟩ = some (.int .i64 z2) ∧ w'.cell? ⟨B + 1, 0, none⟩ = some (.int .i64 y0) ∧ w'.cell? ⟨B + 1, 1, none⟩ = some (.int .i64 y1) ∧ w'.cell? ⟨B + 1, 2, none⟩ = some (.int .i64 y2) ∧ w'.cell? ⟨B, 0, none⟩ = some (.int .i64 x0) ∧ w'.cell? ⟨B, 1, none⟩ = some (.int .i64 x1) ∧ w'.cell? ⟨B, 2, none⟩ = some (.int .i64 x2))
    (first
      | (with_reducible exact HF6.out _ HK.out)
      | go_keep)
    (first
      | (go_at_call 14; with_reducible refine (G6.out _ (HT.out.ch HK.out.ch)).mono ?_; rintro e wq ⟨rfl, hCq⟩; have HK2 := Lib.hid (HK.out.on hCq); clear hCq HK; have HK := HK2; clear HK2)
      | (go_at_call 18; with_reducible refine (G11.out _ (HT.out.ch HK.out.ch)).mono ?_; rintro e wq ⟨rfl, hCq⟩; have HK2 := Lib.hid (HK.out.on hCq); clear hCq HK; have HK := HK2; clear HK2)
      | (go_at_call 18; with_reducible refine (G3.out _ (HT.out.ch HK.out.ch)).mono ?_; rintro e wq ⟨rfl, hCq⟩; have HK2 := Lib.hid (HK.out.on hCq); clear hCq HK; have HK := HK2; clear HK2)
      | (go_at_call 18; with_reducible refine (G12.out _ (HT.out.ch HK.out.ch)).mono ?_; rintro e wq ⟨rfl, hCq⟩; have HK2 := Lib.hid (HK.out.on hCq); clear hCq HK; have HK := HK2; clear HK2)
      | (go_at_call 14; with_reducible refine (G13.out _ (HT.out.ch HK.out.ch)).mono ?_; rintro e wq ⟨rfl, hCq⟩; have HK2 := Lib.hid (HK.out.on hCq); clear hCq HK; have HK := HK2; clear HK2)
      | (go_at_call 14; with_reducible refine (G14.out _ (HT.out.ch HK.out.ch)).mono ?_; rintro e wq ⟨rfl, hCq⟩; have HK2 := Lib.hid (HK.out.on hCq); clear hCq HK; have HK := HK2; clear HK2)
      | (go_at_call 18; with_reducible refine (G15.out _ (HT.out.ch HK.out.ch)).mono ?_; rintro e wq ⟨rfl, hCq⟩; have HK2 := Lib.hid (HK.out.on hCq); clear hCq HK; have HK := HK2; clear HK2)
      | (go_at_call 24; with_reducible refine (G16.out _ (HT.out.ch HK.out.ch)).mono ?_; rintro e wq ⟨rfl, hCq⟩; have HK2 := Lib.hid (HK.out.on hCq); clear hCq HK; have HK := HK2; clear HK2)
      | (go_at_call 14; with_reducible refine (G17.out _ (HT.out.ch HK.out.ch)).mono ?_; rintro e wq ⟨rfl, hCq⟩; have HK2 := Lib.hid (HK.out.on hCq); clear hCq HK; have HK := HK2; clear HK2))
  obtain ⟨cc0, cc1, cc2, cc3, cc4, cc5, cc6, cc7, cc8, cc9, cc10, cc11, cc12, cc13, cc14, cc15, cc16, cc17, cc18, cc19, cc20, cc21, cc22, cc23⟩ := HF6.out _ HK.out
  go_wp2_with fail
  refine (HQ.out _ (HT.out.ch HK.out.ch)).mono ?_
  rintro e w12 ⟨rfl, hC⟩
  have HK2 := Lib.hid (HK.out.on hC)
  clear cc0 cc1 cc2 cc3 cc4 cc5 cc6 cc7 cc8 cc9 cc10 cc11 cc12 cc13 cc14 cc15 cc16 cc17 cc18 cc19 cc20 cc21 cc22 cc23
  clear hC HK
  have HK := HK2
  clear HK2
  obtain ⟨cc0, cc1, cc2, cc3, cc4, cc5, cc6, cc7, cc8, cc9, cc10, cc11, cc12, cc13, cc14, cc15, cc16, cc17, cc18, cc19, cc20, cc21, cc22, cc23⟩ := HF6.out _ HK.out
  have hall := fun o : Obj => HF6.out _ (HK.out.other o)
  have dd0 : ∀ o : Obj, (w12.alloc o).cell? ⟨On, 0, none⟩ = some (.bool false) := fun o => (hall o).1
  have dd1 : ∀ o : Obj, (w12.alloc o).cell? ⟨On, 1, none⟩ = some (S [1]) := fun o => (hall o).2.1
  have dd2 : ∀ o : Obj, (w12.alloc o).cell? ⟨On, 2, none⟩ = some (S [1]) := fun o => (hall o).2.2.1
  have dd3 : ∀ o : Obj, (w12.alloc o).cell? ⟨Zr, 0, none⟩ = some (.bool false) := fun o => (hall o).2.2.2.1
  have dd4 : ∀ o : Obj, (w12.alloc o).cell? ⟨Zr, 1, none⟩ = some (S []) := fun o => (hall o).2.2.2.2.1
  have dd5 : ∀ o : Obj, (w12.alloc o).cell? ⟨Zr, 2, none⟩ = some (S [1]) := fun o => (hall o).2.2.2.2.2.1
  have dd6 : ∀ o : Obj, (w12.alloc o).cell? ⟨Cc, 0, none⟩ = some (.bool sc) := fun o => (hall o).2.2.2.2.2.2.1
  have dd7 : ∀ o : Obj, (w12.alloc o).cell? ⟨Cc, 1, none⟩ = some (S nc) := fun o => (hall o).2.2.2.2.2.2.2.1
  have dd8 : ∀ o : Obj, (w12.alloc o).cell? ⟨Cc, 2, none⟩ = some (S dc) := fun o => (hall o).2.2.2.2.2.2.2.2.1
  have dd9 : ∀ o : Obj, (w12.alloc o).cell? ⟨Bb, 0, none⟩ = some (.bool false) := fun o => (hall o).2.2.2.2.2.2.2.2.2.1
  have dd10 : ∀ o : Obj, (w12.alloc o).cell? ⟨Bb, 1, none⟩ = some (S []) := fun o => (hall o).2.2.2.2.2.2.2.2.2.2.1
  have dd11 : ∀ o : Obj, (w12.alloc o).cell? ⟨Bb, 2, none⟩ = some (S [1]) := fun o => (hall o).2.2.2.2.2.2.2.2.2.2.2.1
  have dd12 : ∀ o : Obj, (w12.alloc o).cell? ⟨A, 0, none⟩ = some (.bool sa) := fun o => (hall o).2.2.2.2.2.2.2.2.2.2.2.2.1
  have dd13 : ∀ o : Obj, (w12.alloc o).cell? ⟨A, 1, none⟩ = some (S na) := fun o => (hall o).2.2.2.2.2.2.2.2.2.2.2.2.2.1
  have dd14 : ∀ o : Obj, (w12.alloc o).cell? ⟨A, 2, none⟩ = some (S da) := fun o => (hall o).2.2.2.2.2.2.2.2.2.2.2.2.2.2.1
  have dd15 : ∀ o : Obj, (w12.alloc o).cell? ⟨B + 1 + 1, 0, none⟩ = some (.int .i64 z0) := fun o => (hall o).2.2.2.2.2.2.2.2.2.2.2.2.2.2.2.1
  have dd16 : ∀ o : Obj, (w12.alloc o).cell? ⟨B + 1 + 1, 1, none⟩ = some (.int .i64 z1) := fun o => (hall o).2.2.2.2.2.2.2.2.2.2.2.2.2.2.2.2.1
  have dd17 : ∀ o : Obj, (w12.alloc o).cell? ⟨B + 1 + 1, 2, none⟩ = some (.int .i64 z2) := fun o => (hall o).2.2.2.2.2.2.2.2.2.2.2.2.2.2.2.2.2.1
  have dd18 : ∀ o : Obj, (w12.alloc o).cell? ⟨B + 1, 0, none⟩ = some (.int .i64 y0) := fun o => (hall o).2.2.2.2.2.2.2.2.2.2.2.2.2.2.2.2.2.2.1
  have dd19 : ∀ o : Obj, (w12.alloc o).cell? ⟨B + 1, 1, none⟩ = some (.int .i64 y1) := fun o => (hall o).2.2.2.2.2.2.2.2.2.2.2.2.2.2.2.2.2.2.2.1
  have dd20 : ∀ o : Obj, (w12.alloc o).cell? ⟨B + 1, 2, none⟩ = some (.int .i64 y2) := fun o => (hall o).2.2.2.2.2.2.2.2.2.2.2.2.2.2.2.2.2.2.2.2.1
  have dd21 : ∀ o : Obj, (w12.alloc o).cell? ⟨B, 0, none⟩ = some (.int .i64 x0) := fun o => (hall o).2.2.2.2.2.2.2.2.2.2.2.2.2.2.2.2.2.2.2.2.2.1
  have dd22 : ∀ o : Obj, (w12.alloc o).cell? ⟨B, 1, none⟩ = some (.int .i64 x1) := fun o => (hall o).2.2.2.2.2.2.2.2.2.2.2.2.2.2.2.2.2.2.2.2.2.2.1
  have dd23 : ∀ o : Obj, (w12.alloc o).cell? ⟨B, 2, none⟩ = some (.int .i64 x2) := fun o => (hall o).2.2.2.2.2.2.2.2.2.2.2.2.2.2.2.2.2.2.2.2.2.2.2
  clear hall
  go_wp2_with fail
  clear cc0 cc1 cc2 cc3 cc4 cc5 cc6 cc7 cc8 cc9 cc10 cc11 cc12 cc13 cc14 cc15 cc16 cc17 cc18 cc19 cc20 cc21 cc22 cc23 dd0 dd1 dd2 dd3 dd4 dd5 dd6 dd7 dd8 dd9 dd10 dd11 dd12 dd13 dd14 dd15 dd16 dd17 dd18 dd19 dd20 dd21 dd22 dd23
  have HK2 := Lib.hid (HK.out.new #[.bool false, S [], S []] 26)
  obtain ⟨w13, hW⟩ : ∃ W, w12.alloc (.cells #[.bool false, S [], S []] 26 (0, 0)) = W := ⟨_, rfl⟩
  rw [hW] at HK2 ⊢
  obtain ⟨Qv, hA⟩ : ∃ A, w12.heap.size = A := ⟨_, rfl⟩
  rw [hA] at HK2 ⊢
  clear hA hW HK
  have HK := HK2
  clear HK2
  have HF7 := Lib.hid (show ∀ W, Kq w W [(Qv, 26, [.bool false, S [], S []]), (On, 26, [.bool false, S [1], S [1]]), (Zr, 26, [.bool false, S [], S [1]]), (Cc, 26, [.bool sc, S nc, S dc]), (Bb, 26, [.bool false, S [], S [1]]), (A, 26, [.bool sa, S na, S da]), (B + 1 + 1, 22, [.int .i64 z0, .int .i64 z1, .int .i64 z2]), (B + 1, 22, [.int .i64 y0, .int .i64 y1, .int .i64 y2]), (B, 22, [.int .i64 x0, .int .i64 x1, .int .i64 x2])] → W.cell? ⟨Qv, 0, none⟩ = some (.bool false) ∧ W.cell? ⟨Qv, 1, none⟩ = some (S []) ∧ W.cell? ⟨Qv, 2, none⟩ = some (S []) ∧ W.cell? ⟨On, 0, none⟩ = some (.bool false) ∧ W.cell? ⟨On, 1, none⟩ = some (S [1]) ∧ W.cell? ⟨On, 2, none⟩ = some (S [1]) ∧ W.cell? ⟨Zr, 0, none⟩ = some (.bool false) ∧ W.cell? ⟨Zr, 1, none⟩ = some (S []) ∧ W.cell? ⟨Zr, 2, none⟩ = some (S [1]) ∧ W.cell? ⟨Cc, 0, none⟩ = some (.bool sc) ∧ W.cell? ⟨Cc, 1, none⟩ = some (S nc) ∧ W.cell? ⟨Cc, 2, none⟩ = some (S dc) ∧ W.cell? ⟨Bb, 0, none⟩ = some (.bool false) ∧ W.cell? ⟨Bb, 1, none⟩ = some (S []) ∧ W.cell? ⟨Bb, 2, none⟩ = some (S [1]) ∧ W.cell? ⟨A, 0, none⟩ = some (.bool sa) ∧ W.cell? ⟨A, 1, none⟩ = some (S na) ∧ W.cell? ⟨A, 2, none⟩ = some (S da) ∧ W.cell? ⟨B + 1 + 1, 0, none⟩ = some (.int .i64 z0) ∧ W.cell? ⟨B + 1 + 1, 1, none⟩ = some (.int .i64 z1) ∧ W.cell? ⟨B + 1 + 1, 2, none⟩ = some (.int .i64 z2) ∧ W.cell? ⟨B + 1, 0, none⟩ = some (.int .i64 y0) ∧ W.cell? ⟨B + 1, 1, none⟩ = some (.int .i64 y1) ∧ W.cell? ⟨B + 1, 2, none⟩ = some (.int .i64 y2) ∧ W.cell? ⟨B, 0, none⟩ = some (.int .i64 x0) ∧ W.cell? ⟨B, 1, none⟩ = some (.int .i64 x1) ∧ W.cell? ⟨B, 2, none⟩ = some (.int .i64 x2) from fun W h => ⟨(h.row _ (.head _)).cell 0, (h.row _ (.head _)).cell 1, (h.row _ (.head _)).cell 2, (h.row _ (.tail _ (.head _))).cell 0, (h.row _ (.tail _ (.head _))).cell 1, (h.row _ (.tail _ (.head _))).cell 2, (h.row _ (.tail _ (.tail _ (.head _)))).cell 0, (h.row _ (.tail _ (.tail _ (.head _)))).cell 1, (h.row _ (.tail _ (.tail _ (.head _)))).cell 2, (h.row _ (.tail _ (.tail _ (.tail _ (.head _))))).cell 0, (h.row _ (.tail _ (.tail _ (.tail _ (.head _))))).cell 1, (h.row _ (.tail _ (.tail _ (.tail _ (.head _))))).cell 2, (h.row _ (.tail _ (.tail _ (.tail _ (.tail _ (.head _)))))).cell 0, (h.row _ (.tail _ (.tail _ (.tail _ (.tail _ (.head _)))))).cell 1, (h.row _ (.tail _ (.tail _ (.tail _ (.tail _ (.head _)))))).cell 2, (h.row _ (.tail _ (.tail _ (.tail _ (.tail _ (.tail _ (.head _))))))).cell 0, (h.row _ (.tail _ (.tail _ (.tail _ (.tail _ (.tail _ (.head _))))))).cell 1, (h.row _ (.tail _ (.tail _ (.tail _ (.tail _ (.tail _ (.head _))))))).cell 2, (h.row _ (.tail _ (.tail _ (.tail _ (.tail _ (.tail _ (.tail _ (.head _)))))))).cell 0, (h.row _ (.tail _ (.tail _ (.tail _ (.tail _ (.tail _ (.tail _ (.head _)))))))).cell 1, (h.row _ (.tail _ (.tail _ (.tail _ (.tail _ (.tail _ (.tail _ (.head _)))))))).cell 2, (h.row _ (.tail _ (.tail _ (.tail _ (.tail _ (.tail _ (.tail _ (.tail _ (.head _))))))))).cell 0, (h.row _ (.tail _ (.tail _ (.tail _ (.tail _ (.tail _ (.tail _ (.tail _ (.head _))))))))).cell 1, (h.row _ (.tail _ (.tail _ (.tail _ (.tail _ (.tail _ (.tail _ (.tail _ (.head _))))))))).cell 2, (h.row _ (.tail _ (.tail _ (.tail _ (.tail _ (.tail _ (.tail _ (.tail _ (.tail _ (.head _)))))))))).cell 0, (h.row _ (.tail _ (.tail _ (.tail _ (.tail _ (.tail _ (.tail _ (.tail _ (.tail _ (.head _)))))))))).cell 1, (h.row _ (.tail _ (.tail _ (.tail _ (.tail _ (.tail _ (.tail _ (.tail _ (.tail _ (.head _)))))))))).cell 2⟩)
  obtain ⟨cc0, cc1, cc2, cc3, cc4, cc5, cc6, cc7, cc8, cc9, cc10, cc11, cc12, cc13, cc14, cc15, cc16, cc17, cc18, cc19, cc20, cc21, cc22, cc23, cc24, cc25, cc26⟩ := HF7.out _ HK.out
  go_quiet (fail)
  clear cc0 cc1 cc2 cc3 cc4 cc5 cc6 cc7 cc8 cc9 cc10 cc11 cc12 cc13 cc14 cc15 cc16 cc17 cc18 cc19 cc20 cc21 cc22 cc23 cc24 cc25 cc26
  have HK2 := Lib.hid (HK.out.drewN nq)
  obtain ⟨w14, hW⟩ : ∃ W, w13.drewN nq = W := ⟨_, rfl⟩
  rw [hW] at HK2 ⊢
  clear hW HK
  have HK := HK2
  clear HK2
  obtain ⟨cc0, cc1, cc2, cc3, cc4, cc5, cc6, cc7, cc8, cc9, cc10, cc11, cc12, cc13, cc14, cc15, cc16, cc17, cc18, cc19, cc20, cc21, cc22, cc23, cc24, cc25, cc26⟩ := HF7.out _ HK.out
  go_wp2_with fail
  clear cc0 cc1 cc2 cc3 cc4 cc5 cc6 cc7 cc8 cc9 cc10 cc11 cc12 cc13 cc14 cc15 cc16 cc17 cc18 cc19 cc20 cc21 cc22 cc23 cc24 cc25 cc26
  have HKD := Lib.hid HK.out.drew
  clear HK
  have HK := HKD
  clear HKD
  go_region_held3 (fun w' => w'.cell? ⟨Qv, 0, none⟩ = some (.bool false) ∧ w'.cell? ⟨Qv, 1, none⟩ = some (S []) ∧ w'.cell? ⟨Qv, 2, none⟩ = some (S []) ∧ w'.cell? ⟨On, 0, none⟩ = some (.bool false) ∧ w'.cell? ⟨On, 1, none⟩ = some (S [1]) ∧ w'.cell? ⟨On, 2, none⟩ = some (S [1]) ∧ w'.cell? ⟨Zr, 0, none⟩ = some (.bool false) ∧ w'.cell? ⟨Zr, 1, none⟩ = some (S []) ∧ w'.cell? ⟨Zr, 2, none⟩ = some (S [1]) ∧ w'.cell? ⟨Cc, 0, none⟩ = some (.bool sc) ∧ w'.cell? ⟨Cc, 1, none⟩ = some (S nc) ∧ w'.cell? ⟨Cc, 2, none⟩ = some (S dc) ∧ w'.cell? ⟨Bb, 0, none⟩ = some (.bool false) ∧ w'.cell? ⟨Bb, 1, none⟩ = some (S []) ∧ w'.cell? ⟨Bb, 2, none⟩ = some (S [1]) ∧ w'.cell? ⟨A, 0, none⟩ = some (.bool sa) ∧ w'.cell? ⟨A, 1, none⟩ = some (S na) ∧ w'.cell? ⟨A, 2, none⟩ = some (S da) ∧ w'.cell? ⟨B + 1 + 1, 0, none⟩ = some (.int .i64 z0) ∧ w'.cell? ⟨B + 1 + 1, 1, none⟩ = some (.int .i64 z1) ∧ w'.cell? ⟨B + 1 + 1, 2, none⟩ = some (.int .i64 z2) ∧ w'.cell? ⟨B + 1, 0, none⟩ = some (.int .i64 y0) ∧ w'.cell? ⟨B + 1, 1, none⟩ = some (.int .i64 y1) ∧ w'.cell? ⟨B + 1, 2, none⟩ = some (.int .i64 y2) ∧ w'.cell? ⟨B, 0, none⟩ = some (.int .i64 x0) ∧ w'.cell? ⟨B, 1, none⟩ = some (.int .i64 x1) ∧ w'.cell? ⟨B, 2, none⟩ = some (.int .i64 x2))
    (first
      | (with_reducible exact HF7.out _ HK.out)
      | (with_reducible exact HF7.out _ HK.out.tail)
      | (with_reducible exact HF7.out _ (HK.out.other _))
      | (with_reducible exact HF7.out _ (HK.out.tail.other _))
      | go_keep)
    (first
      | (go_at_call 16; with_reducible refine (G18.out _ (HT.out.ch HK.out.ch)).mono ?_; rintro e wq ⟨rfl, hCq⟩; have HK2 := Lib.hid (HK.out.on hCq); clear hCq HK; have HK := HK2; clear HK2)
      | (go_at_call 16; with_reducible refine (G18.out _ (HT.out.ch (HK.out.new #[.bool sa, S na, S da, .bool false, S [], S [1], .bool sc, S nc, S dc] 26).ch)).mono ?_; rintro e wq ⟨rfl, hCq⟩; have HK2 := Lib.hid ((HK.out.new #[.bool sa, S na, S da, .bool false, S [], S [1], .bool sc, S nc, S dc] 26).on hCq); clear hCq HK; have HK := HK2; clear HK2)
      | (go_at_call 24; with_reducible refine (G19.out _ (HT.out.ch HK.out.ch)).mono ?_; rintro e wq ⟨rfl, hCq⟩; have HK2 := Lib.hid (HK.out.on hCq); clear hCq HK; have HK := HK2; clear HK2)
      | (go_at_call 24; with_reducible refine (G19.out _ (HT.out.ch (HK.out.new #[.bool sa, S na, S da, .bool false, S [], S [1], .bool sc, S nc, S dc] 26).ch)).mono ?_; rintro e wq ⟨rfl, hCq⟩; have HK2 := Lib.hid ((HK.out.new #[.bool sa, S na, S da, .bool false, S [], S [1], .bool sc, S nc, S dc] 26).on hCq); clear hCq HK; have HK := HK2; clear HK2)
      | (go_at_call 14; with_reducible refine (G20.out _ (HT.out.ch HK.out.ch)).mono ?_; rintro e wq ⟨rfl, hCq⟩; have HK2 := Lib.hid (HK.out.on hCq); clear hCq HK; have HK := HK2; clear HK2)
      | (go_at_call 14; with_reducible refine (G20.out _ (HT.out.ch (HK.out.new #[.bool sa, S na, S da, .bool false, S [], S [1], .bool sc, S nc, S dc] 26).ch)).mono ?_; rintro e wq ⟨rfl, hCq⟩; have HK2 := Lib.hid ((HK.out.new #[.bool sa, S na, S da, .bool false, S [], S [1], .bool sc, S nc, S dc] 26).on hCq); clear hCq HK; have HK := HK2; clear HK2)
      | (go_at_call 14; with_reducible refine (G1.out _ (HT.out.ch HK.out.ch)).mono ?_; rintro e wq ⟨rfl, hCq⟩; have HK2 := Lib.hid (HK.out.on hCq); clear hCq HK; have HK := HK2; clear HK2)
      | (go_at_call 14; with_reducible refine (G1.out _ (HT.out.ch (HK.out.new #[.bool sa, S na, S da, .bool false, S [], S [1], .bool sc, S nc, S dc] 26).ch)).mono ?_; rintro e wq ⟨rfl, hCq⟩; have HK2 := Lib.hid ((HK.out.new #[.bool sa, S na, S da, .bool false, S [], S [1], .bool sc, S nc, S dc] 26).on hCq); clear hCq HK; have HK := HK2; clear HK2)
      | (go_at_call 14; with_reducible refine (G5.out _ (HT.out.ch HK.out.ch)).mono ?_; rintro e wq ⟨rfl, hCq⟩; have HK2 := Lib.hid (HK.out.on hCq); clear hCq HK; have HK := HK2; clear HK2)
      | (go_at_call 14; with_reducible refine (G5.out _ (HT.out.ch (HK.out.new #[.bool sa, S na, S da, .bool false, S [], S [1], .bool sc, S nc, S dc] 26).ch)).mono ?_; rintro e wq ⟨rfl, hCq⟩; have HK2 := Lib.hid ((HK.out.new #[.bool sa, S na, S da, .bool false, S [], S [1], .bool sc, S nc, S dc] 26).on hCq); clear hCq HK; have HK := HK2; clear HK2)
      | (go_at_call 30; with_reducible refine (HS.out _ _ _ (HK.out.new #[.bool sa, S na, S da, .bool false, S [], S [1], .bool sc, S nc, S dc] 26)).mono ?_; rintro e wq ⟨rfl, hCq⟩; have HK2 := Lib.hid ((HK.out.new #[.bool sa, S na, S da, .bool false, S [], S [1], .bool sc, S nc, S dc] 26).on hCq); clear hCq HK; have HK := HK2; clear HK2)
      | (go_at_call 30; with_reducible refine (HS.out _ _ _ HK.out).mono ?_; rintro e wq ⟨rfl, hCq⟩; have HK2 := Lib.hid (HK.out.on hCq); clear hCq HK; have HK := HK2; clear HK2))
  go_wp2_with fail
  go_ret
  exact ⟨rfl, HK.out.ch⟩
set_option maxRecDepth 100000 in
set_option maxHeartbeats 3200000 in
theorem field_walk1 {x0 x1 x2 y0 y1 y2 z0 z1 z2 : Int} {sa sb sc sp su st sm sv sk sg se sh sj soo sq : Bool} {na da nb db nc dc np dp nu du nt dt nm dm nv dv nk dk ng dg ne de nh dh nj dj noo doo nq dq : List UInt8} (w : World) (ht : Tb w) (hnb : (nb == []) = false)
    (hH0 : AnsT 10 #[] (.bool true)) (hH1 : Ans 11 #[.agg #[.int .i64 x0, .int .i64 x1, .int .i64 x2]] (Tv (sa, na, da))) (hH2 : Ans 11 #[.agg #[.int .i64 y0, .int .i64 y1, .int .i64 y2]] (Tv (sb, nb, db))) (hH3 : Ans 11 #[.agg #[.int .i64 z0, .int .i64 z1, .int .i64 z2]] (Tv (sc, nc, dc))) (hHZ : Ans 36 #[.int .i64 0] (Rv false [] [1])) (hHO : Ans 36 #[.int .i64 1] (Rv false [1] [1])) (hG1 : AnsT 14 #[Rv sa na da, Rv sb nb db] (Rv sp np dp)) (hG2 : AnsT 14 #[Rv sb nb db, Rv sa na da] (Rv sp np dp)) (hG3 : AnsT 18 #[Rv sa na da, Rv sb nb db] (Rv sm nm dm)) (hG4 : AnsT 18 #[Rv sb nb db, Rv sa na da] (Rv sm nm dm)) (hG5 : AnsT 14 #[Rv sp np dp, Rv sc nc dc] (Rv st nt dt)) (hG6 : AnsT 14 #[Rv sb nb db, Rv sc nc dc] (Rv su nu du)) (hG7 : AnsT 14 #[Rv sa na da, Rv su nu du] (Rv st nt dt)) (hG8 : AnsT 18 #[Rv sm nm dm, Rv sc nc dc] (Rv sk nk dk)) (hG9 : AnsT 18 #[Rv sb nb db, Rv sc nc dc] (Rv sv nv dv)) (hG10 : AnsT 18 #[Rv sa na da, Rv sv nv dv] (Rv sk nk dk)) (hG11 : AnsT 18 #[Rv sa na da, Rv su nu du] (Rv se ne de)) (hG12 : AnsT 18 #[Rv sa na da, Rv sc nc dc] (Rv sg ng dg)) (hG13 : AnsT 14 #[Rv sm nm dm, Rv sg ng dg] (Rv se ne de)) (hG14 : AnsT 14 #[Rv sa na da, Rv false [] [1]] (Rv sa na da)) (hG15 : AnsT 18 #[Rv sa na da, Rv false [1] [1]] (Rv sa na da)) (hG17 : AnsT 14 #[Rv sa na da, Rv sh nh dh] (Rv false [] [1])) (hG18 : AnsT 16 #[Rv sa na da, Rv sb nb db] (Rv soo noo doo)) (hG20 : AnsT 14 #[Rv sa na da, Rv sj nj dj] (Rv soo noo doo)) (hG16 : AnsT 24 #[Rv sa na da] (Rv sh nh dh)) (hG19 : AnsT 24 #[Rv sb nb db] (Rv sj nj dj)) (hHQ : AnsT 12 #[Rv sa na da, Rv sb nb db] (.tuple #[Rv sq nq dq, .bool true])) (hHM : AnsT 18 #[Rv sq nq dq, Rv sb nb db] (Rv sa na da)) (hHS : ∀ (W : World) (X : Nat) (rest : List (Nat × TypeId × List Value)), Kq w W ((X, 26, fcells sa sb sc na da nb db nc dc) :: rest) → Calls Tryz.prog 30 #[.slice (some ⟨X, 0, none⟩) 3 3] W (Yld W (Rv st nt dt))) :
    Calls Tryz.prog 6 #[.agg #[.int .i64 x0, .int .i64 x1, .int .i64 x2], .agg #[.int .i64 y0, .int .i64 y1, .int .i64 y2], .agg #[.int .i64 z0, .int .i64 z1, .int .i64 z2]] w (Yld w (.bool true)) := by
  have H0 := Lib.hid hH0
  have H1 := Lib.hid hH1
  have H2 := Lib.hid hH2
  have H3 := Lib.hid hH3
  have HZ := Lib.hid hHZ
  have HO := Lib.hid hHO
  have G1 := Lib.hid hG1
  have G2 := Lib.hid hG2
  have G3 := Lib.hid hG3
  have G4 := Lib.hid hG4
  have G5 := Lib.hid hG5
  have G6 := Lib.hid hG6
  have G7 := Lib.hid hG7
  have G8 := Lib.hid hG8
  have G9 := Lib.hid hG9
  have G10 := Lib.hid hG10
  have G11 := Lib.hid hG11
  have G12 := Lib.hid hG12
  have G13 := Lib.hid hG13
  have G14 := Lib.hid hG14
  have G15 := Lib.hid hG15
  have G17 := Lib.hid hG17
  have G18 := Lib.hid hG18
  have G20 := Lib.hid hG20
  have G16 := Lib.hid hG16
  have G19 := Lib.hid hG19
  have HQ := Lib.hid hHQ
  have HM := Lib.hid hHM
  have HS := Lib.hid hHS
  have HT := Lib.hid ht
  clear ht hH0 hH1 hH2 hH3 hHZ hHO hG1 hG2 hG3 hG4 hG5 hG6 hG7 hG8 hG9 hG10 hG11 hG12 hG13 hG14 hG15 hG17 hG18 hG20 hG16 hG19 hHQ hHM hHS
  have HK := Lib.hid ((((Kq.nil w).new #[.int .i64 x0, .int .i64 x1, .int .i64 x2] 22).new #[.int .i64 y0, .int .i64 y1, .int .i64 y2] 22).new #[.int .i64 z0, .int .i64 z1, .int .i64 z2] 22)
  rw [World.size_alloc, World.size_alloc] at HK
  obtain ⟨B, hB⟩ : ∃ B, w.heap.size = B := ⟨_, rfl⟩
  rw [hB] at HK
  have HF1 := Lib.hid (show ∀ W, Kq w W [(B + 1 + 1, 22, [.int .i64 z0, .int .i64 z1, .int .i64 z2]), (B + 1, 22, [.int .i64 y0, .int .i64 y1, .int .i64 y2]), (B, 22, [.int .i64 x0, .int .i64 x1, .int .i64 x2])] → W.cell? ⟨B + 1 + 1, 0, none⟩ = some (.int .i64 z0) ∧ W.cell? ⟨B + 1 + 1, 1, none⟩ = some (.int .i64 z1) ∧ W.cell? ⟨B + 1 + 1, 2, none⟩ = some (.int .i64 z2) ∧ W.cell? ⟨B + 1, 0, none⟩ = some (.int .i64 y0) ∧ W.cell? ⟨B + 1, 1, none⟩ = some (.int .i64 y1) ∧ W.cell? ⟨B + 1, 2, none⟩ = some (.int .i64 y2) ∧ W.cell? ⟨B, 0, none⟩ = some (.int .i64 x0) ∧ W.cell? ⟨B, 1, none⟩ = some (.int .i64 x1) ∧ W.cell? ⟨B, 2, none⟩ = some (.int .i64 x2) from fun W h => ⟨(h.row _ (.head _)).cell 0, (h.row _ (.head _)).cell 1, (h.row _ (.head _)).cell 2, (h.row _ (.tail _ (.head _))).cell 0, (h.row _ (.tail _ (.head _))).cell 1, (h.row _ (.tail _ (.head _))).cell 2, (h.row _ (.tail _ (.tail _ (.head _)))).cell 0, (h.row _ (.tail _ (.tail _ (.head _)))).cell 1, (h.row _ (.tail _ (.tail _ (.head _)))).cell 2⟩)
  obtain ⟨cc0, cc1, cc2, cc3, cc4, cc5, cc6, cc7, cc8⟩ := HF1.out _ HK.out
  go_enter Tryz.func6, Tryz.ntmps6
  go_wp2_with fail
  refine (H0.out _ (HT.out.ch HK.out.ch)).mono ?_
  rintro e w1 ⟨rfl, hC⟩
  have HK2 := Lib.hid (HK.out.on hC)
  clear cc0 cc1 cc2 cc3 cc4 cc5 cc6 cc7 cc8
  clear hC HK
  have HK := HK2
  clear HK2
  obtain ⟨cc0, cc1, cc2, cc3, cc4, cc5, cc6, cc7, cc8⟩ := HF1.out _ HK.out
  go_wp2_with fail
  refine (H1.out _).mono ?_
  rintro e w2 ⟨rfl, hC⟩
  have HK2 := Lib.hid (HK.out.on hC)
  clear cc0 cc1 cc2 cc3 cc4 cc5 cc6 cc7 cc8
  clear hC HK
  have HK := HK2
  clear HK2
  obtain ⟨cc0, cc1, cc2, cc3, cc4, cc5, cc6, cc7, cc8⟩ := HF1.out _ HK.out
  have hall := fun o : Obj => HF1.out _ (HK.out.other o)
  have dd0 : ∀ o : Obj, (w2.alloc o).cell? ⟨B + 1 + 1, 0, none⟩ = some (.int .i64 z0) := fun o => (hall o).1
  have dd1 : ∀ o : Obj, (w2.alloc o).cell? ⟨B + 1 + 1, 1, none⟩ = some (.int .i64 z1) := fun o => (hall o).2.1
  have dd2 : ∀ o : Obj, (w2.alloc o).cell? ⟨B + 1 + 1, 2, none⟩ = some (.int .i64 z2) := fun o => (hall o).2.2.1
  have dd3 : ∀ o : Obj, (w2.alloc o).cell? ⟨B + 1, 0, none⟩ = some (.int .i64 y0) := fun o => (hall o).2.2.2.1
  have dd4 : ∀ o : Obj, (w2.alloc o).cell? ⟨B + 1, 1, none⟩ = some (.int .i64 y1) := fun o => (hall o).2.2.2.2.1
  have dd5 : ∀ o : Obj, (w2.alloc o).cell? ⟨B + 1, 2, none⟩ = some (.int .i64 y2) := fun o => (hall o).2.2.2.2.2.1
  have dd6 : ∀ o : Obj, (w2.alloc o).cell? ⟨B, 0, none⟩ = some (.int .i64 x0) := fun o => (hall o).2.2.2.2.2.2.1
  have dd7 : ∀ o : Obj, (w2.alloc o).cell? ⟨B, 1, none⟩ = some (.int .i64 x1) := fun o => (hall o).2.2.2.2.2.2.2.1
  have dd8 : ∀ o : Obj, (w2.alloc o).cell? ⟨B, 2, none⟩ = some (.int .i64 x2) := fun o => (hall o).2.2.2.2.2.2.2.2
  clear hall
  go_wp2_with fail
  clear cc0 cc1 cc2 cc3 cc4 cc5 cc6 cc7 cc8 dd0 dd1 dd2 dd3 dd4 dd5 dd6 dd7 dd8
  have HK2 := Lib.hid (HK.out.new #[.bool sa, S na, S da] 26)
  obtain ⟨w3, hW⟩ : ∃ W, w2.alloc (.cells #[.bool sa, S na, S da] 26 (0, 0)) = W := ⟨_, rfl⟩
  rw [hW] at HK2 ⊢
  obtain ⟨A, hA⟩ : ∃ A, w2.heap.size = A := ⟨_, rfl⟩
  rw [hA] at HK2 ⊢
  clear hA hW HK
  have HK := HK2
  clear HK2
  have HF2 := Lib.hid (show ∀ W, Kq w W [(A, 26, [.bool sa, S na, S da]), (B + 1 + 1, 22, [.int .i64 z0, .int .i64 z1, .int .i64 z2]), (B + 1, 22, [.int .i64 y0, .int .i64 y1, .int .i64 y2]), (B, 22, [.int .i64 x0, .int .i64 x1, .int .i64 x2])] → W.cell? ⟨A, 0, none⟩ = some (.bool sa) ∧ W.cell? ⟨A, 1, none⟩ = some (S na) ∧ W.cell? ⟨A, 2, none⟩ = some (S da) ∧ W.cell? ⟨B + 1 + 1, 0, none⟩ = some (.int .i64 z0) ∧ W.cell? ⟨B + 1 + 1, 1, none⟩ = some (.int .i64 z1) ∧ W.cell? ⟨B + 1 + 1, 2, none⟩ = some (.int .i64 z2) ∧ W.cell? ⟨B + 1, 0, none⟩ = some (.int .i64 y0) ∧ W.cell? ⟨B + 1, 1, none⟩ = some (.int .i64 y1) ∧ W.cell? ⟨B + 1, 2, none⟩ = some (.int .i64 y2) ∧ W.cell? ⟨B, 0, none⟩ = some (.int .i64 x0) ∧ W.cell? ⟨B, 1, none⟩ = some (.int .i64 x1) ∧ W.cell? ⟨B, 2, none⟩ = some (.int .i64 x2) from fun W h => ⟨(h.row _ (.head _)).cell 0, (h.row _ (.head _)).cell 1, (h.row _ (.head _)).cell 2, (h.row _ (.tail _ (.head _))).cell 0, (h.row _ (.tail _ (.head _))).cell 1, (h.row _ (.tail _ (.head _))).cell 2, (h.row _ (.tail _ (.tail _ (.head _)))).cell 0, (h.row _ (.tail _ (.tail _ (.head _)))).cell 1, (h.row _ (.tail _ (.tail _ (.head _)))).cell 2, (h.row _ (.tail _ (.tail _ (.tail _ (.head _))))).cell 0, (h.row _ (.tail _ (.tail _ (.tail _ (.head _))))).cell 1, (h.row _ (.tail _ (.tail _ (.tail _ (.head _))))).cell 2⟩)
  obtain ⟨cc0, cc1, cc2, cc3, cc4, cc5, cc6, cc7, cc8, cc9, cc10, cc11⟩ := HF2.out _ HK.out
  refine (H2.out _).mono ?_
  rintro e w4 ⟨rfl, hC⟩
  have HK2 := Lib.hid (HK.out.on hC)
  clear cc0 cc1 cc2 cc3 cc4 cc5 cc6 cc7 cc8 cc9 cc10 cc11
  clear hC HK
  have HK := HK2
  clear HK2
  obtain ⟨cc0, cc1, cc2, cc3, cc4, cc5, cc6, cc7, cc8, cc9, cc10, cc11⟩ := HF2.out _ HK.out
  have hall := fun o : Obj => HF2.out _ (HK.out.other o)
  have dd0 : ∀ o : Obj, (w4.alloc o).cell? ⟨A, 0, none⟩ = some (.bool sa) := fun o => (hall o).1
  have dd1 : ∀ o : Obj, (w4.alloc o).cell? ⟨A, 1, none⟩ = some (S na) := fun o => (hall o).2.1
  have dd2 : ∀ o : Obj, (w4.alloc o).cell? ⟨A, 2, none⟩ = some (S da) := fun o => (hall o).2.2.1
  have dd3 : ∀ o : Obj, (w4.alloc o).cell? ⟨B + 1 + 1, 0, none⟩ = some (.int .i64 z0) := fun o => (hall o).2.2.2.1
  have dd4 : ∀ o : Obj, (w4.alloc o).cell? ⟨B + 1 + 1, 1, none⟩ = some (.int .i64 z1) := fun o => (hall o).2.2.2.2.1
  have dd5 : ∀ o : Obj, (w4.alloc o).cell? ⟨B + 1 + 1, 2, none⟩ = some (.int .i64 z2) := fun o => (hall o).2.2.2.2.2.1
  have dd6 : ∀ o : Obj, (w4.alloc o).cell? ⟨B + 1, 0, none⟩ = some (.int .i64 y0) := fun o => (hall o).2.2.2.2.2.2.1
  have dd7 : ∀ o : Obj, (w4.alloc o).cell? ⟨B + 1, 1, none⟩ = some (.int .i64 y1) := fun o => (hall o).2.2.2.2.2.2.2.1
  have dd8 : ∀ o : Obj, (w4.alloc o).cell? ⟨B + 1, 2, none⟩ = some (.int .i64 y2) := fun o => (hall o).2.2.2.2.2.2.2.2.1
  have dd9 : ∀ o : Obj, (w4.alloc o).cell? ⟨B, 0, none⟩ = some (.int .i64 x0) := fun o => (hall o).2.2.2.2.2.2.2.2.2.1
  have dd10 : ∀ o : Obj, (w4.alloc o).cell? ⟨B, 1, none⟩ = some (.int .i64 x1) := fun o => (hall o).2.2.2.2.2.2.2.2.2.2.1
  have dd11 : ∀ o : Obj, (w4.alloc o).cell? ⟨B, 2, none⟩ = some (.int .i64 x2) := fun o => (hall o).2.2.2.2.2.2.2.2.2.2.2
  clear hall
  go_wp2_with fail
  clear cc0 cc1 cc2 cc3 cc4 cc5 cc6 cc7 cc8 cc9 cc10 cc11 dd0 dd1 dd2 dd3 dd4 dd5 dd6 dd7 dd8 dd9 dd10 dd11
  have HK2 := Lib.hid (HK.out.new #[.bool sb, S nb, S db] 26)
  obtain ⟨w5, hW⟩ : ∃ W, w4.alloc (.cells #[.bool sb, S nb, S db] 26 (0, 0)) = W := ⟨_, rfl⟩
  rw [hW] at HK2 ⊢
  obtain ⟨Bb, hA⟩ : ∃ A, w4.heap.size = A := ⟨_, rfl⟩
  rw [hA] at HK2 ⊢
  clear hA hW HK
  have HK := HK2
  clear HK2
  have HF3 := Lib.hid (show ∀ W, Kq w W [(Bb, 26, [.bool sb, S nb, S db]), (A, 26, [.bool sa, S na, S da]), (B + 1 + 1, 22, [.int .i64 z0, .int .i64 z1, .int .i64 z2]), (B + 1, 22, [.int .i64 y0, .int .i64 y1, .int .i64 y2]), (B, 22, [.int .i64 x0, .int .i64 x1, .int .i64 x2])] → W.cell? ⟨Bb, 0, none⟩ = some (.bool sb) ∧ W.cell? ⟨Bb, 1, none⟩ = some (S nb) ∧ W.cell? ⟨Bb, 2, none⟩ = some (S db) ∧ W.cell? ⟨A, 0, none⟩ = some (.bool sa) ∧ W.cell? ⟨A, 1, none⟩ = some (S na) ∧ W.cell? ⟨A, 2, none⟩ = some (S da) ∧ W.cell? ⟨B + 1 + 1, 0, none⟩ = some (.int .i64 z0) ∧ W.cell? ⟨B + 1 + 1, 1, none⟩ = some (.int .i64 z1) ∧ W.cell? ⟨B + 1 + 1, 2, none⟩ = some (.int .i64 z2) ∧ W.cell? ⟨B + 1, 0, none⟩ = some (.int .i64 y0) ∧ W.cell? ⟨B + 1, 1, none⟩ = some (.int .i64 y1) ∧ W.cell? ⟨B + 1, 2, none⟩ = some (.int .i64 y2) ∧ W.cell? ⟨B, 0, none⟩ = some (.int .i64 x0) ∧ W.cell? ⟨B, 1, none⟩ = some (.int .i64 x1) ∧ W.cell? ⟨B, 2, none⟩ = some (.int .i64 x2) from fun W h => ⟨(h.row _ (.head _)).cell 0, (h.row _ (.head _)).cell 1, (h.row _ (.head _)).cell 2, (h.row _ (.tail _ (.head _))).cell 0, (h.row _ (.tail _ (.head _))).cell 1, (h.row _ (.tail _ (.head _))).cell 2, (h.row _ (.tail _ (.tail _ (.head _)))).cell 0, (h.row _ (.tail _ (.tail _ (.head _)))).cell 1, (h.row _ (.tail _ (.tail _ (.head _)))).cell 2, (h.row _ (.tail _ (.tail _ (.tail _ (.head _))))).cell 0, (h.row _ (.tail _ (.tail _ (.tail _ (.head _))))).cell 1, (h.row _ (.tail _ (.tail _ (.tail _ (.head _))))).cell 2, (h.row _ (.tail _ (.tail _ (.tail _ (.tail _ (.head _)))))).cell 0, (h.row _ (.tail _ (.tail _ (.tail _ (.tail _ (.head _)))))).cell 1, (h.row _ (.tail _ (.tail _ (.tail _ (.tail _ (.head _)))))).cell 2⟩)
  obtain ⟨cc0, cc1, cc2, cc3, cc4, cc5, cc6, cc7, cc8, cc9, cc10, cc11, cc12, cc13, cc14⟩ := HF3.out _ HK.out
  refine (H3.out _).mono ?_
  rintro e w6 ⟨rfl, hC⟩
  have HK2 := Lib.hid (HK.out.on hC)
  clear cc0 cc1 cc2 cc3 cc4 cc5 cc6 cc7 cc8 cc9 cc10 cc11 cc12 cc13 cc14
  clear hC HK
  have HK := HK2
  clear HK2
  obtain ⟨cc0, cc1, cc2, cc3, cc4, cc5, cc6, cc7, cc8, cc9, cc10, cc11, cc12, cc13, cc14⟩ := HF3.out _ HK.out
  have hall := fun o : Obj => HF3.out _ (HK.out.other o)
  have dd0 : ∀ o : Obj, (w6.alloc o).cell? ⟨Bb, 0, none⟩ = some (.bool sb) := fun o => (hall o).1
  have dd1 : ∀ o : Obj, (w6.alloc o).cell? ⟨Bb, 1, none⟩ = some (S nb) := fun o => (hall o).2.1
  have dd2 : ∀ o : Obj, (w6.alloc o).cell? ⟨Bb, 2, none⟩ = some (S db) := fun o => (hall o).2.2.1
  have dd3 : ∀ o : Obj, (w6.alloc o).cell? ⟨A, 0, none⟩ = some (.bool sa) := fun o => (hall o).2.2.2.1
  have dd4 : ∀ o : Obj, (w6.alloc o).cell? ⟨A, 1, none⟩ = some (S na) := fun o => (hall o).2.2.2.2.1
  have dd5 : ∀ o : Obj, (w6.alloc o).cell? ⟨A, 2, none⟩ = some (S da) := fun o => (hall o).2.2.2.2.2.1
  have dd6 : ∀ o : Obj, (w6.alloc o).cell? ⟨B + 1 + 1, 0, none⟩ = some (.int .i64 z0) := fun o => (hall o).2.2.2.2.2.2.1
  have dd7 : ∀ o : Obj, (w6.alloc o).cell? ⟨B + 1 + 1, 1, none⟩ = some (.int .i64 z1) := fun o => (hall o).2.2.2.2.2.2.2.1
  have dd8 : ∀ o : Obj, (w6.alloc o).cell? ⟨B + 1 + 1, 2, none⟩ = some (.int .i64 z2) := fun o => (hall o).2.2.2.2.2.2.2.2.1
  have dd9 : ∀ o : Obj, (w6.alloc o).cell? ⟨B + 1, 0, none⟩ = some (.int .i64 y0) := fun o => (hall o).2.2.2.2.2.2.2.2.2.1
  have dd10 : ∀ o : Obj, (w6.alloc o).cell? ⟨B + 1, 1, none⟩ = some (.int .i64 y1) := fun o => (hall o).2.2.2.2.2.2.2.2.2.2.1
  have dd11 : ∀ o : Obj, (w6.alloc o).cell? ⟨B + 1, 2, none⟩ = some (.int .i64 y2) := fun o => (hall o).2.2.2.2.2.2.2.2.2.2.2.1
  have dd12 : ∀ o : Obj, (w6.alloc o).cell? ⟨B, 0, none⟩ = some (.int .i64 x0) := fun o => (hall o).2.2.2.2.2.2.2.2.2.2.2.2.1
  have dd13 : ∀ o : Obj, (w6.alloc o).cell? ⟨B, 1, none⟩ = some (.int .i64 x1) := fun o => (hall o).2.2.2.2.2.2.2.2.2.2.2.2.2.1
  have dd14 : ∀ o : Obj, (w6.alloc o).cell? ⟨B, 2, none⟩ = some (.int .i64 x2) := fun o => (hall o).2.2.2.2.2.2.2.2.2.2.2.2.2.2
  clear hall
  go_wp2_with fail
  clear cc0 cc1 cc2 cc3 cc4 cc5 cc6 cc7 cc8 cc9 cc10 cc11 cc12 cc13 cc14 dd0 dd1 dd2 dd3 dd4 dd5 dd6 dd7 dd8 dd9 dd10 dd11 dd12 dd13 dd14
  have HK2 := Lib.hid (HK.out.new #[.bool sc, S nc, S dc] 26)
  obtain ⟨w7, hW⟩ : ∃ W, w6.alloc (.cells #[.bool sc, S nc, S dc] 26 (0, 0)) = W := ⟨_, rfl⟩
  rw [hW] at HK2 ⊢
  obtain ⟨Cc, hA⟩ : ∃ A, w6.heap.size = A := ⟨_, rfl⟩
  rw [hA] at HK2 ⊢
  clear hA hW HK
  have HK := HK2
  clear HK2
  have HF4 := Lib.hid (show ∀ W, Kq w W [(Cc, 26, [.bool sc, S nc, S dc]), (Bb, 26, [.bool sb, S nb, S db]), (A, 26, [.bool sa, S na, S da]), (B + 1 + 1, 22, [.int .i64 z0, .int .i64 z1, .int .i64 z2]), (B + 1, 22, [.int .i64 y0, .int .i64 y1, .int .i64 y2]), (B, 22, [.int .i64 x0, .int .i64 x1, .int .i64 x2])] → W.cell? ⟨Cc, 0, none⟩ = some (.bool sc) ∧ W.cell? ⟨Cc, 1, none⟩ = some (S nc) ∧ W.cell? ⟨Cc, 2, none⟩ = some (S dc) ∧ W.cell? ⟨Bb, 0, none⟩ = some (.bool sb) ∧ W.cell? ⟨Bb, 1, none⟩ = some (S nb) ∧ W.cell? ⟨Bb, 2, none⟩ = some (S db) ∧ W.cell? ⟨A, 0, none⟩ = some (.bool sa) ∧ W.cell? ⟨A, 1, none⟩ = some (S na) ∧ W.cell? ⟨A, 2, none⟩ = some (S da) ∧ W.cell? ⟨B + 1 + 1, 0, none⟩ = some (.int .i64 z0) ∧ W.cell? ⟨B + 1 + 1, 1, none⟩ = some (.int .i64 z1) ∧ W.cell? ⟨B + 1 + 1, 2, none⟩ = some (.int .i64 z2) ∧ W.cell? ⟨B + 1, 0, none⟩ = some (.int .i64 y0) ∧ W.cell? ⟨B + 1, 1, none⟩ = some (.int .i64 y1) ∧ W.cell? ⟨B + 1, 2, none⟩ = some (.int .i64 y2) ∧ W.cell? ⟨B, 0, none⟩ = some (.int .i64 x0) ∧ W.cell? ⟨B, 1, none⟩ = some (.int .i64 x1) ∧ W.cell? ⟨B, 2, none⟩ = some (.int .i64 x2) from fun W h => ⟨(h.row _ (.head _)).cell 0, (h.row _ (.head _)).cell 1, (h.row _ (.head _)).cell 2, (h.row _ (.tail _ (.head _))).cell 0, (h.row _ (.tail _ (.head _))).cell 1, (h.row _ (.tail _ (.head _))).cell 2, (h.row _ (.tail _ (.tail _ (.head _)))).cell 0, (h.row _ (.tail _ (.tail _ (.head _)))).cell 1, (h.row _ (.tail _ (.tail _ (.head _)))).cell 2, (h.row _ (.tail _ (.tail _ (.tail _ (.head _))))).cell 0, (h.row _ (.tail _ (.tail _ (.tail _ (.head _))))).cell 1, (h.row _ (.tail _ (.tail _ (.tail _ (.head _))))).cell 2, (h.row _ (.tail _ (.tail _ (.tail _ (.tail _ (.head _)))))).cell 0, (h.row _ (.tail _ (.tail _ (.tail _ (.tail _ (.head _)))))).cell 1, (h.row _ (.tail _ (.tail _ (.tail _ (.tail _ (.head _)))))).cell 2, (h.row _ (.tail _ (.tail _ (.tail _ (.tail _ (.tail _ (.head _))))))).cell 0, (h.row _ (.tail _ (.tail _ (.tail _ (.tail _ (.tail _ (.head _))))))).cell 1, (h.row _ (.tail _ (.tail _ (.tail _ (.tail _ (.tail _ (.head _))))))).cell 2⟩)
  obtain ⟨cc0, cc1, cc2, cc3, cc4, cc5, cc6, cc7, cc8, cc9, cc10, cc11, cc12, cc13, cc14, cc15, cc16, cc17⟩ := HF4.out _ HK.out
  refine (HZ.out _).mono ?_
  rintro e w8 ⟨rfl, hC⟩
  have HK2 := Lib.hid (HK.out.on hC)
  clear cc0 cc1 cc2 cc3 cc4 cc5 cc6 cc7 cc8 cc9 cc10 cc11 cc12 cc13 cc14 cc15 cc16 cc17
  clear hC HK
  have HK := HK2
  clear HK2
  obtain ⟨cc0, cc1, cc2, cc3, cc4, cc5, cc6, cc7, cc8, cc9, cc10, cc11, cc12, cc13, cc14, cc15, cc16, cc17⟩ := HF4.out _ HK.out
  have hall := fun o : Obj => HF4.out _ (HK.out.other o)
  have dd0 : ∀ o : Obj, (w8.alloc o).cell? ⟨Cc, 0, none⟩ = some (.bool sc) := fun o => (hall o).1
  have dd1 : ∀ o : Obj, (w8.alloc o).cell? ⟨Cc, 1, none⟩ = some (S nc) := fun o => (hall o).2.1
  have dd2 : ∀ o : Obj, (w8.alloc o).cell? ⟨Cc, 2, none⟩ = some (S dc) := fun o => (hall o).2.2.1
  have dd3 : ∀ o : Obj, (w8.alloc o).cell? ⟨Bb, 0, none⟩ = some (.bool sb) := fun o => (hall o).2.2.2.1
  have dd4 : ∀ o : Obj, (w8.alloc o).cell? ⟨Bb, 1, none⟩ = some (S nb) := fun o => (hall o).2.2.2.2.1
  have dd5 : ∀ o : Obj, (w8.alloc o).cell? ⟨Bb, 2, none⟩ = some (S db) := fun o => (hall o).2.2.2.2.2.1
  have dd6 : ∀ o : Obj, (w8.alloc o).cell? ⟨A, 0, none⟩ = some (.bool sa) := fun o => (hall o).2.2.2.2.2.2.1
  have dd7 : ∀ o : Obj, (w8.alloc o).cell? ⟨A, 1, none⟩ = some (S na) := fun o => (hall o).2.2.2.2.2.2.2.1
  have dd8 : ∀ o : Obj, (w8.alloc o).cell? ⟨A, 2, none⟩ = some (S da) := fun o => (hall o).2.2.2.2.2.2.2.2.1
  have dd9 : ∀ o : Obj, (w8.alloc o).cell? ⟨B + 1 + 1, 0, none⟩ = some (.int .i64 z0) := fun o => (hall o).2.2.2.2.2.2.2.2.2.1
  have dd10 : ∀ o : Obj, (w8.alloc o).cell? ⟨B + 1 + 1, 1, none⟩ = some (.int .i64 z1) := fun o => (hall o).2.2.2.2.2.2.2.2.2.2.1
  have dd11 : ∀ o : Obj, (w8.alloc o).cell? ⟨B + 1 + 1, 2, none⟩ = some (.int .i64 z2) := fun o => (hall o).2.2.2.2.2.2.2.2.2.2.2.1
  have dd12 : ∀ o : Obj, (w8.alloc o).cell? ⟨B + 1, 0, none⟩ = some (.int .i64 y0) := fun o => (hall o).2.2.2.2.2.2.2.2.2.2.2.2.1
  have dd13 : ∀ o : Obj, (w8.alloc o).cell? ⟨B + 1, 1, none⟩ = some (.int .i64 y1) := fun o => (hall o).2.2.2.2.2.2.2.2.2.2.2.2.2.1
  have dd14 : ∀ o : Obj, (w8.alloc o).cell? ⟨B + 1, 2, none⟩ = some (.int .i64 y2) := fun o => (hall o).2.2.2.2.2.2.2.2.2.2.2.2.2.2.1
  have dd15 : ∀ o : Obj, (w8.alloc o).cell? ⟨B, 0, none⟩ = some (.int .i64 x0) := fun o => (hall o).2.2.2.2.2.2.2.2.2.2.2.2.2.2.2.1
  have dd16 : ∀ o : Obj, (w8.alloc o).cell? ⟨B, 1, none⟩ = some (.int .i64 x1) := fun o => (hall o).2.2.2.2.2.2.2.2.2.2.2.2.2.2.2.2.1
  have dd17 : ∀ o : Obj, (w8.alloc o).cell? ⟨B, 2, none⟩ = some (.int .i64 x2) := fun o => (hall o).2.2.2.2.2.2.2.2.2.2.2.2.2.2.2.2.2
  clear hall
  go_wp2_with fail
  clear cc0 cc1 cc2 cc3 cc4 cc5 cc6 cc7 cc8 cc9 cc10 cc11 cc12 cc13 cc14 cc15 cc16 cc17 dd0 dd1 dd2 dd3 dd4 dd5 dd6 dd7 dd8 dd9 dd10 dd11 dd12 dd13 dd14 dd15 dd16 dd17
  have HK2 := Lib.hid (HK.out.new #[.bool false, S [], S [1]] 26)
  obtain ⟨w9, hW⟩ : ∃ W, w8.alloc (.cells #[.bool false, S [], S [1]] 26 (0, 0)) = W := ⟨_, rfl⟩
  rw [hW] at HK2 ⊢
  obtain ⟨Zr, hA⟩ : ∃ A, w8.heap.size = A := ⟨_, rfl⟩
  rw [hA] at HK2 ⊢
  clear hA hW HK
  have HK := HK2
  clear HK2
  have HF5 := Lib.hid (show ∀ W, Kq w W [(Zr, 26, [.bool false, S [], S [1]]), (Cc, 26, [.bool sc, S nc, S dc]), (Bb, 26, [.bool sb, S nb, S db]), (A, 26, [.bool sa, S na, S da]), (B + 1 + 1, 22, [.int .i64 z0, .int .i64 z1, .int .i64 z2]), (B + 1, 22, [.int .i64 y0, .int .i64 y1, .int .i64 y2]), (B, 22, [.int .i64 x0, .int .i64 x1, .int .i64 x2])] → W.cell? ⟨Zr, 0, none⟩ = some (.bool false) ∧ W.cell? ⟨Zr, 1, none⟩ = some (S []) ∧ W.cell? ⟨Zr, 2, none⟩ = some (S [1]) ∧ W.cell? ⟨Cc, 0, none⟩ = some (.bool sc) ∧ W.cell? ⟨Cc, 1, none⟩ = some (S nc) ∧ W.cell? ⟨Cc, 2, none⟩ = some (S dc) ∧ W.cell? ⟨Bb, 0, none⟩ = some (.bool sb) ∧ W.cell? ⟨Bb, 1, none⟩ = some (S nb) ∧ W.cell? ⟨Bb, 2, none⟩ = some (S db) ∧ W.cell? ⟨A, 0, none⟩ = some (.bool sa) ∧ W.cell? ⟨A, 1, none⟩ = some (S na) ∧ W.cell? ⟨A, 2, none⟩ = some (S da) ∧ W.cell? ⟨B + 1 + 1, 0, none⟩ = some (.int .i64 z0) ∧ W.cell? ⟨B + 1 + 1, 1, none⟩ = some (.int .i64 z1) ∧ W.cell? ⟨B + 1 + 1, 2, none⟩ = some (.int .i64 z2) ∧ W.cell? ⟨B + 1, 0, none⟩ = some (.int .i64 y0) ∧ W.cell? ⟨B + 1, 1, none⟩ = some (.int .i64 y1) ∧ W.cell? ⟨B + 1, 2, none⟩ = some (.int .i64 y2) ∧ W.cell? ⟨B, 0, none⟩ = some (.int .i64 x0) ∧ W.cell? ⟨B, 1, none⟩ = some (.int .i64 x1) ∧ W.cell? ⟨B, 2, none⟩ = some (.int .i64 x2) from fun W h => ⟨(h.row _ (.head _)).cell 0, (h.row _ (.head _)).cell 1, (h.row _ (.head _)).cell 2, (h.row _ (.tail _ (.head _))).cell 0, (h.row _ (.tail _ (.head _))).cell 1, (h.row _ (.tail _ (.head _))).cell 2, (h.row _ (.tail _ (.tail _ (.head _)))).cell 0, (h.row _ (.tail _ (.tail _ (.head _)))).cell 1, (h.row _ (.tail _ (.tail _ (.head _)))).cell 2, (h.row _ (.tail _ (.tail _ (.tail _ (.head _))))).cell 0, (h.row _ (.tail _ (.tail _ (.tail _ (.head _))))).cell 1, (h.row _ (.tail _ (.tail _ (.tail _ (.head _))))).cell 2, (h.row _ (.tail _ (.tail _ (.tail _ (.tail _ (.head _)))))).cell 0, (h.row _ (.tail _ (.tail _ (.tail _ (.tail _ (.head _)))))).cell 1, (h.row _ (.tail _ (.tail _ (.tail _ (.tail _ (.head _)))))).cell 2, (h.row _ (.tail _ (.tail _ (.tail _ (.tail _ (.tail _ (.head _))))))).cell 0, (h.row _ (.tail _ (.tail _ (.tail _ (.tail _ (.tail _ (.head _))))))).cell 1, (h.row _ (.tail _ (.tail _ (.tail _ (.tail _ (.tail _ (.head _))))))).cell 2, (h.row _ (.tail _ (.tail _ (.tail _ (.tail _ (.tail _ (.tail _ (.head _)))))))).cell 0, (h.row _ (.tail _ (.tail _ (.tail _ (.tail _ (.tail _ (.tail _ (.head _)))))))).cell 1, (h.row _ (.tail _ (.tail _ (.tail _ (.tail _ (.tail _ (.tail _ (.head _)))))))).cell 2⟩)
  obtain ⟨cc0, cc1, cc2, cc3, cc4, cc5, cc6, cc7, cc8, cc9, cc10, cc11, cc12, cc13, cc14, cc15, cc16, cc17, cc18, cc19, cc20⟩ := HF5.out _ HK.out
  refine (HO.out _).mono ?_
  rintro e w10 ⟨rfl, hC⟩
  have HK2 := Lib.hid (HK.out.on hC)
  clear cc0 cc1 cc2 cc3 cc4 cc5 cc6 cc7 cc8 cc9 cc10 cc11 cc12 cc13 cc14 cc15 cc16 cc17 cc18 cc19 cc20
  clear hC HK
  have HK := HK2
  clear HK2
  obtain ⟨cc0, cc1, cc2, cc3, cc4, cc5, cc6, cc7, cc8, cc9, cc10, cc11, cc12, cc13, cc14, cc15, cc16, cc17, cc18, cc19, cc20⟩ := HF5.out _ HK.out
  have hall := fun o : Obj => HF5.out _ (HK.out.other o)
  have dd0 : ∀ o : Obj, (w10.alloc o).cell? ⟨Zr, 0, none⟩ = some (.bool false) := fun o => (hall o).1
  have dd1 : ∀ o : Obj, (w10.alloc o).cell? ⟨Zr, 1, none⟩ = some (S []) := fun o => (hall o).2.1
  have dd2 : ∀ o : Obj, (w10.alloc o).cell? ⟨Zr, 2, none⟩ = some (S [1]) := fun o => (hall o).2.2.1
  have dd3 : ∀ o : Obj, (w10.alloc o).cell? ⟨Cc, 0, none⟩ = some (.bool sc) := fun o => (hall o).2.2.2.1
  have dd4 : ∀ o : Obj, (w10.alloc o).cell? ⟨Cc, 1, none⟩ = some (S nc) := fun o => (hall o).2.2.2.2.1
  have dd5 : ∀ o : Obj, (w10.alloc o).cell? ⟨Cc, 2, none⟩ = some (S dc) := fun o => (hall o).2.2.2.2.2.1
  have dd6 : ∀ o : Obj, (w10.alloc o).cell? ⟨Bb, 0, none⟩ = some (.bool sb) := fun o => (hall o).2.2.2.2.2.2.1
  have dd7 : ∀ o : Obj, (w10.alloc o).cell? ⟨Bb, 1, none⟩ = some (S nb) := fun o => (hall o).2.2.2.2.2.2.2.1
  have dd8 : ∀ o : Obj, (w10.alloc o).cell? ⟨Bb, 2, none⟩ = some (S db) := fun o => (hall o).2.2.2.2.2.2.2.2.1
  have dd9 : ∀ o : Obj, (w10.alloc o).cell? ⟨A, 0, none⟩ = some (.bool sa) := fun o => (hall o).2.2.2.2.2.2.2.2.2.1
  have dd10 : ∀ o : Obj, (w10.alloc o).cell? ⟨A, 1, none⟩ = some (S na) := fun o => (hall o).2.2.2.2.2.2.2.2.2.2.1
  have dd11 : ∀ o : Obj, (w10.alloc o).cell? ⟨A, 2, none⟩ = some (S da) := fun o => (hall o).2.2.2.2.2.2.2.2.2.2.2.1
  have dd12 : ∀ o : Obj, (w10.alloc o).cell? ⟨B + 1 + 1, 0, none⟩ = some (.int .i64 z0) := fun o => (hall o).2.2.2.2.2.2.2.2.2.2.2.2.1
  have dd13 : ∀ o : Obj, (w10.alloc o).cell? ⟨B + 1 + 1, 1, none⟩ = some (.int .i64 z1) := fun o => (hall o).2.2.2.2.2.2.2.2.2.2.2.2.2.1
  have dd14 : ∀ o : Obj, (w10.alloc o).cell? ⟨B + 1 + 1, 2, none⟩ = some (.int .i64 z2) := fun o => (hall o).2.2.2.2.2.2.2.2.2.2.2.2.2.2.1
  have dd15 : ∀ o : Obj, (w10.alloc o).cell? ⟨B + 1, 0, none⟩ = some (.int .i64 y0) := fun o => (hall o).2.2.2.2.2.2.2.2.2.2.2.2.2.2.2.1
  have dd16 : ∀ o : Obj, (w10.alloc o).cell? ⟨B + 1, 1, none⟩ = some (.int .i64 y1) := fun o => (hall o).2.2.2.2.2.2.2.2.2.2.2.2.2.2.2.2.1
  have dd17 : ∀ o : Obj, (w10.alloc o).cell? ⟨B + 1, 2, none⟩ = some (.int .i64 y2) := fun o => (hall o).2.2.2.2.2.2.2.2.2.2.2.2.2.2.2.2.2.1
  have dd18 : ∀ o : Obj, (w10.alloc o).cell? ⟨B, 0, none⟩ = some (.int .i64 x0) := fun o => (hall o).2.2.2.2.2.2.2.2.2.2.2.2.2.2.2.2.2.2.1
  have dd19 : ∀ o : Obj, (w10.alloc o).cell? ⟨B, 1, none⟩ = some (.int .i64 x1) := fun o => (hall o).2.2.2.2.2.2.2.2.2.2.2.2.2.2.2.2.2.2.2.1
  have dd20 : ∀ o : Obj, (w10.alloc o).cell? ⟨B, 2, none⟩ = some (.int .i64 x2) := fun o => (hall o).2.2.2.2.2.2.2.2.2.2.2.2.2.2.2.2.2.2.2.2
  clear hall
  go_wp2_with fail
  clear cc0 cc1 cc2 cc3 cc4 cc5 cc6 cc7 cc8 cc9 cc10 cc11 cc12 cc13 cc14 cc15 cc16 cc17 cc18 cc19 cc20 dd0 dd1 dd2 dd3 dd4 dd5 dd6 dd7 dd8 dd9 dd10 dd11 dd12 dd13 dd14 dd15 dd16 dd17 dd18 dd19 dd20
  have HK2 := Lib.hid (HK.out.new #[.bool false, S [1], S [1]] 26)
  obtain ⟨w11, hW⟩ : ∃ W, w10.alloc (.cells #[.bool false, S [1], S [1]] 26 (0, 0)) = W := ⟨_, rfl⟩
  rw [hW] at HK2 ⊢
  obtain ⟨On, hA⟩ : ∃ A, w10.heap.size = A := ⟨_, rfl⟩
  rw [hA] at HK2 ⊢
  clear hA hW HK
  have HK := HK2
  clear HK2
  have HF6 := Lib.hid (show ∀ W, Kq w W [(On, 26, [.bool false, S [1], S [1]]), (Zr, 26, [.bool false, S [], S [1]]), (Cc, 26, [.bool sc, S nc, S dc]), (Bb, 26, [.bool sb, S nb, S db]), (A, 26, [.bool sa, S na, S da]), (B + 1 + 1, 22, [.int .i64 z0, .int .i64 z1, .int .i64 z2]), (B + 1, 22, [.int .i64 y0, .int .i64 y1, .int .i64 y2]), (B, 22, [.int .i64 x0, .int .i64 x1, .int .i64 x2])] → W.cell? ⟨On, 0, none⟩ = some (.bool false) ∧ W.cell? ⟨On, 1, none⟩ = some (S [1]) ∧ W.cell? ⟨On, 2, none⟩ = some (S [1]) ∧ W.cell? ⟨Zr, 0, none⟩ = some (.bool false) ∧ W.cell? ⟨Zr, 1, none⟩ = some (S []) ∧ W.cell? ⟨Zr, 2, none⟩ = some (S [1]) ∧ W.cell? ⟨Cc, 0, none⟩ = some (.bool sc) ∧ W.cell? ⟨Cc, 1, none⟩ = some (S nc) ∧ W.cell? ⟨Cc, 2, none⟩ = some (S dc) ∧ W.cell? ⟨Bb, 0, none⟩ = some (.bool sb) ∧ W.cell? ⟨Bb, 1, none⟩ = some (S nb) ∧ W.cell? ⟨Bb, 2, none⟩ = some (S db) ∧ W.cell? ⟨A, 0, none⟩ = some (.bool sa) ∧ W.cell? ⟨A, 1, none⟩ = some (S na) ∧ W.cell? ⟨A, 2, none⟩ = some (S da) ∧ W.cell? ⟨B + 1 + 1, 0, none⟩ = some (.int .i64 z0) ∧ W.cell? ⟨B + 1 + 1, 1, none⟩ = some (.int .i64 z1) ∧ W.cell? ⟨B + 1 + 1, 2, none⟩ = some (.int .i64 z2) ∧ W.cell? ⟨B + 1, 0, none⟩ = some (.int .i64 y0) ∧ W.cell? ⟨B + 1, 1, none⟩ = some (.int .i64 y1) ∧ W.cell? ⟨B + 1, 2, none⟩ = some (.int .i64 y2) ∧ W.cell? ⟨B, 0, none⟩ = some (.int .i64 x0) ∧ W.cell? ⟨B, 1, none⟩ = some (.int .i64 x1) ∧ W.cell? ⟨B, 2, none⟩ = some (.int .i64 x2) from fun W h => ⟨(h.row _ (.head _)).cell 0, (h.row _ (.head _)).cell 1, (h.row _ (.head _)).cell 2, (h.row _ (.tail _ (.head _))).cell 0, (h.row _ (.tail _ (.head _))).cell 1, (h.row _ (.tail _ (.head _))).cell 2, (h.row _ (.tail _ (.tail _ (.head _)))).cell 0, (h.row _ (.tail _ (.tail _ (.head _)))).cell 1, (h.row _ (.tail _ (.tail _ (.head _)))).cell 2, (h.row _ (.tail _ (.tail _ (.tail _ (.head _))))).cell 0, (h.row _ (.tail _ (.tail _ (.tail _ (.head _))))).cell 1, (h.row _ (.tail _ (.tail _ (.tail _ (.head _))))).cell 2, (h.row _ (.tail _ (.tail _ (.tail _ (.tail _ (.head _)))))).cell 0, (h.row _ (.tail _ (.tail _ (.tail _ (.tail _ (.head _)))))).cell 1, (h.row _ (.tail _ (.tail _ (.tail _ (.tail _ (.head _)))))).cell 2, (h.row _ (.tail _ (.tail _ (.tail _ (.tail _ (.tail _ (.head _))))))).cell 0, (h.row _ (.tail _ (.tail _ (.tail _ (.tail _ (.tail _ (.head _))))))).cell 1, (h.row _ (.tail _ (.tail _ (.tail _ (.tail _ (.tail _ (.head _))))))).cell 2, (h.row _ (.tail _ (.tail _ (.tail _ (.tail _ (.tail _ (.tail _ (.head _)))))))).cell 0, (h.row _ (.tail _ (.tail _ (.tail _ (.tail _ (.tail _ (.tail _ (.head _)))))))).cell 1, (h.row _ (.tail _ (.tail _ (.tail _ (.tail _ (.tail _ (.tail _ (.head _)))))))).cell 2, (h.row _ (.tail _ (.tail _ (.tail _ (.tail _ (.tail _ (.tail _ (.tail _ (.head _))))))))).cell 0, (h.row _ (.tail _ (.tail _ (.tail _ (.tail _ (.tail _ (.tail _ (.tail _ (.head _))))))))).cell 1, (h.row _ (.tail _ (.tail _ (.tail _ (.tail _ (.tail _ (.tail _ (.tail _ (.head _))))))))).cell 2⟩)
  obtain ⟨cc0, cc1, cc2, cc3, cc4, cc5, cc6, cc7, cc8, cc9, cc10, cc11, cc12, cc13, cc14, cc15, cc16, cc17, cc18, cc19, cc20, cc21, cc22, cc23⟩ := HF6.out _ HK.out
  clear cc0 cc1 cc2 cc3 cc4 cc5 cc6 cc7 cc8 cc9 cc10 cc11 cc12 cc13 cc14 cc15 cc16 cc17 cc18 cc19 cc20 cc21 cc22 cc23
  have HKD := Lib.hid HK.out.drew
  clear HK
  have HK := HKD
  clear HKD
  go_region_held3 (fun w' => w'.cell? ⟨On, 0, none⟩ = some (.bool false) ∧ w'.cell? ⟨On, 1, none⟩ = some (S [1]) ∧ w'.cell? ⟨On, 2, none⟩ = some (S [1]) ∧ w'.cell? ⟨Zr, 0, none⟩ = some (.bool false) ∧ w'.cell? ⟨Zr, 1, none⟩ = some (S []) ∧ w'.cell? ⟨Zr, 2, none⟩ = some (S [1]) ∧ w'.cell? ⟨Cc, 0, none⟩ = some (.bool sc) ∧ w'.cell? ⟨Cc, 1, none⟩ = some (S nc) ∧ w'.cell? ⟨Cc, 2, none⟩ = some (S dc) ∧ w'.cell? ⟨Bb, 0, none⟩ = some (.bool sb) ∧ w'.cell? ⟨Bb, 1, none⟩ = some (S nb) ∧ w'.cell? ⟨Bb, 2, none⟩ = some (S db) ∧ w'.cell? ⟨A, 0, none⟩ = some (.bool sa) ∧ w'.cell? ⟨A, 1, none⟩ = some (S na) ∧ w'.cell? ⟨A, 2, none⟩ = some (S da) ∧ w'.cell? ⟨B + 1 + 1, 0, none⟩ = some (.int .i64 z0) ∧ w'.cell? ⟨B + 1 + 1, 1, none⟩ = some (.int .i64 z1) ∧ w'.cell? ⟨B + 1 + 1, 2, none⟩ = some (.int .i64 z2) ∧ w'.cell? ⟨B + 1, 0, none⟩ = some (.int .i64 y0) ∧ w'.cell? ⟨B + 1, 1, none⟩ = some (.int .i64 y1) ∧ w'.cell? ⟨B + 1, 2, none⟩ = some (.int .i64 y2) ∧ w'.cell? ⟨B, 0, none⟩ = some (.int .i64 x0) ∧ w'.cell? ⟨B, 1, none⟩ = some (.int .i64 x1) ∧ w'.cell? ⟨B, 2, none⟩ = some (.int .i64 x2))
    (first
      | (with_reducible exact HF6.out _ HK.out)
      | go_keep)
    (first
      | (go_at_call 14; with_reducible refine (G1.out _ (HT.out.ch HK.out.ch)).mono ?_; rintro e wq ⟨rfl, hCq⟩; have HK2 := Lib.hid (HK.out.on hCq); clear hCq HK; have HK := HK2; clear HK2)
      | (go_at_call 14; with_reducible refine (G2.out _ (HT.out.ch HK.out.ch)).mono ?_; rintro e wq ⟨rfl, hCq⟩; have HK2 := Lib.hid (HK.out.on hCq); clear hCq HK; have HK := HK2; clear HK2)
      | (go_at_call 18; with_reducible refine (G3.out _ (HT.out.ch HK.out.ch)).mono ?_; rintro e wq ⟨rfl, hCq⟩; have HK2 := Lib.hid (HK.out.on hCq); clear hCq HK; have HK := HK2; clear HK2)
      | (go_at_call 18; with_reducible refine (G4.out _ (HT.out.ch HK.out.ch)).mono ?_; rintro e wq ⟨rfl, hCq⟩; have HK2 := Lib.hid (HK.out.on hCq); clear hCq HK; have HK := HK2; clear HK2)
      | (go_at_call 14; with_reducible refine (G5.out _ (HT.out.ch HK.out.ch)).mono ?_; rintro e wq ⟨rfl, hCq⟩; have HK2 := Lib.hid (HK.out.on hCq); clear hCq HK; have HK := HK2; clear HK2)
      | (go_at_call 14; with_reducible refine (G6.out _ (HT.out.ch HK.out.ch)).mono ?_; rintro e wq ⟨rfl, hCq⟩; have HK2 := Lib.hid (HK.out.on hCq); clear hCq HK; have HK := HK2; clear HK2)
      | (go_at_call 14; with_reducible refine (G7.out _ (HT.out.ch HK.out.ch)).mono ?_; rintro e wq ⟨rfl, hCq⟩; have HK2 := Lib.hid (HK.out.on hCq); clear hCq HK; have HK := HK2; clear HK2)
      | (go_at_call 18; with_reducible refine (G8.out _ (HT.out.ch HK.out.ch)).mono ?_; rintro e wq ⟨rfl, hCq⟩; have HK2 := Lib.hid (HK.out.on hCq); clear hCq HK; have HK := HK2; clear HK2)
      | (go_at_call 18; with_reducible refine (G9.out _ (HT.out.ch HK.out.ch)).mono ?_; rintro e wq ⟨rfl, hCq⟩; have HK2 := Lib.hid (HK.out.on hCq); clear hCq HK; have HK := HK2; clear HK2)
      | (go_at_call 18; with_reducible refine (G10.out _ (HT.out.ch HK.out.ch)).mono ?_; rintro e wq ⟨rfl, hCq⟩; have HK2 := Lib.hid (HK.out.on hCq); clear hCq HK; have HK := HK2; clear HK2))
  obtain ⟨cc0, cc1, cc2, cc3, cc4, cc5, cc6, cc7, cc8, cc9, cc10, cc11, cc12, cc13, cc14, cc15, cc16, cc17, cc18, cc19, cc20, cc21, cc22, cc23⟩ := HF6.out _ HK.out
  go_wp2_with fail
  clear cc0 cc1 cc2 cc3 cc4 cc5 cc6 cc7 cc8 cc9 cc10 cc11 cc12 cc13 cc14 cc15 cc16 cc17 cc18 cc19 cc20 cc21 cc22 cc23
  have HKD := Lib.hid HK.out.drew
  clear HK
  have HK := HKD
  clear HKD
  go_region_held3 (fun w' => w'.cell? ⟨On, 0, none⟩ = some (.bool false) ∧ w'.cell? ⟨On, 1, none⟩ = some (S [1]) ∧ w'.cell? ⟨On, 2, none⟩ = some (S [1]) ∧ w'.cell? ⟨Zr, 0, none⟩ = some (.bool false) ∧ w'.cell? ⟨Zr, 1, none⟩ = some (S []) ∧ w'.cell? ⟨Zr, 2, none⟩ = some (S [1]) ∧ w'.cell? ⟨Cc, 0, none⟩ = some (.bool sc) ∧ w'.cell? ⟨Cc, 1, none⟩ = some (S nc) ∧ w'.cell? ⟨Cc, 2, none⟩ = some (S dc) ∧ w'.cell? ⟨Bb, 0, none⟩ = some (.bool sb) ∧ w'.cell? ⟨Bb, 1, none⟩ = some (S nb) ∧ w'.cell? ⟨Bb, 2, none⟩ = some (S db) ∧ w'.cell? ⟨A, 0, none⟩ = some (.bool sa) ∧ w'.cell? ⟨A, 1, none⟩ = some (S na) ∧ w'.cell? ⟨A, 2, none⟩ = some (S da) ∧ w'.cell? ⟨B + 1 + 1, 0, none⟩ = some (.int .i64 z0) ∧ w'.cell? ⟨B + 1 + 1, 1, none⟩ = some (.int .i64 z1) ∧ w'.cell? ⟨B + 1 + 1, 2, none⟩ = some (.int .i64 z2) ∧ w'.cell? ⟨B + 1, 0, none⟩ = some (.int .i64 y0) ∧ w'.cell? ⟨B + 1, 1, none⟩ = some (.int .i64 y1) ∧ w'.cell? ⟨B + 1, 2, none⟩ = some (.int .i64 y2) ∧ w'.cell? ⟨B, 0, none⟩ = some (.int .i64 x0) ∧ w'.cell? ⟨B, 1, none⟩ = some (.int .i64 x1) ∧ w'.cell? ⟨B, 2, none⟩ = some (.int .i64 x2))
    (first
      | (with_reducible exact HF6.out _ HK.out)
      | go_keep)
    (first
      | (go_at_call 14; with_reducible refine (G6.out _ (HT.out.ch HK.out.ch)).mono ?_; rintro e wq ⟨rfl, hCq⟩; have HK2 := Lib.hid (HK.out.on hCq); clear hCq HK; have HK := HK2; clear HK2)
      | (go_at_call 18; with_reducible refine (G11.out _ (HT.out.ch HK.out.ch)).mono ?_; rintro e wq ⟨rfl, hCq⟩; have HK2 := Lib.hid (HK.out.on hCq); clear hCq HK; have HK := HK2; clear HK2)
      | (go_at_call 18; with_reducible refine (G3.out _ (HT.out.ch HK.out.ch)).mono ?_; rintro e wq ⟨rfl, hCq⟩; have HK2 := Lib.hid (HK.out.on hCq); clear hCq HK; have HK := HK2; clear HK2)
      | (go_at_call 18; with_reducible refine (G12.out _ (HT.out.ch HK.out.ch)).mono ?_; rintro e wq ⟨rfl, hCq⟩; have HK2 := Lib.hid (HK.out.on hCq); clear hCq HK; have HK := HK2; clear HK2)
      | (go_at_call 14; with_reducible refine (G13.out _ (HT.out.ch HK.out.ch)).mono ?_; rintro e wq ⟨rfl, hCq⟩; have HK2 := Lib.hid (HK.out.on hCq); clear hCq HK; have HK := HK2; clear HK2)
      | (go_at_call 14; with_reducible refine (G14.out _ (HT.out.ch HK.out.ch)).mono ?_; rintro e wq ⟨rfl, hCq⟩; have HK2 := Lib.hid (HK.out.on hCq); clear hCq HK; have HK := HK2; clear HK2)
      | (go_at_call 18; with_reducible refine (G15.out _ (HT.out.ch HK.out.ch)).mono ?_; rintro e wq ⟨rfl, hCq⟩; have HK2 := Lib.hid (HK.out.on hCq); clear hCq HK; have HK := HK2; clear HK2)
      | (go_at_call 24; with_reducible refine (G16.out _ (HT.out.ch HK.out.ch)).mono ?_; rintro e wq ⟨rfl, hCq⟩; have HK2 := Lib.hid (HK.out.on hCq); clear hCq HK; have HK := HK2; clear HK2)
      | (go_at_call 14; with_reducible refine (G17.out _ (HT.out.ch HK.out.ch)).mono ?_; rintro e wq ⟨rfl, hCq⟩; have HK2 := Lib.hid (HK.out.on hCq); clear hCq HK; have HK := HK2; clear HK2))
  obtain ⟨cc0, cc1, cc2, cc3, cc4, cc5, cc6, cc7, cc8, cc9, cc10, cc11, cc12, cc13, cc14, cc15, cc16, cc17, cc18, cc19, cc20, cc21, cc22, cc23⟩ := HF6.out _ HK.out
  go_wp2_with fail
  refine (HQ.out _ (HT.out.ch HK.out.ch)).mono ?_
  rintro e w12 ⟨rfl, hC⟩
  have HK2 := Lib.hid (HK.out.on hC)
  clear cc0 cc1 cc2 cc3 cc4 cc5 cc6 cc7 cc8 cc9 cc10 cc11 cc12 cc13 cc14 cc15 cc16 cc17 cc18 cc19 cc20 cc21 cc22 cc23
  clear hC HK
  have HK := HK2
  clear HK2
  obtain ⟨cc0, cc1, cc2, cc3, cc4, cc5, cc6, cc7, cc8, cc9, cc10, cc11, cc12, cc13, cc14, cc15, cc16, cc17, cc18, cc19, cc20, cc21, cc22, cc23⟩ := HF6.out _ HK.out
  have hall := fun o : Obj => HF6.out _ (HK.out.other o)
  have dd0 : ∀ o : Obj, (w12.alloc o).cell? ⟨On, 0, none⟩ = some (.bool false) := fun o => (hall o).1
  have dd1 : ∀ o : Obj, (w12.alloc o).cell? ⟨On, 1, none⟩ = some (S [1]) := fun o => (hall o).2.1
  have dd2 : ∀ o : Obj, (w12.alloc o).cell? ⟨On, 2, none⟩ = some (S [1]) := fun o => (hall o).2.2.1
  have dd3 : ∀ o : Obj, (w12.alloc o).cell? ⟨Zr, 0, none⟩ = some (.bool false) := fun o => (hall o).2.2.2.1
  have dd4 : ∀ o : Obj, (w12.alloc o).cell? ⟨Zr, 1, none⟩ = some (S []) := fun o => (hall o).2.2.2.2.1
  have dd5 : ∀ o : Obj, (w12.alloc o).cell? ⟨Zr, 2, none⟩ = some (S [1]) := fun o => (hall o).2.2.2.2.2.1
  have dd6 : ∀ o : Obj, (w12.alloc o).cell? ⟨Cc, 0, none⟩ = some (.bool sc) := fun o => (hall o).2.2.2.2.2.2.1
  have dd7 : ∀ o : Obj, (w12.alloc o).cell? ⟨Cc, 1, none⟩ = some (S nc) := fun o => (hall o).2.2.2.2.2.2.2.1
  have dd8 : ∀ o : Obj, (w12.alloc o).cell? ⟨Cc, 2, none⟩ = some (S dc) := fun o => (hall o).2.2.2.2.2.2.2.2.1
  have dd9 : ∀ o : Obj, (w12.alloc o).cell? ⟨Bb, 0, none⟩ = some (.bool sb) := fun o => (hall o).2.2.2.2.2.2.2.2.2.1
  have dd10 : ∀ o : Obj, (w12.alloc o).cell? ⟨Bb, 1, none⟩ = some (S nb) := fun o => (hall o).2.2.2.2.2.2.2.2.2.2.1
  have dd11 : ∀ o : Obj, (w12.alloc o).cell? ⟨Bb, 2, none⟩ = some (S db) := fun o => (hall o).2.2.2.2.2.2.2.2.2.2.2.1
  have dd12 : ∀ o : Obj, (w12.alloc o).cell? ⟨A, 0, none⟩ = some (.bool sa) := fun o => (hall o).2.2.2.2.2.2.2.2.2.2.2.2.1
  have dd13 : ∀ o : Obj, (w12.alloc o).cell? ⟨A, 1, none⟩ = some (S na) := fun o => (hall o).2.2.2.2.2.2.2.2.2.2.2.2.2.1
  have dd14 : ∀ o : Obj, (w12.alloc o).cell? ⟨A, 2, none⟩ = some (S da) := fun o => (hall o).2.2.2.2.2.2.2.2.2.2.2.2.2.2.1
  have dd15 : ∀ o : Obj, (w12.alloc o).cell? ⟨B + 1 + 1, 0, none⟩ = some (.int .i64 z0) := fun o => (hall o).2.2.2.2.2.2.2.2.2.2.2.2.2.2.2.1
  have dd16 : ∀ o : Obj, (w12.alloc o).cell? ⟨B + 1 + 1, 1, none⟩ = some (.int .i64 z1) := fun o => (hall o).2.2.2.2.2.2.2.2.2.2.2.2.2.2.2.2.1
  have dd17 : ∀ o : Obj, (w12.alloc o).cell? ⟨B + 1 + 1, 2, none⟩ = some (.int .i64 z2) := fun o => (hall o).2.2.2.2.2.2.2.2.2.2.2.2.2.2.2.2.2.1
  have dd18 : ∀ o : Obj, (w12.alloc o).cell? ⟨B + 1, 0, none⟩ = some (.int .i64 y0) := fun o => (hall o).2.2.2.2.2.2.2.2.2.2.2.2.2.2.2.2.2.2.1
  have dd19 : ∀ o : Obj, (w12.alloc o).cell? ⟨B + 1, 1, none⟩ = some (.int .i64 y1) := fun o => (hall o).2.2.2.2.2.2.2.2.2.2.2.2.2.2.2.2.2.2.2.1
  have dd20 : ∀ o : Obj, (w12.alloc o).cell? ⟨B + 1, 2, none⟩ = some (.int .i64 y2) := fun o => (hall o).2.2.2.2.2.2.2.2.2.2.2.2.2.2.2.2.2.2.2.2.1
  have dd21 : ∀ o : Obj, (w12.alloc o).cell? ⟨B, 0, none⟩ = some (.int .i64 x0) := fun o => (hall o).2.2.2.2.2.2.2.2.2.2.2.2.2.2.2.2.2.2.2.2.2.1
  have dd22 : ∀ o : Obj, (w12.alloc o).cell? ⟨B, 1, none⟩ = some (.int .i64 x1) := fun o => (hall o).2.2.2.2.2.2.2.2.2.2.2.2.2.2.2.2.2.2.2.2.2.2.1
  have dd23 : ∀ o : Obj, (w12.alloc o).cell? ⟨B, 2, none⟩ = some (.int .i64 x2) := fun o => (hall o).2.2.2.2.2.2.2.2.2.2.2.2.2.2.2.2.2.2.2.2.2.2.2
  clear hall
  go_wp2_with fail
  clear cc0 cc1 cc2 cc3 cc4 cc5 cc6 cc7 cc8 cc9 cc10 cc11 cc12 cc13 cc14 cc15 cc16 cc17 cc18 cc19 cc20 cc21 cc22 cc23 dd0 dd1 dd2 dd3 dd4 dd5 dd6 dd7 dd8 dd9 dd10 dd11 dd12 dd13 dd14 dd15 dd16 dd17 dd18 dd19 dd20 dd21 dd22 dd23
  have HK2 := Lib.hid (HK.out.new #[.bool sq, S nq, S dq] 26)
  obtain ⟨w13, hW⟩ : ∃ W, w12.alloc (.cells #[.bool sq, S nq, S dq] 26 (0, 0)) = W := ⟨_, rfl⟩
  rw [hW] at HK2 ⊢
  obtain ⟨Qv, hA⟩ : ∃ A, w12.heap.size = A := ⟨_, rfl⟩
  rw [hA] at HK2 ⊢
  clear hA hW HK
  have HK := HK2
  clear HK2
  have HF7 := Lib.hid (show ∀ W, Kq w W [(Qv, 26, [.bool sq, S nq, S dq]), (On, 26, [.bool false, S [1], S [1]]), (Zr, 26, [.bool false, S [], S [1]]), (Cc, 26, [.bool sc, S nc, S dc]), (Bb, 26, [.bool sb, S nb, S db]), (A, 26, [.bool sa, S na, S da]), (B + 1 + 1, 22, [.int .i64 z0, .int .i64 z1, .int .i64 z2]), (B + 1, 22, [.int .i64 y0, .int .i64 y1, .int .i64 y2]), (B, 22, [.int .i64 x0, .int .i64 x1, .int .i64 x2])] → W.cell? ⟨Qv, 0, none⟩ = some (.bool sq) ∧ W.cell? ⟨Qv, 1, none⟩ = some (S nq) ∧ W.cell? ⟨Qv, 2, none⟩ = some (S dq) ∧ W.cell? ⟨On, 0, none⟩ = some (.bool false) ∧ W.cell? ⟨On, 1, none⟩ = some (S [1]) ∧ W.cell? ⟨On, 2, none⟩ = some (S [1]) ∧ W.cell? ⟨Zr, 0, none⟩ = some (.bool false) ∧ W.cell? ⟨Zr, 1, none⟩ = some (S []) ∧ W.cell? ⟨Zr, 2, none⟩ = some (S [1]) ∧ W.cell? ⟨Cc, 0, none⟩ = some (.bool sc) ∧ W.cell? ⟨Cc, 1, none⟩ = some (S nc) ∧ W.cell? ⟨Cc, 2, none⟩ = some (S dc) ∧ W.cell? ⟨Bb, 0, none⟩ = some (.bool sb) ∧ W.cell? ⟨Bb, 1, none⟩ = some (S nb) ∧ W.cell? ⟨Bb, 2, none⟩ = some (S db) ∧ W.cell? ⟨A, 0, none⟩ = some (.bool sa) ∧ W.cell? ⟨A, 1, none⟩ = some (S na) ∧ W.cell? ⟨A, 2, none⟩ = some (S da) ∧ W.cell? ⟨B + 1 + 1, 0, none⟩ = some (.int .i64 z0) ∧ W.cell? ⟨B + 1 + 1, 1, none⟩ = some (.int .i64 z1) ∧ W.cell? ⟨B + 1 + 1, 2, none⟩ = some (.int .i64 z2) ∧ W.cell? ⟨B + 1, 0, none⟩ = some (.int .i64 y0) ∧ W.cell? ⟨B + 1, 1, none⟩ = some (.int .i64 y1) ∧ W.cell? ⟨B + 1, 2, none⟩ = some (.int .i64 y2) ∧ W.cell? ⟨B, 0, none⟩ = some (.int .i64 x0) ∧ W.cell? ⟨B, 1, none⟩ = some (.int .i64 x1) ∧ W.cell? ⟨B, 2, none⟩ = some (.int .i64 x2) from fun W h => ⟨(h.row _ (.head _)).cell 0, (h.row _ (.head _)).cell 1, (h.row _ (.head _)).cell 2, (h.row _ (.tail _ (.head _))).cell 0, (h.row _ (.tail _ (.head _))).cell 1, (h.row _ (.tail _ (.head _))).cell 2, (h.row _ (.tail _ (.tail _ (.head _)))).cell 0, (h.row _ (.tail _ (.tail _ (.head _)))).cell 1, (h.row _ (.tail _ (.tail _ (.head _)))).cell 2, (h.row _ (.tail _ (.tail _ (.tail _ (.head _))))).cell 0, (h.row _ (.tail _ (.tail _ (.tail _ (.head _))))).cell 1, (h.row _ (.tail _ (.tail _ (.tail _ (.head _))))).cell 2, (h.row _ (.tail _ (.tail _ (.tail _ (.tail _ (.head _)))))).cell 0, (h.row _ (.tail _ (.tail _ (.tail _ (.tail _ (.head _)))))).cell 1, (h.row _ (.tail _ (.tail _ (.tail _ (.tail _ (.head _)))))).cell 2, (h.row _ (.tail _ (.tail _ (.tail _ (.tail _ (.tail _ (.head _))))))).cell 0, (h.row _ (.tail _ (.tail _ (.tail _ (.tail _ (.tail _ (.head _))))))).cell 1, (h.row _ (.tail _ (.tail _ (.tail _ (.tail _ (.tail _ (.head _))))))).cell 2, (h.row _ (.tail _ (.tail _ (.tail _ (.tail _ (.tail _ (.tail _ (.head _)))))))).cell 0, (h.row _ (.tail _ (.tail _ (.tail _ (.tail _ (.tail _ (.tail _ (.head _)))))))).cell 1, (h.row _ (.tail _ (.tail _ (.tail _ (.tail _ (.tail _ (.tail _ (.head _)))))))).cell 2, (h.row _ (.tail _ (.tail _ (.tail _ (.tail _ (.tail _ (.tail _ (.tail _ (.head _))))))))).cell 0, (h.row _ (.tail _ (.tail _ (.tail _ (.tail _ (.tail _ (.tail _ (.tail _ (.head _))))))))).cell 1, (h.row _ (.tail _ (.tail _ (.tail _ (.tail _ (.tail _ (.tail _ (.tail _ (.head _))))))))).cell 2, (h.row _ (.tail _ (.tail _ (.tail _ (.tail _ (.tail _ (.tail _ (.tail _ (.tail _ (.head _)))))))))).cell 0, (h.row _ (.tail _ (.tail _ (.tail _ (.tail _ (.tail _ (.tail _ (.tail _ (.tail _ (.head _)))))))))).cell 1, (h.row _ (.tail _ (.tail _ (.tail _ (.tail _ (.tail _ (.tail _ (.tail _ (.tail _ (.head _)))))))))).cell 2⟩)
  obtain ⟨cc0, cc1, cc2, cc3, cc4, cc5, cc6, cc7, cc8, cc9, cc10, cc11, cc12, cc13, cc14, cc15, cc16, cc17, cc18, cc19, cc20, cc21, cc22, cc23, cc24, cc25, cc26⟩ := HF7.out _ HK.out
  clear cc0 cc1 cc2 cc3 cc4 cc5 cc6 cc7 cc8 cc9 cc10 cc11 cc12 cc13 cc14 cc15 cc16 cc17 cc18 cc19 cc20 cc21 cc22 cc23 cc24 cc25 cc26
  have HKD := Lib.hid HK.out.drew
  clear HK
  have HK := HKD
  clear HKD
  go_region_held3 (fun w' => w'.cell? ⟨Qv, 0, none⟩ = some (.bool sq) ∧ w'.cell? ⟨Qv, 1, none⟩ = some (S nq) ∧ w'.cell? ⟨Qv, 2, none⟩ = some (S dq) ∧ w'.cell? ⟨On, 0, none⟩ = some (.bool false) ∧ w'.cell? ⟨On, 1, none⟩ = some (S [1]) ∧ w'.cell? ⟨On, 2, none⟩ = some (S [1]) ∧ w'.cell? ⟨Zr, 0, none⟩ = some (.bool false) ∧ w'.cell? ⟨Zr, 1, none⟩ = some (S []) ∧ w'.cell? ⟨Zr, 2, none⟩ = some (S [1]) ∧ w'.cell? ⟨Cc, 0, none⟩ = some (.bool sc) ∧ w'.cell? ⟨Cc, 1, none⟩ = some (S nc) ∧ w'.cell? ⟨Cc, 2, none⟩ = some (S dc) ∧ w'.cell? ⟨Bb, 0, none⟩ = some (.bool sb) ∧ w'.cell? ⟨Bb, 1, none⟩ = some (S nb) ∧ w'.cell? ⟨Bb, 2, none⟩ = some (S db) ∧ w'.cell? ⟨A, 0, none⟩ = some (.bool sa) ∧ w'.cell? ⟨A, 1, none⟩ = some (S na) ∧ w'.cell? ⟨A, 2, none⟩ = some (S da) ∧ w'.cell? ⟨B + 1 + 1, 0, none⟩ = some (.int .i64 z0) ∧ w'.cell? ⟨B + 1 + 1, 1, none⟩ = some (.int .i64 z1) ∧ w'.cell? ⟨B + 1 + 1, 2, none⟩ = some (.int .i64 z2) ∧ w'.cell? ⟨B + 1, 0, none⟩ = some (.int .i64 y0) ∧ w'.cell? ⟨B + 1, 1, none⟩ = some (.int .i64 y1) ∧ w'.cell? ⟨B + 1, 2, none⟩ = some (.int .i64 y2) ∧ w'.cell? ⟨B, 0, none⟩ = some (.int .i64 x0) ∧ w'.cell? ⟨B, 1, none⟩ = some (.int .i64 x1) ∧ w'.cell? ⟨B, 2, none⟩ = some (.int .i64 x2))
    (first
      | (with_reducible exact HF7.out _ HK.out)
      | go_keep)
    (first
      | (go_at_call 18; with_reducible refine (HM.out _ (HT.out.ch HK.out.ch)).mono ?_; rintro e wq ⟨rfl, hCq⟩; have HK2 := Lib.hid (HK.out.on hCq); clear hCq HK; have HK := HK2; clear HK2))
  obtain ⟨cc0, cc1, cc2, cc3, cc4, cc5, cc6, cc7, cc8, cc9, cc10, cc11, cc12, cc13, cc14, cc15, cc16, cc17, cc18, cc19, cc20, cc21, cc22, cc23, cc24, cc25, cc26⟩ := HF7.out _ HK.out
  go_wp2_with fail
  clear cc0 cc1 cc2 cc3 cc4 cc5 cc6 cc7 cc8 cc9 cc10 cc11 cc12 cc13 cc14 cc15 cc16 cc17 cc18 cc19 cc20 cc21 cc22 cc23 cc24 cc25 cc26
  have HKD := Lib.hid HK.out.drew
  clear HK
  have HK := HKD
  clear HKD
  go_region_held3 (fun w' => w'.cell? ⟨Qv, 0, none⟩ = some (.bool sq) ∧ w'.cell? ⟨Qv, 1, none⟩ = some (S nq) ∧ w'.cell? ⟨Qv, 2, none⟩ = some (S dq) ∧ w'.cell? ⟨On, 0, none⟩ = some (.bool false) ∧ w'.cell? ⟨On, 1, none⟩ = some (S [1]) ∧ w'.cell? ⟨On, 2, none⟩ = some (S [1]) ∧ w'.cell? ⟨Zr, 0, none⟩ = some (.bool false) ∧ w'.cell? ⟨Zr, 1, none⟩ = some (S []) ∧ w'.cell? ⟨Zr, 2, none⟩ = some (S [1]) ∧ w'.cell? ⟨Cc, 0, none⟩ = some (.bool sc) ∧ w'.cell? ⟨Cc, 1, none⟩ = some (S nc) ∧ w'.cell? ⟨Cc, 2, none⟩ = some (S dc) ∧ w'.cell? ⟨Bb, 0, none⟩ = some (.bool sb) ∧ w'.cell? ⟨Bb, 1, none⟩ = some (S nb) ∧ w'.cell? ⟨Bb, 2, none⟩ = some (S db) ∧ w'.cell? ⟨A, 0, none⟩ = some (.bool sa) ∧ w'.cell? ⟨A, 1, none⟩ = some (S na) ∧ w'.cell? ⟨A, 2, none⟩ = some (S da) ∧ w'.cell? ⟨B + 1 + 1, 0, none⟩ = some (.int .i64 z0) ∧ w'.cell? ⟨B + 1 + 1, 1, none⟩ = some (.int .i64 z1) ∧ w'.cell? ⟨B + 1 + 1, 2, none⟩ = some (.int .i64 z2) ∧ w'.cell? ⟨B + 1, 0, none⟩ = some (.int .i64 y0) ∧ w'.cell? ⟨B + 1, 1, none⟩ = some (.int .i64 y1) ∧ w'.cell? ⟨B + 1, 2, none⟩ = some (.int .i64 y2) ∧ w'.cell? ⟨B, 0, none⟩ = some (.int .i64 x0) ∧ w'.cell? ⟨B, 1, none⟩ = some (.int .i64 x1) ∧ w'.cell? ⟨B, 2, none⟩ = some (.int .i64 x2))
    (first
      | (with_reducible exact HF7.out _ HK.out)
      | (with_reducible exact HF7.out _ HK.out.tail)
      | (with_reducible exact HF7.out _ (HK.out.other _))
      | (with_reducible exact HF7.out _ (HK.out.tail.other _))
      | go_keep)
    (first
      | (go_at_call 16; with_reducible refine (G18.out _ (HT.out.ch HK.out.ch)).mono ?_; rintro e wq ⟨rfl, hCq⟩; have HK2 := Lib.hid (HK.out.on hCq); clear hCq HK; have HK := HK2; clear HK2)
      | (go_at_call 16; with_reducible refine (G18.out _ (HT.out.ch (HK.out.new #[.bool sa, S na, S da, .bool sb, S nb, S db, .bool sc, S nc, S dc] 26).ch)).mono ?_; rintro e wq ⟨rfl, hCq⟩; have HK2 := Lib.hid ((HK.out.new #[.bool sa, S na, S da, .bool sb, S nb, S db, .bool sc, S nc, S dc] 26).on hCq); clear hCq HK; have HK := HK2; clear HK2)
      | (go_at_call 24; with_reducible refine (G19.out _ (HT.out.ch HK.out.ch)).mono ?_; rintro e wq ⟨rfl, hCq⟩; have HK2 := Lib.hid (HK.out.on hCq); clear hCq HK; have HK := HK2; clear HK2)
      | (go_at_call 24; with_reducible refine (G19.out _ (HT.out.ch (HK.out.new #[.bool sa, S na, S da, .bool sb, S nb, S db, .bool sc, S nc, S dc] 26).ch)).mono ?_; rintro e wq ⟨rfl, hCq⟩; have HK2 := Lib.hid ((HK.out.new #[.bool sa, S na, S da, .bool sb, S nb, S db, .bool sc, S nc, S dc] 26).on hCq); clear hCq HK; have HK := HK2; clear HK2)
      | (go_at_call 14; with_reducible refine (G20.out _ (HT.out.ch HK.out.ch)).mono ?_; rintro e wq ⟨rfl, hCq⟩; have HK2 := Lib.hid (HK.out.on hCq); clear hCq HK; have HK := HK2; clear HK2)
      | (go_at_call 14; with_reducible refine (G20.out _ (HT.out.ch (HK.out.new #[.bool sa, S na, S da, .bool sb, S nb, S db, .bool sc, S nc, S dc] 26).ch)).mono ?_; rintro e wq ⟨rfl, hCq⟩; have HK2 := Lib.hid ((HK.out.new #[.bool sa, S na, S da, .bool sb, S nb, S db, .bool sc, S nc, S dc] 26).on hCq); clear hCq HK; have HK := HK2; clear HK2)
      | (go_at_call 14; with_reducible refine (G1.out _ (HT.out.ch HK.out.ch)).mono ?_; rintro e wq ⟨rfl, hCq⟩; have HK2 := Lib.hid (HK.out.on hCq); clear hCq HK; have HK := HK2; clear HK2)
      | (go_at_call 14; with_reducible refine (G1.out _ (HT.out.ch (HK.out.new #[.bool sa, S na, S da, .bool sb, S nb, S db, .bool sc, S nc, S dc] 26).ch)).mono ?_; rintro e wq ⟨rfl, hCq⟩; have HK2 := Lib.hid ((HK.out.new #[.bool sa, S na, S da, .bool sb, S nb, S db, .bool sc, S nc, S dc] 26).on hCq); clear hCq HK; have HK := HK2; clear HK2)
      | (go_at_call 14; with_reducible refine (G5.out _ (HT.out.ch HK.out.ch)).mono ?_; rintro e wq ⟨rfl, hCq⟩; have HK2 := Lib.hid (HK.out.on hCq); clear hCq HK; have HK := HK2; clear HK2)
      | (go_at_call 14; with_reducible refine (G5.out _ (HT.out.ch (HK.out.new #[.bool sa, S na, S da, .bool sb, S nb, S db, .bool sc, S nc, S dc] 26).ch)).mono ?_; rintro e wq ⟨rfl, hCq⟩; have HK2 := Lib.hid ((HK.out.new #[.bool sa, S na, S da, .bool sb, S nb, S db, .bool sc, S nc, S dc] 26).on hCq); clear hCq HK; have HK := HK2; clear HK2)
      | (go_at_call 30; with_reducible refine (HS.out _ _ _ (HK.out.new #[.bool sa, S na, S da, .bool sb, S nb, S db, .bool sc, S nc, S dc] 26)).mono ?_; rintro e wq ⟨rfl, hCq⟩; have HK2 := Lib.hid ((HK.out.new #[.bool sa, S na, S da, .bool sb, S nb, S db, .bool sc, S nc, S dc] 26).on hCq); clear hCq HK; have HK := HK2; clear HK2)
      | (go_at_call 30; with_reducible refine (HS.out _ _ _ HK.out).mono ?_; rintro e wq ⟨rfl, hCq⟩; have HK2 := Lib.hid (HK.out.on hCq); clear hCq HK; have HK := HK2; clear HK2))
  go_wp2_with fail
  go_ret
  exact ⟨rfl, HK.out.ch⟩
set_option maxRecDepth 100000 in
set_option maxHeartbeats 3200000 in
theorem field_core (x0 x1 x2 y0 y1 y2 z0 z1 z2 : Int) (w : World) (hx0 : i64r x0) (hx1 : i64r x1) (hx2 : i64r x2) (hy0 : i64r y0) (hy1 : i64r y1) (hy2 : i64r y2) (hz0 : i64r z0) (hz1 : i64r z1) (hz2 : i64r z2) (ht : Tb w) :
    Calls Tryz.prog 6 #[.agg #[.int .i64 x0, .int .i64 x1, .int .i64 x2], .agg #[.int .i64 y0, .int .i64 y1, .int .i64 y2], .agg #[.int .i64 z0, .int .i64 z1, .int .i64 z2]] w (Yld w (.bool true)) := by
  have hma := fun W => made_any x0 x1 x2 W hx0 hx1 hx2
  obtain ⟨la1, la2⟩ := mdq_len x0 x1 x2
  have ra := rof_pt (mdq x0 x1 x2)
  have za := mdq_size x0 x1 x2
  obtain ⟨qa, hqa⟩ : ∃ q, mdq x0 x1 x2 = q := ⟨_, rfl⟩
  rw [hqa] at hma la1 la2 ra za
  have ia := pt_is qa
  obtain ⟨⟨sa, na, da⟩, hpa⟩ : ∃ t, pt qa = t := ⟨_, rfl⟩
  rw [hpa] at hma la1 la2 ra ia
  have ra' : ratOf sa na da = qa := ra
  simp only at la1 la2 ia
  have hmb := fun W => made_any y0 y1 y2 W hy0 hy1 hy2
  obtain ⟨lb1, lb2⟩ := mdq_len y0 y1 y2
  have rb := rof_pt (mdq y0 y1 y2)
  have zb := mdq_size y0 y1 y2
  obtain ⟨qb, hqb⟩ : ∃ q, mdq y0 y1 y2 = q := ⟨_, rfl⟩
  rw [hqb] at hmb lb1 lb2 rb zb
  have ib := pt_is qb
  obtain ⟨⟨sb, nb, db⟩, hpb⟩ : ∃ t, pt qb = t := ⟨_, rfl⟩
  rw [hpb] at hmb lb1 lb2 rb ib
  have rb' : ratOf sb nb db = qb := rb
  simp only at lb1 lb2 ib
  have hmc := fun W => made_any z0 z1 z2 W hz0 hz1 hz2
  obtain ⟨lc1, lc2⟩ := mdq_len z0 z1 z2
  have rc := rof_pt (mdq z0 z1 z2)
  have zc := mdq_size z0 z1 z2
  obtain ⟨qc, hqc⟩ : ∃ q, mdq z0 z1 z2 = q := ⟨_, rfl⟩
  rw [hqc] at hmc lc1 lc2 rc zc
  have ic := pt_is qc
  obtain ⟨⟨sc, nc, dc⟩, hpc⟩ : ∃ t, pt qc = t := ⟨_, rfl⟩
  rw [hpc] at hmc lc1 lc2 rc ic
  have rc' : ratOf sc nc dc = qc := rc
  simp only at lc1 lc2 ic
  have ip := pt_is (qa + qb)
  obtain ⟨⟨sp, np, dp⟩, hpp⟩ : ∃ t, pt (qa + qb) = t := ⟨_, rfl⟩
  rw [hpp] at ip
  simp only at ip
  have rp' : ratOf sp np dp = qa + qb := ratOf_is ip
  obtain ⟨lp1, lp2⟩ := (za.add zb : Szq (qa + qb) _).len ip
  have iu := pt_is (qb + qc)
  obtain ⟨⟨su, nu, du⟩, hpu⟩ : ∃ t, pt (qb + qc) = t := ⟨_, rfl⟩
  rw [hpu] at iu
  simp only at iu
  have ru' : ratOf su nu du = qb + qc := ratOf_is iu
  obtain ⟨lu1, lu2⟩ := (zb.add zc : Szq (qb + qc) _).len iu
  have it := pt_is (qa + qb + qc)
  obtain ⟨⟨st, nt, dt⟩, hpt⟩ : ∃ t, pt (qa + qb + qc) = t := ⟨_, rfl⟩
  rw [hpt] at it
  simp only at it
  have rt' : ratOf st nt dt = qa + qb + qc := ratOf_is it
  obtain ⟨lt1, lt2⟩ := ((za.add zb).add zc : Szq (qa + qb + qc) _).len it
  have im := pt_is (qa * qb)
  obtain ⟨⟨sm, nm, dm⟩, hpm⟩ : ∃ t, pt (qa * qb) = t := ⟨_, rfl⟩
  rw [hpm] at im
  simp only at im
  have rm' : ratOf sm nm dm = qa * qb := ratOf_is im
  obtain ⟨lm1, lm2⟩ := (za.mul zb : Szq (qa * qb) _).len im
  have iv := pt_is (qb * qc)
  obtain ⟨⟨sv, nv, dv⟩, hpv⟩ : ∃ t, pt (qb * qc) = t := ⟨_, rfl⟩
  rw [hpv] at iv
  simp only at iv
  have rv' : ratOf sv nv dv = qb * qc := ratOf_is iv
  obtain ⟨lv1, lv2⟩ := (zb.mul zc : Szq (qb * qc) _).len iv
  have ik := pt_is (qa * qb * qc)
  obtain ⟨⟨sk, nk, dk⟩, hpk⟩ : ∃ t, pt (qa * qb * qc) = t := ⟨_, rfl⟩
  rw [hpk] at ik
  simp only at ik
  have rk' : ratOf sk nk dk = qa * qb * qc := ratOf_is ik
  obtain ⟨lk1, lk2⟩ := ((za.mul zb).mul zc : Szq (qa * qb * qc) _).len ik
  have ig := pt_is (qa * qc)
  obtain ⟨⟨sg, ng, dg⟩, hpg⟩ : ∃ t, pt (qa * qc) = t := ⟨_, rfl⟩
  rw [hpg] at ig
  simp only at ig
  have rg' : ratOf sg ng dg = qa * qc := ratOf_is ig
  obtain ⟨lg1, lg2⟩ := (za.mul zc : Szq (qa * qc) _).len ig
  have ie := pt_is (qa * (qb + qc))
  obtain ⟨⟨se, ne, de⟩, hpe⟩ : ∃ t, pt (qa * (qb + qc)) = t := ⟨_, rfl⟩
  rw [hpe] at ie
  simp only at ie
  have re' : ratOf se ne de = qa * (qb + qc) := ratOf_is ie
  obtain ⟨le1, le2⟩ := (za.mul (zb.add zc) : Szq (qa * (qb + qc)) _).len ie
  have ih := pt_is (-qa)
  obtain ⟨⟨sh, nh, dh⟩, hph⟩ : ∃ t, pt (-qa) = t := ⟨_, rfl⟩
  rw [hph] at ih
  simp only at ih
  have rh' : ratOf sh nh dh = -qa := ratOf_is ih
  obtain ⟨lh1, lh2⟩ := (za.neg : Szq (-qa) _).len ih
  have ij := pt_is (-qb)
  obtain ⟨⟨sj, nj, dj⟩, hpj⟩ : ∃ t, pt (-qb) = t := ⟨_, rfl⟩
  rw [hpj] at ij
  simp only at ij
  have rj' : ratOf sj nj dj = -qb := ratOf_is ij
  obtain ⟨lj1, lj2⟩ := (zb.neg : Szq (-qb) _).len ij
  have ioo := pt_is (qa - qb)
  obtain ⟨⟨soo, noo, doo⟩, hpoo⟩ : ∃ t, pt (qa - qb) = t := ⟨_, rfl⟩
  rw [hpoo] at ioo
  simp only at ioo
  have roo' : ratOf soo noo doo = qa - qb := ratOf_is ioo
  obtain ⟨loo1, loo2⟩ := (za.sub zb : Szq (qa - qb) _).len ioo
  have rz' : ratOf false [] [1] = 0 := ratOf_is Is.zero
  have rO' : ratOf false [1] [1] = 1 := ratOf_is one_is
  have G1 := Lib.hid (C_Add (by omega) (by omega) (by omega) (by omega) ra' rb' ip)
  have G2 := Lib.hid (C_Add (by omega) (by omega) (by omega) (by omega) rb' ra' (by rw [Rat.add_comm]; exact ip))
  have G3 := Lib.hid (C_Mul (by omega) (by omega) (by omega) (by omega) ra' rb' im)
  have G4 := Lib.hid (C_Mul (by omega) (by omega) (by omega) (by omega) rb' ra' (by rw [Rat.mul_comm]; exact im))
  have G5 := Lib.hid (C_Add (by omega) (by omega) (by omega) (by omega) rp' rc' it)
  have G6 := Lib.hid (C_Add (by omega) (by omega) (by omega) (by omega) rb' rc' iu)
  have G7 := Lib.hid (C_Add (by omega) (by omega) (by omega) (by omega) ra' ru' (by rw [← Rat.add_assoc]; exact it))
  have G8 := Lib.hid (C_Mul (by omega) (by omega) (by omega) (by omega) rm' rc' ik)
  have G9 := Lib.hid (C_Mul (by omega) (by omega) (by omega) (by omega) rb' rc' iv)
  have G10 := Lib.hid (C_Mul (by omega) (by omega) (by omega) (by omega) ra' rv' (by rw [← Rat.mul_assoc]; exact ik))
  have G11 := Lib.hid (C_Mul (by omega) (by omega) (by omega) (by omega) ra' ru' ie)
  have G12 := Lib.hid (C_Mul (by omega) (by omega) (by omega) (by omega) ra' rc' ig)
  have G13 := Lib.hid (C_Add (by omega) (by omega) (by omega) (by omega) rm' rg' (by rw [← Rat.mul_add]; exact ie))
  have G14 := Lib.hid (C_Add (by omega) (by omega) (by decide) (by decide) ra' rz' (by rw [Rat.add_zero]; exact ia))
  have G15 := Lib.hid (C_Mul (by omega) (by omega) (by decide) (by decide) ra' rO' (by rw [Rat.mul_one]; exact ia))
  have G16 := Lib.hid (C_Neg (by omega) (by omega) ra' ih)
  have G17 := Lib.hid (C_Add (by omega) (by omega) (by omega) (by omega) ra' rh' (by rw [← Rat.sub_eq_add_neg, Rat.sub_self]; exact Is.zero))
  have G18 := Lib.hid (C_Sub (by omega) (by omega) (by omega) (by omega) ra' rb' ioo)
  have G19 := Lib.hid (C_Neg (by omega) (by omega) rb' ij)
  have G20 := Lib.hid (C_Add (by omega) (by omega) (by omega) (by omega) ra' rj' (by rw [← Rat.sub_eq_add_neg]; exact ioo))
  have HS := field_sum (w := w) ra rb rc (by omega) (by omega) (by omega) (by omega) (by omega) (by omega) hpt ht
  rcases field_quo (s := sa) (n := na) (d := da) (t := sb) (m := nb) (e := db) za zb (by omega) (by omega) (by omega) (by omega) ra' rb' ia ib with ⟨e1, e2, e3, hQ⟩ | ⟨sq, nq, dq, hnb, hQ, hM⟩
  · subst e1; subst e2; subst e3
    exact field_walk0 (w := w) (ht := ht) (hHQ := hQ) (hH0 := sanity_true) (hH1 := hma) (hH2 := hmb) (hH3 := hmc) (hHZ := C_zero_of) (hHO := C_one_of) (hG1 := G1.out) (hG2 := G2.out) (hG3 := G3.out) (hG4 := G4.out) (hG5 := G5.out) (hG6 := G6.out) (hG7 := G7.out) (hG8 := G8.out) (hG9 := G9.out) (hG10 := G10.out) (hG11 := G11.out) (hG12 := G12.out) (hG13 := G13.out) (hG14 := G14.out) (hG15 := G15.out) (hG16 := G16.out) (hG17 := G17.out) (hG18 := G18.out) (hG19 := G19.out) (hG20 := G20.out) (hHS := HS)
  · exact field_walk1 (w := w) (ht := ht) (hnb := hnb) (hHQ := hQ) (hHM := hM) (hH0 := sanity_true) (hH1 := hma) (hH2 := hmb) (hH3 := hmc) (hHZ := C_zero_of) (hHO := C_one_of) (hG1 := G1.out) (hG2 := G2.out) (hG3 := G3.out) (hG4 := G4.out) (hG5 := G5.out) (hG6 := G6.out) (hG7 := G7.out) (hG8 := G8.out) (hG9 := G9.out) (hG10 := G10.out) (hG11 := G11.out) (hG12 := G12.out) (hG13 := G13.out) (hG14 := G14.out) (hG15 := G15.out) (hG16 := G16.out) (hG17 := G17.out) (hG18 := G18.out) (hG19 := G19.out) (hG20 := G20.out) (hHS := HS)
end Go.Proofs.YtninbglhomdmjaaGreatDoor
