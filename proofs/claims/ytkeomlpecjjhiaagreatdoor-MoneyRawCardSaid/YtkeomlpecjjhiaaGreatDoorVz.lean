/- MoneyRaw: cut, and the walk. -/
import Derived.Test.YtkeomlpecjjhiaaGreatDoorVy
import Derived.Test.YtkeomlpecjjhiaaGreatDoorWe
namespace Go.Proofs.YtkeomlpecjjhiaaGreatDoor
open Go.RowKit Go.Shelf
set_option maxRecDepth 100000
theorem cut60 (l : List UInt8) : (ByteArray.mk l.toArray).extract 0 (min (l.length : Int) 60).toNat = ByteArray.mk (l.take 60).toArray := by
 apply ByteArray.ext
 rw [ByteArray.data_extract]
 apply Array.toList_inj.1
 simp
 omega
structure Rr (w : World) (p : Option Addr) (n : Nat) (l : List T3) : Prop where
 len : l.length = n
 rd : 0 < n → ∃ g o, p = some ⟨g, o, none⟩ ∧ g < w.heap.size ∧ ∀ i t, l[i]? = some t → w.cell? ⟨g, o + i * 3, none⟩ = some (.bool t.1) ∧ w.cell? ⟨g, o + i * 3 + 1, none⟩ = some (S t.2.1) ∧ w.cell? ⟨g, o + i * 3 + 2, none⟩ = some (S t.2.2)
def ct (t : T3) : T3 := (t.1, t.2.1.take 60, t.2.2.take 60)
set_option maxHeartbeats 12800000 in
theorem C_cut {s : Bool} {n d : List UInt8} : Ans 18 #[Rv s n d] (Rv s (n.take 60) (d.take 60)) := fun w => by
 have HK := Lib.hid (((Kq.nil w).new #[.bool s, S n, S d] 26).new #[.bool false, S [], S []] 26)
 rw [World.size_alloc] at HK
 obtain ⟨B, hB⟩ : ∃ B, w.heap.size = B := ⟨_, rfl⟩
 rw [hB] at HK
 have HBB := Lib.hid hB
 have q1 := cut60 n
 have q2 := cut60 d
 have c1 : (0 : Int) ≤ min (n.length : Int) 60 := by omega
 have c2 : min (n.length : Int) 60 ≤ (n.length : Int) := by omega
 have c3 : (0 : Int) ≤ min (d.length : Int) 60 := by omega
 have c4 : min (d.length : Int) 60 ≤ (d.length : Int) := by omega
 clear HK
 go_enter Tryz.func18, Tryz.ntmps18
 go_wp2_with fail
 have HE := ((Kq.nil w).new #[.bool s, S (n.take 60), S (d.take 60)] 26).new #[.bool s, S (n.take 60), S (d.take 60)] 26
 rw [World.size_alloc, HBB.out] at HE
 have hp := HE.row _ mm0
 refine bodyPost_ret (results_cell_row (P := Tryz.prog) rfl _ _ (B + 1) 26 _ (0, 0) _ rfl hp Tryz.underlying26 rfl (by kernel_rfl)) rfl ?_
 exact ⟨rfl, HE.ch⟩
set_option maxHeartbeats 12800000 in
theorem raw_walk {s1 s2 sa ss sT B1 B2 : Bool} {n1 d1 n2 d2 na da ns ds nT dT : List UInt8} {c0 : Int} {p : Option Addr} {n c : Nat} {l lp lq : List T3} (w : World) (ht : Tm w) (hr : Rr w p n l)
  (h0 : AnsM 11 #[] (.bool true)) (h1 : Ans 18 #[Rv s1 n1 d1] (Rv sa na da)) (h2 : Ans 18 #[Rv s2 n2 d2] (Rv ss ns ds))
  (ho1 : AnsM 20 #[.int .i64 c0] (Rv sT nT dT)) (ho2 : AnsM 14 #[.int .i64 c0] (Rv sT nT dT))
  (hs1 : ∀ (V : World) p m q, Tm V → Rs V p m ((l.take 6).map ct) → Calls Tryz.prog 19 #[Rv sT nT dT, .slice p m q] V fun e V' => ∃ p' n' c', e = .returned (.tuple #[.slice p' n' c', .bool B1]) ∧ Rs V' p' n' lp ∧ Ch V.heap.size none1 V V') (hs2 : ∀ (V : World) p m q, Tm V → Rs V p m ((l.take 6).map ct) → Calls Tryz.prog 21 #[Rv sT nT dT, .slice p m q] V fun e V' => ∃ p' n' c', e = .returned (.tuple #[.slice p' n' c', .bool B1]) ∧ Rs V' p' n' lp ∧ Ch V.heap.size none1 V V')
  (hs3 : ∀ (V : World) p m q, Tm V → Rs V p m [(ss, ns, ds)] → Calls Tryz.prog 19 #[Rv sa na da, .slice p m q] V fun e V' => ∃ p' n' c', e = .returned (.tuple #[.slice p' n' c', .bool B2]) ∧ Rs V' p' n' lq ∧ Ch V.heap.size none1 V V') (hs4 : ∀ (V : World) p m q, Tm V → Rs V p m [(ss, ns, ds)] → Calls Tryz.prog 21 #[Rv sa na da, .slice p m q] V fun e V' => ∃ p' n' c', e = .returned (.tuple #[.slice p' n' c', .bool B2]) ∧ Rs V' p' n' lq ∧ Ch V.heap.size none1 V V')
  (hro : AnsM 15 #[Rv sa na da, Rv ss ns ds] (.bool true)) (hln : lp.length ≤ 1000) :
  Calls Tryz.prog 4 #[Rv s1 n1 d1, Rv s2 n2 d2, .agg #[.int .i64 c0, .slice p n c]] w (Yld w (.bool true)) := by
 have HT := Lib.hid ht
 have HR := Lib.hid hr
 have H0 := Lib.hid h0
 have H1 := Lib.hid h1
 have H2 := Lib.hid h2
 have HO1 := Lib.hid ho1
 have HO2 := Lib.hid ho2
 have HS1 := Lib.hid hs1
 have HS2 := Lib.hid hs2
 have HS3 := Lib.hid hs3
 have HS4 := Lib.hid hs4
 have HRO := Lib.hid hro
 have HLN := Lib.hid hln
 obtain ⟨i0, hi0, hz0, hz1, hz2⟩ := info_parts rat_info
 have HLL := Lib.hid hr.len
 clear ht hr h0 h1 h2 ho1 ho2 hs1 hs2 hs3 hs4 hro hln
 have HK := Lib.hid ((((Kq.nil w).new #[.bool s1, S n1, S d1] 26).new #[.bool s2, S n2, S d2] 26).new #[.int .i64 c0, .slice p n c] 34)
 rw [World.size_alloc, World.size_alloc] at HK
 obtain ⟨B, hB⟩ : ∃ B, w.heap.size = B := ⟨_, rfl⟩
 rw [hB] at HK
 have HBB := Lib.hid hB
 have hbb : w.heap.size ≤ B := by omega
 have HF1 := Lib.hid (show ∀ W, Kq w W [(B + 1 + 1, 34, [.int .i64 c0, .slice p n c]), (B + 1, 26, [.bool s2, S n2, S d2]), (B, 26, [.bool s1, S n1, S d1])] → W.cell? ⟨B + 1 + 1, 0, none⟩ = some (.int .i64 c0) ∧ W.cell? ⟨B + 1 + 1, 1, none⟩ = some (.slice p n c) ∧ W.cell? ⟨B + 1, 0, none⟩ = some (.bool s2) ∧ W.cell? ⟨B + 1, 1, none⟩ = some (S n2) ∧ W.cell? ⟨B + 1, 2, none⟩ = some (S d2) ∧ W.cell? ⟨B, 0, none⟩ = some (.bool s1) ∧ W.cell? ⟨B, 1, none⟩ = some (S n1) ∧ W.cell? ⟨B, 2, none⟩ = some (S d1) from fun W h => ⟨(h.row _ mm0).cell 0, (h.row _ mm0).cell 1, (h.row _ mm1).cell 0, (h.row _ mm1).cell 1, (h.row _ mm1).cell 2, (h.row _ mm2).cell 0, (h.row _ mm2).cell 1, (h.row _ mm2).cell 2⟩)
 obtain ⟨cc0, cc1, cc2, cc3, cc4, cc5, cc6, cc7⟩ := HF1.out _ HK.out
 go_enter Tryz.func4, Tryz.ntmps4
 go_wp2_with fail
 clear hB
 refine (H0.out _ (HT.out.ch HK.out.ch)).mono ?_
 rintro e w1 ⟨rfl, hC⟩
 replace HK := Lib.hid (HK.out.on hC)
 clear hC cc0 cc1 cc2 cc3 cc4 cc5 cc6 cc7
 obtain ⟨cc0, cc1, cc2, cc3, cc4, cc5, cc6, cc7⟩ := HF1.out _ HK.out
 go_wp2_with fail
 refine (H1.out _).mono ?_
 rintro e w2 ⟨rfl, hC⟩
 replace HK := Lib.hid (HK.out.on hC)
 clear hC cc0 cc1 cc2 cc3 cc4 cc5 cc6 cc7
 obtain ⟨cc0, cc1, cc2, cc3, cc4, cc5, cc6, cc7⟩ := HF1.out _ HK.out
 clear cc0 cc1 cc2 cc3 cc4 cc5 cc6 cc7
 have e0 := (HK.out.row _ mm2).cell 0
 have f0 := (HK.out.row _ mm2).frozen 0
 have e1 := (HK.out.row _ mm2).cell 1
 have f1 := (HK.out.row _ mm2).frozen 1
 have e2 := (HK.out.row _ mm2).cell 2
 have f2 := (HK.out.row _ mm2).frozen 2
 simp only [List.getElem?_cons_zero, List.getElem?_cons_succ] at e0 e1 e2
 go_upto_region 3 with fail
 clear e0 e1 e2 f0 f1 f2
 replace HK := Lib.hid (HK.out.sub (l' := [(B, 26, [.bool s1, S n1, S d1]), (B + 1 + 1, 34, [.int .i64 c0, .slice p n c]), (B + 1, 26, [.bool s2, S n2, S d2])]) (by intro p hp; simp only [List.mem_cons, List.not_mem_nil, or_false] at hp ⊢; rcases hp with rfl | rfl | rfl <;> simp))
 replace HK := Lib.hid (HK.out.put3 (by omega) (by intro p hp; simp only [List.mem_cons, List.not_mem_nil, or_false] at hp; rcases hp with rfl | rfl <;> (simp only; omega)) (.bool sa) (S na) (S da))
 obtain ⟨w3, hW⟩ : ∃ W, (((w2.setCell ⟨B, 0, none⟩ (.bool sa)).setCell ⟨B, 1, none⟩ (S na)).setCell ⟨B, 2, none⟩ (S da)) = W := ⟨_, rfl⟩
 rw [hW] at HK ⊢
 clear hW
 have HF2 := Lib.hid (show ∀ W, Kq w W [(B, 26, [.bool sa, S na, S da]), (B + 1 + 1, 34, [.int .i64 c0, .slice p n c]), (B + 1, 26, [.bool s2, S n2, S d2])] → W.cell? ⟨B, 0, none⟩ = some (.bool sa) ∧ W.cell? ⟨B, 1, none⟩ = some (S na) ∧ W.cell? ⟨B, 2, none⟩ = some (S da) ∧ W.cell? ⟨B + 1 + 1, 0, none⟩ = some (.int .i64 c0) ∧ W.cell? ⟨B + 1 + 1, 1, none⟩ = some (.slice p n c) ∧ W.cell? ⟨B + 1, 0, none⟩ = some (.bool s2) ∧ W.cell? ⟨B + 1, 1, none⟩ = some (S n2) ∧ W.cell? ⟨B + 1, 2, none⟩ = some (S d2) from fun W h => ⟨(h.row _ mm0).cell 0, (h.row _ mm0).cell 1, (h.row _ mm0).cell 2, (h.row _ mm1).cell 0, (h.row _ mm1).cell 1, (h.row _ mm2).cell 0, (h.row _ mm2).cell 1, (h.row _ mm2).cell 2⟩)
 obtain ⟨cc0, cc1, cc2, cc3, cc4, cc5, cc6, cc7⟩ := HF2.out _ HK.out
 go_wp2_with fail
 refine (H2.out _).mono ?_
 rintro e w4 ⟨rfl, hC⟩
 replace HK := Lib.hid (HK.out.on hC)
 clear hC cc0 cc1 cc2 cc3 cc4 cc5 cc6 cc7
 obtain ⟨cc0, cc1, cc2, cc3, cc4, cc5, cc6, cc7⟩ := HF2.out _ HK.out
 clear cc0 cc1 cc2 cc3 cc4 cc5 cc6 cc7
 have e0 := (HK.out.row _ mm2).cell 0
 have f0 := (HK.out.row _ mm2).frozen 0
 have e1 := (HK.out.row _ mm2).cell 1
 have f1 := (HK.out.row _ mm2).frozen 1
 have e2 := (HK.out.row _ mm2).cell 2
 have f2 := (HK.out.row _ mm2).frozen 2
 simp only [List.getElem?_cons_zero, List.getElem?_cons_succ] at e0 e1 e2
 go_upto_region 4 with fail
 clear e0 e1 e2 f0 f1 f2
 replace HK := Lib.hid (HK.out.sub (l' := [(B + 1, 26, [.bool s2, S n2, S d2]), (B, 26, [.bool sa, S na, S da]), (B + 1 + 1, 34, [.int .i64 c0, .slice p n c])]) (by intro p hp; simp only [List.mem_cons, List.not_mem_nil, or_false] at hp ⊢; rcases hp with rfl | rfl | rfl <;> simp))
 replace HK := Lib.hid (HK.out.put3 (by omega) (by intro p hp; simp only [List.mem_cons, List.not_mem_nil, or_false] at hp; rcases hp with rfl | rfl <;> (simp only; omega)) (.bool ss) (S ns) (S ds))
 obtain ⟨w5, hW⟩ : ∃ W, (((w4.setCell ⟨B + 1, 0, none⟩ (.bool ss)).setCell ⟨B + 1, 1, none⟩ (S ns)).setCell ⟨B + 1, 2, none⟩ (S ds)) = W := ⟨_, rfl⟩
 rw [hW] at HK ⊢
 clear hW
 have HF3 := Lib.hid (show ∀ W, Kq w W [(B + 1, 26, [.bool ss, S ns, S ds]), (B, 26, [.bool sa, S na, S da]), (B + 1 + 1, 34, [.int .i64 c0, .slice p n c])] → W.cell? ⟨B + 1, 0, none⟩ = some (.bool ss) ∧ W.cell? ⟨B + 1, 1, none⟩ = some (S ns) ∧ W.cell? ⟨B + 1, 2, none⟩ = some (S ds) ∧ W.cell? ⟨B, 0, none⟩ = some (.bool sa) ∧ W.cell? ⟨B, 1, none⟩ = some (S na) ∧ W.cell? ⟨B, 2, none⟩ = some (S da) ∧ W.cell? ⟨B + 1 + 1, 0, none⟩ = some (.int .i64 c0) ∧ W.cell? ⟨B + 1 + 1, 1, none⟩ = some (.slice p n c) from fun W h => ⟨(h.row _ mm0).cell 0, (h.row _ mm0).cell 1, (h.row _ mm0).cell 2, (h.row _ mm1).cell 0, (h.row _ mm1).cell 1, (h.row _ mm1).cell 2, (h.row _ mm2).cell 0, (h.row _ mm2).cell 1⟩)
 obtain ⟨cc0, cc1, cc2, cc3, cc4, cc5, cc6, cc7⟩ := HF3.out _ HK.out
 go_wp2_with fail
 clear cc0 cc1 cc2 cc3 cc4 cc5 cc6 cc7
 replace HK := Lib.hid (HK.out.sub (l' := [(B + 1 + 1, 34, [.int .i64 c0, .slice p n c]), (B + 1, 26, [.bool ss, S ns, S ds]), (B, 26, [.bool sa, S na, S da])]) (by intro p hp; simp only [List.mem_cons, List.not_mem_nil, or_false] at hp ⊢; rcases hp with rfl | rfl | rfl <;> simp))
 obtain ⟨G, hG⟩ : ∃ G, w5.heap.size = G := ⟨_, rfl⟩
 have hb4 := Nat.le_of_eq hG.symm
 have hb5 : B < G := by rw [← hG]; exact (HK.out.row _ mm2).lt
 clear hG
 go_loopw [8, 9] (fun P a wr => ∃ k : Nat, k ≤ n ∧ k ≤ 6 ∧ a = .int .i64 k ∧ L2 w wr G [(B + 1 + 1, 34, [.int .i64 c0, .slice p n c]), (B + 1, 26, [.bool ss, S ns, S ds]), (B, 26, [.bool sa, S na, S da])] P (.slice none 0 0) k 0 ((l.take k).map ct) []) (fun _ a _ => 6 - (intOf a).toNat)
 case atStart => exact ⟨0, Nat.zero_le _, Nat.zero_le _, rfl, L2.start HK.out (by omega) hb4⟩
 case round =>
  clear HK hb4
  obtain ⟨k, hk, hk6, rfl, hKK⟩ := hrel
  have HK := Lib.hid hKK
  clear hKK
  have hk0 : 0 ≤ (k : Int) := by omega
  by_cases hlt : k < n ∧ k < 6
  ·obtain ⟨hlt, hlt6⟩ := hlt
   have hkl : (k : Int) < (n : Int) := by omega
   have hkd : decide ((k : Int) < (n : Int)) = true := decide_eq_true hkl
   have hkl6 : (k : Int) < 6 := by omega
   have hkd6 : decide ((k : Int) < 6) = true := decide_eq_true hkl6
   obtain ⟨⟨st, nt, dt⟩, htt⟩ : ∃ t, l[k]? = some t := ⟨_, List.getElem?_eq_getElem (by rw [HLL.out]; exact hlt)⟩
   obtain ⟨gw, ow, rfl, hgw, hcs⟩ := HR.out.rd (by omega)
   have HX := Lib.hid (show ∀ V, Ch w.heap.size none1 w V → V.cell? ⟨gw, ow + k * 3, none⟩ = some (.bool st) ∧ V.cell? ⟨gw, ow + k * 3 + 1, none⟩ = some (S nt) ∧ V.cell? ⟨gw, ow + k * 3 + 2, none⟩ = some (S dt) from fun V h => by
    obtain ⟨x0, x1, x2⟩ := hcs k _ htt
    exact ⟨by rw [h.cell (p := ⟨gw, ow + k * 3, none⟩) hgw (fun q => q)]; exact x0, by rw [h.cell (p := ⟨gw, ow + k * 3 + 1, none⟩) hgw (fun q => q)]; exact x1, by rw [h.cell (p := ⟨gw, ow + k * 3 + 2, none⟩) hgw (fun q => q)]; exact x2⟩)
   clear hcs hgw
   have HLP := Lib.hid (show (l.take (k + 1)).map ct = (l.take k).map ct ++ [(st, nt.take 60, dt.take 60)] by rw [List.take_add_one, htt]; simp [ct])
   have HC := Lib.hid (C_cut (s := st) (n := nt) (d := dt))
   clear htt
   have HF121 := Lib.hid (show ∀ W, Kq w W [(B + 1 + 1, 34, [.int .i64 c0, .slice (some ⟨gw, ow, none⟩) n c]), (B + 1, 26, [.bool ss, S ns, S ds]), (B, 26, [.bool sa, S na, S da])] → W.cell? ⟨B + 1 + 1, 0, none⟩ = some (.int .i64 c0) ∧ W.cell? ⟨B + 1 + 1, 1, none⟩ = some (.slice (some ⟨gw, ow, none⟩) n c) ∧ W.cell? ⟨B + 1, 0, none⟩ = some (.bool ss) ∧ W.cell? ⟨B + 1, 1, none⟩ = some (S ns) ∧ W.cell? ⟨B + 1, 2, none⟩ = some (S ds) ∧ W.cell? ⟨B, 0, none⟩ = some (.bool sa) ∧ W.cell? ⟨B, 1, none⟩ = some (S na) ∧ W.cell? ⟨B, 2, none⟩ = some (S da) ∧ W.cell? ⟨gw, ow + k * 3, none⟩ = some (.bool st) ∧ W.cell? ⟨gw, ow + k * 3 + 1, none⟩ = some (S nt) ∧ W.cell? ⟨gw, ow + k * 3 + 2, none⟩ = some (S dt) from fun W h => ⟨(h.row _ mm0).cell 0, (h.row _ mm0).cell 1, (h.row _ mm1).cell 0, (h.row _ mm1).cell 1, (h.row _ mm1).cell 2, (h.row _ mm2).cell 0, (h.row _ mm2).cell 1, (h.row _ mm2).cell 2, (HX.out W h.ch).1, (HX.out W h.ch).2.1, (HX.out W h.ch).2.2⟩)
   obtain ⟨cc0, cc1, cc2, cc3, cc4, cc5, cc6, cc7, cc8, cc9, cc10⟩ := HF121.out _ HK.out.kq
   go_wp2_with fail
   refine (HC.out _).mono ?_
   rintro e w121 ⟨rfl, hC⟩
   replace HK := Lib.hid (HK.out.on hC)
   clear hC cc0 cc1 cc2 cc3 cc4 cc5 cc6 cc7 cc8 cc9 cc10
   obtain ⟨cc0, cc1, cc2, cc3, cc4, cc5, cc6, cc7, cc8, cc9, cc10⟩ := HF121.out _ HK.out.kq
   go_wp2_with (at_builtin; refine wpList_append_own_at _ rfl _ _ 32 rfl G 26 i0 (.agg #[.bool false, S [], S []]) 3 40 Tryz.underlying32 hi0 hz0 hz1 hz2 rfl (by decide) u8 k (rcs ((l.take k).map ct)) rfl (HK.out.other _).po ⟨w121.heap.size, 0, none⟩ 1 1 (rc (st, nt.take 60, dt.take 60)) rfl rfl (rat_news w121 (st, nt.take 60, dt.take 60)) (rc_one (st, nt.take 60, dt.take 60)) (by unfold maxLen; omega) (by omega) (HK.out.other _).gg ?_; intro P1 w5 hown' hgr hnil hat)
   clear cc0 cc1 cc2 cc3 cc4 cc5 cc6 cc7 cc8 cc9 cc10
   replace HK := Lib.hid ((HK.out.other (.cells #[.bool st, S (nt.take 60), S (dt.take 60)] 26 (0, 0))).grow1 (PL' := (l.take (k + 1)).map ct) (by rw [HLP.out, rcs_append]; exact hown') hgr hat)
   clear hown' hgr hnil hat
   go_wp2_with fail
   go_roundw
   case rel => exact ⟨k + 1, by omega, by omega, by go_num, HK.out⟩
   case measure => simp [intOf]; omega
  ·have hgd : (¬ k < n ∧ decide ((k : Int) < (n : Int)) = false) ∨ (k < n ∧ ¬ k < 6 ∧ decide ((k : Int) < (n : Int)) = true ∧ decide ((k : Int) < 6) = false) := by
    by_cases h : k < n
    ·exact .inr ⟨h, fun q => hlt ⟨h, q⟩, decide_eq_true (by omega), decide_eq_false (by omega)⟩
    ·exact .inl ⟨h, decide_eq_false (by omega)⟩
   have HEND := Lib.hid (show (l.take k).map ct = (l.take 6).map ct by
    by_cases h : k = 6
    ·rw [h]
    ·rw [List.take_of_length_le (by rw [HLL.out]; omega), List.take_of_length_le (by rw [HLL.out]; omega)])
   rcases hgd with ⟨hgn, hgd⟩ | ⟨hgn, hgn6, hgd, hgd6⟩
   all_goals
    obtain ⟨pl, cl, rfl⟩ := own_val HK.out.po
    obtain ⟨hkm, hRl⟩ := Rs.own HK.out.po (by rw [List.length_map, List.length_take, HLL.out]; omega)
    rw [HEND.out] at hRl
    have HRL := Lib.hid hRl
    have HK2 := Lib.hid (show Kq wr wr [(B + 1 + 1, 34, [.int .i64 c0, .slice p n c]), (B + 1, 26, [.bool ss, S ns, S ds]), (B, 26, [.bool sa, S na, S da])] from ⟨Ch.refl _ _ _, HK.out.kq.row⟩)
    have HC0 := Lib.hid HK.out.kq.ch
    have HTT := Lib.hid (HT.out.ch HC0.out)
    clear HK hRl HT hkm
    have HT := HTT
    have HK := HK2
    clear HTT HK2
    have HF201 := Lib.hid (show ∀ W, Kq wr W [(B + 1 + 1, 34, [.int .i64 c0, .slice p n c]), (B + 1, 26, [.bool ss, S ns, S ds]), (B, 26, [.bool sa, S na, S da])] → W.cell? ⟨B + 1 + 1, 0, none⟩ = some (.int .i64 c0) ∧ W.cell? ⟨B + 1 + 1, 1, none⟩ = some (.slice p n c) ∧ W.cell? ⟨B + 1, 0, none⟩ = some (.bool ss) ∧ W.cell? ⟨B + 1, 1, none⟩ = some (S ns) ∧ W.cell? ⟨B + 1, 2, none⟩ = some (S ds) ∧ W.cell? ⟨B, 0, none⟩ = some (.bool sa) ∧ W.cell? ⟨B, 1, none⟩ = some (S na) ∧ W.cell? ⟨B, 2, none⟩ = some (S da) from fun W h => ⟨(h.row _ mm0).cell 0, (h.row _ mm0).cell 1, (h.row _ mm1).cell 0, (h.row _ mm1).cell 1, (h.row _ mm1).cell 2, (h.row _ mm2).cell 0, (h.row _ mm2).cell 1, (h.row _ mm2).cell 2⟩)
    obtain ⟨cc0, cc1, cc2, cc3, cc4, cc5, cc6, cc7⟩ := HF201.out _ HK.out
    go_wp2_with fail
    refine (HO1.out _ (HT.out.ch HK.out.ch)).mono ?_
    rintro e w201 ⟨rfl, hC⟩
    have HK2 := Lib.hid (HK.out.on hC)
    clear cc0 cc1 cc2 cc3 cc4 cc5 cc6 cc7
    have HRLn := Lib.hid (HRL.out.ch hC)
    clear HRL
    have HRL := HRLn
    clear HRLn
    clear hC HK
    have HK := HK2
    clear HK2
    obtain ⟨cc0, cc1, cc2, cc3, cc4, cc5, cc6, cc7⟩ := HF201.out _ HK.out
    go_wp2_with fail
    refine (HS1.out _ _ _ _ (HT.out.ch HK.out.ch) HRL.out).mono ?_
    rintro e w202 ⟨p1, m1, q1, rfl, hR1, hC⟩
    have HK2 := Lib.hid (HK.out.on hC)
    clear cc0 cc1 cc2 cc3 cc4 cc5 cc6 cc7
    have HRLn := Lib.hid (HRL.out.ch hC)
    clear HRL
    have HRL := HRLn
    clear HRLn
    clear hC HK
    have HK := HK2
    clear HK2
    obtain ⟨cc0, cc1, cc2, cc3, cc4, cc5, cc6, cc7⟩ := HF201.out _ HK.out
    have HR1 := Lib.hid hR1
    clear hR1
    go_wp2_with fail
    refine (HO2.out _ (HT.out.ch HK.out.ch)).mono ?_
    rintro e w203 ⟨rfl, hC⟩
    have HK2 := Lib.hid (HK.out.on hC)
    clear cc0 cc1 cc2 cc3 cc4 cc5 cc6 cc7
    have HRLn := Lib.hid (HRL.out.ch hC)
    clear HRL
    have HRL := HRLn
    clear HRLn
    have HR1n := Lib.hid (HR1.out.ch hC)
    clear HR1
    have HR1 := HR1n
    clear HR1n
    clear hC HK
    have HK := HK2
    clear HK2
    obtain ⟨cc0, cc1, cc2, cc3, cc4, cc5, cc6, cc7⟩ := HF201.out _ HK.out
    go_wp2_with fail
    refine (HS2.out _ _ _ _ (HT.out.ch HK.out.ch) HRL.out).mono ?_
    rintro e w204 ⟨p2, m2, q2, rfl, hR2, hC⟩
    have HK2 := Lib.hid (HK.out.on hC)
    clear cc0 cc1 cc2 cc3 cc4 cc5 cc6 cc7
    have HRLn := Lib.hid (HRL.out.ch hC)
    clear HRL
    have HRL := HRLn
    clear HRLn
    have HR1n := Lib.hid (HR1.out.ch hC)
    clear HR1
    have HR1 := HR1n
    clear HR1n
    clear hC HK
    have HK := HK2
    clear HK2
    obtain ⟨cc0, cc1, cc2, cc3, cc4, cc5, cc6, cc7⟩ := HF201.out _ HK.out
    have HR2 := Lib.hid hR2
    clear hR2 HRL
    go_wp2_with fail
    clear cc0 cc1 cc2 cc3 cc4 cc5 cc6 cc7
    have HR1n := Lib.hid (HR1.out.ch (Ch.alloc0 (.cells #[.bool ss, S ns, S ds] 26 (0, 0))))
    clear HR1
    have HR1 := HR1n
    clear HR1n
    have HR2n := Lib.hid (HR2.out.ch (Ch.alloc0 (.cells #[.bool ss, S ns, S ds] 26 (0, 0))))
    clear HR2
    have HR2 := HR2n
    clear HR2n
    have HK2 := Lib.hid (HK.out.new #[.bool ss, S ns, S ds] 26)
    obtain ⟨w205, hW⟩ : ∃ W, w204.alloc (.cells #[.bool ss, S ns, S ds] 26 (0, 0)) = W := ⟨_, rfl⟩
    rw [hW] at HK2 HR1 HR2 ⊢
    obtain ⟨T3, hA⟩ : ∃ A, w204.heap.size = A := ⟨_, rfl⟩
    rw [hA] at HK2 ⊢
    clear hA hW HK
    have HK := HK2
    clear HK2
    have HF202 := Lib.hid (show ∀ W, Kq wr W [(T3, 26, [.bool ss, S ns, S ds]), (B + 1 + 1, 34, [.int .i64 c0, .slice p n c]), (B + 1, 26, [.bool ss, S ns, S ds]), (B, 26, [.bool sa, S na, S da])] → W.cell? ⟨T3, 0, none⟩ = some (.bool ss) ∧ W.cell? ⟨T3, 1, none⟩ = some (S ns) ∧ W.cell? ⟨T3, 2, none⟩ = some (S ds) ∧ W.cell? ⟨B + 1 + 1, 0, none⟩ = some (.int .i64 c0) ∧ W.cell? ⟨B + 1 + 1, 1, none⟩ = some (.slice p n c) ∧ W.cell? ⟨B + 1, 0, none⟩ = some (.bool ss) ∧ W.cell? ⟨B + 1, 1, none⟩ = some (S ns) ∧ W.cell? ⟨B + 1, 2, none⟩ = some (S ds) ∧ W.cell? ⟨B, 0, none⟩ = some (.bool sa) ∧ W.cell? ⟨B, 1, none⟩ = some (S na) ∧ W.cell? ⟨B, 2, none⟩ = some (S da) from fun W h => ⟨(h.row _ mm0).cell 0, (h.row _ mm0).cell 1, (h.row _ mm0).cell 2, (h.row _ mm1).cell 0, (h.row _ mm1).cell 1, (h.row _ mm2).cell 0, (h.row _ mm2).cell 1, (h.row _ mm2).cell 2, (h.row _ mm3).cell 0, (h.row _ mm3).cell 1, (h.row _ mm3).cell 2⟩)
    obtain ⟨cc0, cc1, cc2, cc3, cc4, cc5, cc6, cc7, cc8, cc9, cc10⟩ := HF202.out _ HK.out
    have HQ := Lib.hid (Rs.blk (l := [(ss, ns, ds)]) (n := 1) (HK.out.row _ mm0) rfl)
    refine (HS3.out _ _ _ _ (HT.out.ch HK.out.ch) HQ.out).mono ?_
    rintro e w206 ⟨p3, m3, q3, rfl, hR3, hC⟩
    have HK2 := Lib.hid (HK.out.on hC)
    clear cc0 cc1 cc2 cc3 cc4 cc5 cc6 cc7 cc8 cc9 cc10
    have HR1n := Lib.hid (HR1.out.ch hC)
    clear HR1
    have HR1 := HR1n
    clear HR1n
    have HR2n := Lib.hid (HR2.out.ch hC)
    clear HR2
    have HR2 := HR2n
    clear HR2n
    clear hC HK
    have HK := HK2
    clear HK2
    obtain ⟨cc0, cc1, cc2, cc3, cc4, cc5, cc6, cc7⟩ := HF202.out _ HK.out
    clear hR3 HQ
    go_wp2_with fail
    clear cc0 cc1 cc2 cc3 cc4 cc5 cc6 cc7
    have HR1n := Lib.hid (HR1.out.ch (Ch.alloc0 (.cells #[.bool ss, S ns, S ds] 26 (0, 0))))
    clear HR1
    have HR1 := HR1n
    clear HR1n
    have HR2n := Lib.hid (HR2.out.ch (Ch.alloc0 (.cells #[.bool ss, S ns, S ds] 26 (0, 0))))
    clear HR2
    have HR2 := HR2n
    clear HR2n
    have HK2 := Lib.hid (HK.out.new #[.bool ss, S ns, S ds] 26)
    obtain ⟨w207, hW⟩ : ∃ W, w206.alloc (.cells #[.bool ss, S ns, S ds] 26 (0, 0)) = W := ⟨_, rfl⟩
    rw [hW] at HK2 HR1 HR2 ⊢
    obtain ⟨T4, hA⟩ : ∃ A, w206.heap.size = A := ⟨_, rfl⟩
    rw [hA] at HK2 ⊢
    clear hA hW HK
    have HK := HK2
    clear HK2
    have HF203 := Lib.hid (show ∀ W, Kq wr W [(T4, 26, [.bool ss, S ns, S ds]), (T3, 26, [.bool ss, S ns, S ds]), (B + 1 + 1, 34, [.int .i64 c0, .slice p n c]), (B + 1, 26, [.bool ss, S ns, S ds]), (B, 26, [.bool sa, S na, S da])] → W.cell? ⟨T4, 0, none⟩ = some (.bool ss) ∧ W.cell? ⟨T4, 1, none⟩ = some (S ns) ∧ W.cell? ⟨T4, 2, none⟩ = some (S ds) ∧ W.cell? ⟨B + 1 + 1, 0, none⟩ = some (.int .i64 c0) ∧ W.cell? ⟨B + 1 + 1, 1, none⟩ = some (.slice p n c) ∧ W.cell? ⟨B + 1, 0, none⟩ = some (.bool ss) ∧ W.cell? ⟨B + 1, 1, none⟩ = some (S ns) ∧ W.cell? ⟨B + 1, 2, none⟩ = some (S ds) ∧ W.cell? ⟨B, 0, none⟩ = some (.bool sa) ∧ W.cell? ⟨B, 1, none⟩ = some (S na) ∧ W.cell? ⟨B, 2, none⟩ = some (S da) from fun W h => ⟨(h.row _ mm0).cell 0, (h.row _ mm0).cell 1, (h.row _ mm0).cell 2, (h.row _ mm2).cell 0, (h.row _ mm2).cell 1, (h.row _ mm3).cell 0, (h.row _ mm3).cell 1, (h.row _ mm3).cell 2, (h.row _ mm4).cell 0, (h.row _ mm4).cell 1, (h.row _ mm4).cell 2⟩)
    obtain ⟨cc0, cc1, cc2, cc3, cc4, cc5, cc6, cc7, cc8, cc9, cc10⟩ := HF203.out _ HK.out
    have HQ := Lib.hid (Rs.blk (l := [(ss, ns, ds)]) (n := 1) (HK.out.row _ mm0) rfl)
    refine (HS4.out _ _ _ _ (HT.out.ch HK.out.ch) HQ.out).mono ?_
    rintro e w208 ⟨p4, m4, q4, rfl, hR4, hC⟩
    have HK2 := Lib.hid (HK.out.on hC)
    clear cc0 cc1 cc2 cc3 cc4 cc5 cc6 cc7 cc8 cc9 cc10
    have HR1n := Lib.hid (HR1.out.ch hC)
    clear HR1
    have HR1 := HR1n
    clear HR1n
    have HR2n := Lib.hid (HR2.out.ch hC)
    clear HR2
    have HR2 := HR2n
    clear HR2n
    clear hC HK
    have HK := HK2
    clear HK2
    obtain ⟨cc0, cc1, cc2, cc3, cc4, cc5, cc6, cc7⟩ := HF203.out _ HK.out
    clear hR4 HQ
    go_wp2_with fail
    clear cc0 cc1 cc2 cc3 cc4 cc5 cc6 cc7
    have HK2 := Lib.hid (show Kq w208 w208 [(B + 1 + 1, 34, [.int .i64 c0, .slice p n c]), (B + 1, 26, [.bool ss, S ns, S ds]), (B, 26, [.bool sa, S na, S da])] from ⟨Ch.refl _ _ _, (Kq.sub (l' := [(B + 1 + 1, 34, [.int .i64 c0, .slice p n c]), (B + 1, 26, [.bool ss, S ns, S ds]), (B, 26, [.bool sa, S na, S da])]) HK.out (by intro p hp; simp only [List.mem_cons, List.not_mem_nil, or_false] at hp ⊢; rcases hp with rfl | rfl | rfl <;> simp)).row⟩)
    have HT2 := Lib.hid (HT.out.ch HK.out.ch)
    have HC1 := Lib.hid (HC0.out.step0 HK.out.ch (Nat.le_refl _))
    have hmm : m1 = m2 := HR1.out.len.symm.trans HR2.out.len
    subst hmm
    have HSM := Lib.hid (fun (V : World) (q q' : Nat) (h : Ch w208.heap.size none1 w208 V) => same4_true V p1 p2 m1 q q' lp (HR1.out.ch h) (HR2.out.ch h) (by rw [← HR1.out.len]; exact HLN.out))
    clear HK HT HC0 HR1 HR2
    have HK := HK2
    have HT := HT2
    have HC0 := HC1
    clear HK2 HT2 HC1
    have HF204 := Lib.hid (show ∀ W, Kq w208 W [(B + 1 + 1, 34, [.int .i64 c0, .slice p n c]), (B + 1, 26, [.bool ss, S ns, S ds]), (B, 26, [.bool sa, S na, S da])] → W.cell? ⟨B + 1 + 1, 0, none⟩ = some (.int .i64 c0) ∧ W.cell? ⟨B + 1 + 1, 1, none⟩ = some (.slice p n c) ∧ W.cell? ⟨B + 1, 0, none⟩ = some (.bool ss) ∧ W.cell? ⟨B + 1, 1, none⟩ = some (S ns) ∧ W.cell? ⟨B + 1, 2, none⟩ = some (S ds) ∧ W.cell? ⟨B, 0, none⟩ = some (.bool sa) ∧ W.cell? ⟨B, 1, none⟩ = some (S na) ∧ W.cell? ⟨B, 2, none⟩ = some (S da) from fun W h => ⟨(h.row _ mm0).cell 0, (h.row _ mm0).cell 1, (h.row _ mm1).cell 0, (h.row _ mm1).cell 1, (h.row _ mm1).cell 2, (h.row _ mm2).cell 0, (h.row _ mm2).cell 1, (h.row _ mm2).cell 2⟩)
    obtain ⟨cc0, cc1, cc2, cc3, cc4, cc5, cc6, cc7⟩ := HF204.out _ HK.out
    go_wp2_with fail
    clear cc0 cc1 cc2 cc3 cc4 cc5 cc6 cc7
    replace HK := Lib.hid HK.out.drew
    refine wp_region_held_drew (S := fun w' => w'.cell? ⟨B + 1 + 1, 0, none⟩ = some (.int .i64 c0) ∧ w'.cell? ⟨B + 1 + 1, 1, none⟩ = some (.slice p n c) ∧ w'.cell? ⟨B + 1, 0, none⟩ = some (.bool ss) ∧ w'.cell? ⟨B + 1, 1, none⟩ = some (S ns) ∧ w'.cell? ⟨B + 1, 2, none⟩ = some (S ds) ∧ w'.cell? ⟨B, 0, none⟩ = some (.bool sa) ∧ w'.cell? ⟨B, 1, none⟩ = some (S na) ∧ w'.cell? ⟨B, 2, none⟩ = some (S da)) (by kernel_rfl) ?_ (fun hHeld => ?_)
    ·(try dsimp only); exact HF204.out _ HK.out
    refine tk 0 (v := ?_) hHeld ?_ ?_
    rotate_left 1
    ·intro _ hw; (try dsimp only at hw); go_simp; try with_reducible rfl
    (try simp only [Act.put, List.setIfInBounds_toArray, List.set_cons_zero, List.set_cons_succ])
    refine tk 1 (v := ?_) hHeld ?_ ?_
    rotate_left 1
    ·intro _ hw; (try dsimp only at hw); go_simp; try with_reducible rfl
    (try simp only [Act.put, List.setIfInBounds_toArray, List.set_cons_zero, List.set_cons_succ])
    refine tk 2 (v := ?_) hHeld ?_ ?_
    rotate_left 1
    ·intro _ hw; (try dsimp only at hw); go_simp; try with_reducible rfl
    (try simp only [Act.put, List.setIfInBounds_toArray, List.set_cons_zero, List.set_cons_succ])
    refine tk 3 (v := ?_) hHeld ?_ ?_
    rotate_left 1
    ·intro _ hw; (try dsimp only at hw); go_simp; try with_reducible rfl
    (try simp only [Act.put, List.setIfInBounds_toArray, List.set_cons_zero, List.set_cons_succ])
    refine wpAnyH_ready (rs := [4]) (by kernel_rfl) (by simp) ?_
    refine AllReadyH.cons (at_list rfl) (fun K hK => ?_) AllReadyH.nil
    go_simp
    go_at_call 15; with_reducible refine (HRO.out _ (HT.out.ch HK.out.ch)).mono ?_; rintro e wq ⟨rfl, hCq⟩; replace HK := Lib.hid (HK.out.on hCq); clear hCq
    clear hHeld
    first | (refine hK.out _ _ ?_ (fun hHeld => ?_)) | (go_wp2_with fail; refine hK.out _ _ ?_ (fun hHeld => ?_))
    ·(try dsimp only); exact HF204.out _ HK.out
    clear hK K
    (try simp only [Act.put, List.setIfInBounds_toArray, List.set_cons_zero, List.set_cons_succ])
    refine tk 5 (v := ?_) hHeld ?_ ?_
    rotate_left 1
    ·intro _ hw; (try dsimp only at hw); go_simp; try with_reducible rfl
    (try simp only [Act.put, List.setIfInBounds_toArray, List.set_cons_zero, List.set_cons_succ])
    refine tk 6 (v := ?_) hHeld ?_ ?_
    rotate_left 1
    ·intro _ hw; (try dsimp only at hw); go_simp; try with_reducible rfl
    (try simp only [Act.put, List.setIfInBounds_toArray, List.set_cons_zero, List.set_cons_succ])
    refine tk 7 (v := ?_) hHeld ?_ ?_
    rotate_left 1
    ·intro _ hw; (try dsimp only at hw); go_simp; try with_reducible rfl
    (try simp only [Act.put, List.setIfInBounds_toArray, List.set_cons_zero, List.set_cons_succ])
    refine tk 8 (v := ?_) hHeld ?_ ?_
    rotate_left 1
    ·intro _ hw; (try dsimp only at hw); go_simp; try with_reducible rfl
    (try simp only [Act.put, List.setIfInBounds_toArray, List.set_cons_zero, List.set_cons_succ])
    refine wpAnyH_ready (rs := [9]) (by kernel_rfl) (by simp) ?_
    refine AllReadyH.cons (at_list rfl) (fun K hK => ?_) AllReadyH.nil
    go_simp
    go_at_call 22; with_reducible refine (HSM.out _ _ _ HK.out.ch).mono ?_; rintro e wq ⟨rfl, hCq⟩; replace HK := Lib.hid (HK.out.on hCq); clear hCq
    clear hHeld
    first | (refine hK.out _ _ ?_ (fun hHeld => ?_)) | (go_wp2_with fail; refine hK.out _ _ ?_ (fun hHeld => ?_))
    ·(try dsimp only); exact HF204.out _ HK.out
    clear hK K
    (try simp only [Act.put, List.setIfInBounds_toArray, List.set_cons_zero, List.set_cons_succ])
    refine tk 10 (v := ?_) hHeld ?_ ?_
    rotate_left 1
    ·intro _ hw; (try dsimp only at hw); go_simp; try with_reducible rfl
    (try simp only [Act.put, List.setIfInBounds_toArray, List.set_cons_zero, List.set_cons_succ])
    refine tk 11 (v := ?_) hHeld ?_ ?_
    rotate_left 1
    ·intro _ hw; (try dsimp only at hw); go_simp; try with_reducible rfl
    (try simp only [Act.put, List.setIfInBounds_toArray, List.set_cons_zero, List.set_cons_succ])
    refine tk 12 (v := ?_) hHeld ?_ ?_
    rotate_left 1
    ·intro _ hw; (try dsimp only at hw); go_simp; try with_reducible rfl
    (try simp only [Act.put, List.setIfInBounds_toArray, List.set_cons_zero, List.set_cons_succ])
    refine tk 13 (v := ?_) hHeld ?_ ?_
    rotate_left 1
    ·intro _ hw; (try dsimp only at hw); go_simp; try with_reducible rfl
    (try simp only [Act.put, List.setIfInBounds_toArray, List.set_cons_zero, List.set_cons_succ])
    refine tk 14 (v := ?_) hHeld ?_ ?_
    rotate_left 1
    ·intro _ hw; (try dsimp only at hw); go_simp; try with_reducible rfl
    (try simp only [Act.put, List.setIfInBounds_toArray, List.set_cons_zero, List.set_cons_succ])
    refine tk 15 (v := ?_) hHeld ?_ ?_
    rotate_left 1
    ·intro _ hw; (try dsimp only at hw); go_simp; try with_reducible rfl
    (try simp only [Act.put, List.setIfInBounds_toArray, List.set_cons_zero, List.set_cons_succ])
    refine tk 16 (v := ?_) hHeld ?_ ?_
    rotate_left 1
    ·intro _ hw; (try dsimp only at hw); go_simp; try with_reducible rfl
    (try simp only [Act.put, List.setIfInBounds_toArray, List.set_cons_zero, List.set_cons_succ])
    refine tk 17 (v := ?_) hHeld ?_ ?_
    rotate_left 1
    ·intro _ hw; (try dsimp only at hw); go_simp; try with_reducible rfl
    (try simp only [Act.put, List.setIfInBounds_toArray, List.set_cons_zero, List.set_cons_succ])
    refine tk 18 (v := ?_) hHeld ?_ ?_
    rotate_left 1
    ·intro _ hw; (try dsimp only at hw); go_simp; try with_reducible rfl
    (try simp only [Act.put, List.setIfInBounds_toArray, List.set_cons_zero, List.set_cons_succ])
    refine tk 19 (v := ?_) hHeld ?_ ?_
    rotate_left 1
    ·intro _ hw; (try dsimp only at hw); go_simp; try with_reducible rfl
    (try simp only [Act.put, List.setIfInBounds_toArray, List.set_cons_zero, List.set_cons_succ])
    refine tk 20 (v := ?_) hHeld ?_ ?_
    rotate_left 1
    ·intro _ hw; (try dsimp only at hw); go_simp; try with_reducible rfl
    (try simp only [Act.put, List.setIfInBounds_toArray, List.set_cons_zero, List.set_cons_succ])
    refine tk 21 (v := ?_) hHeld ?_ ?_
    rotate_left 1
    ·intro _ hw; (try dsimp only at hw); go_simp; try with_reducible rfl
    (try simp only [Act.put, List.setIfInBounds_toArray, List.set_cons_zero, List.set_cons_succ])
    refine tk 22 (v := ?_) hHeld ?_ ?_
    rotate_left 1
    ·intro _ hw; (try dsimp only at hw); go_simp; try with_reducible rfl
    (try simp only [Act.put, List.setIfInBounds_toArray, List.set_cons_zero, List.set_cons_succ])
    refine tk 23 (v := ?_) hHeld ?_ ?_
    rotate_left 1
    ·intro _ hw; (try dsimp only at hw); go_simp; try with_reducible rfl
    (try simp only [Act.put, List.setIfInBounds_toArray, List.set_cons_zero, List.set_cons_succ])
    refine tk 25 (v := ?_) hHeld ?_ ?_
    rotate_left 1
    ·intro _ hw; (try dsimp only at hw); go_simp; try with_reducible rfl
    (try simp only [Act.put, List.setIfInBounds_toArray, List.set_cons_zero, List.set_cons_succ])
    refine tk 26 (v := ?_) hHeld ?_ ?_
    rotate_left 1
    ·intro _ hw; (try dsimp only at hw); go_simp; try with_reducible rfl
    (try simp only [Act.put, List.setIfInBounds_toArray, List.set_cons_zero, List.set_cons_succ])
    refine wpAnyH_ready (rs := [24]) (by kernel_rfl) (by simp) ?_
    refine AllReadyH.cons (at_list rfl) (fun K hK => ?_) AllReadyH.nil
    go_simp
    go_at_call 20; with_reducible refine (HO1.out _ (HT.out.ch HK.out.ch)).mono ?_; rintro e wq ⟨rfl, hCq⟩; replace HK := Lib.hid (HK.out.on hCq); clear hCq
    clear hHeld
    first | (refine hK.out _ _ ?_ (fun hHeld => ?_)) | (go_wp2_with fail; refine hK.out _ _ ?_ (fun hHeld => ?_))
    ·(try dsimp only); exact HF204.out _ HK.out
    clear hK K
    (try simp only [Act.put, List.setIfInBounds_toArray, List.set_cons_zero, List.set_cons_succ])
    refine wpAnyH_ready (rs := [27]) (by kernel_rfl) (by simp) ?_
    refine AllReadyH.cons (at_list rfl) (fun K hK => ?_) AllReadyH.nil
    go_simp
    go_at_call 14; with_reducible refine (HO2.out _ (HT.out.ch HK.out.ch)).mono ?_; rintro e wq ⟨rfl, hCq⟩; replace HK := Lib.hid (HK.out.on hCq); clear hCq
    clear hHeld
    first | (refine hK.out _ _ ?_ (fun hHeld => ?_)) | (go_wp2_with fail; refine hK.out _ _ ?_ (fun hHeld => ?_))
    ·(try dsimp only); exact HF204.out _ HK.out
    clear hK K
    (try simp only [Act.put, List.setIfInBounds_toArray, List.set_cons_zero, List.set_cons_succ])
    refine tk 28 (v := ?_) hHeld ?_ ?_
    rotate_left 1
    ·intro _ hw; (try dsimp only at hw); go_simp; try with_reducible rfl
    (try simp only [Act.put, List.setIfInBounds_toArray, List.set_cons_zero, List.set_cons_succ])
    refine tk 29 (v := ?_) hHeld ?_ ?_
    rotate_left 1
    ·intro _ hw; (try dsimp only at hw); go_simp; try with_reducible rfl
    (try simp only [Act.put, List.setIfInBounds_toArray, List.set_cons_zero, List.set_cons_succ])
    refine tk 30 (v := ?_) hHeld ?_ ?_
    rotate_left 1
    ·intro _ hw; (try dsimp only at hw); go_simp; try with_reducible rfl
    (try simp only [Act.put, List.setIfInBounds_toArray, List.set_cons_zero, List.set_cons_succ])
    refine wpAnyH_done (by kernel_rfl) ?_ _
    clear hHeld
    obtain ⟨cc0, cc1, cc2, cc3, cc4, cc5, cc6, cc7⟩ := HF204.out _ HK.out
    go_wp2_with fail
    go_ret
    first | exact ⟨rfl, HC0.out.step0 HK.out.ch (Nat.le_refl _)⟩ | exact ⟨ret_bool (by simp), HC0.out.step0 HK.out.ch (Nat.le_refl _)⟩
theorem cut_len (l : List UInt8) : (l.take 60).length ≤ 60 := by rw [List.length_take]; omega
set_option maxHeartbeats 3200000 in
theorem raw_core (s1 s2 : Bool) (n1 d1 n2 d2 : List UInt8) (c0 : Int) (p : Option Addr) (n c : Nat) (l : List T3) (w : World) (hc : i64m c0) (hr : Rr w p n l) (ht : Tm w) :
  Calls Tryz.prog 4 #[Rv s1 n1 d1, Rv s2 n2 d2, .agg #[.int .i64 c0, .slice p n c]] w (Yld w (.bool true)) := by
 obtain ⟨sT, nT, dT, iT⟩ := Is.ex ((c0 : Rat) * (1 / 100))
 have zT := cq_size hc
 obtain ⟨t1, t2⟩ := zT.len iT
 have hcT := cq_cents hc iT
 have l1 := cut_len n1
 have l2 := cut_len d1
 have l3 := cut_len n2
 have l4 := cut_len d2
 have hz : ∀ t ∈ (l.take 6).map ct, t.2.1.length ≤ 60 ∧ t.2.2.length ≤ 60 := fun t ht => by
  obtain ⟨u, -, rfl⟩ := List.mem_map.1 ht
  exact ⟨cut_len _, cut_len _⟩
 have hl6 : ((l.take 6).map ct).length ≤ 6 := by rw [List.length_map, List.length_take]; omega
 have hz1 : ∀ t ∈ [(s2, n2.take 60, d2.take 60)], t.2.1.length ≤ 60 ∧ t.2.2.length ≤ 60 := fun t ht => by
  obtain rfl := List.mem_singleton.1 ht
  exact ⟨l3, l4⟩
 refine raw_walk (lp := splitL (some c0) ((l.take 6).map ct)) (B1 := splitB (some c0) ((l.take 6).map ct)) (lq := splitL (centsR s1 (n1.take 60) (d1.take 60)) [(s2, n2.take 60, d2.take 60)]) (B2 := splitB (centsR s1 (n1.take 60) (d1.take 60)) [(s2, n2.take 60, d2.take 60)]) w ht hr (fun W hT => sanity4 W hT) C_cut C_cut (C_mOf hc.1 hc.2 iT) (C_r4Of hc.1 hc.2 iT)
  (fun V p m q hT hr => split_any 60 _ p m q V hT hr (by rw [← hr.len]; omega) (by omega) (by omega) hcT (by decide) (by rw [← hr.len]; omega) hz)
  (fun V p m q hT hr => rSplit_any (K := 60) V hT hr (by decide) (by decide) (by rw [← hr.len]; omega) (by rw [← hr.len]; omega) hz (by omega) (by omega) hcT)
  (fun V p m q hT hr => split_any 60 _ p m q V hT hr (by rw [← hr.len]; simp) (by omega) (by omega) rfl (by decide) (by rw [← hr.len]; simp) hz1)
  (fun V p m q hT hr => rSplit_any (K := 60) V hT hr (by decide) (by decide) (by rw [← hr.len]; simp) (by rw [← hr.len]; simp) hz1 (by omega) (by omega) rfl)
  (rounds_raw l1 l2 l3 l4) ?_
 cases h : splitB (some c0) ((l.take 6).map ct) with
 | false => rw [splitL_no h]; simp
 | true => rw [prt_splitL h, prt_len, whl_len]; omega
end Go.Proofs.YtkeomlpecjjhiaaGreatDoor
