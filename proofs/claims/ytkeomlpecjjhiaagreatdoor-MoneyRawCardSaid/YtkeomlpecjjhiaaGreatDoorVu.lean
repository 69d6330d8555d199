/- The reference of layer 4: Split: the walk where something is divided. -/
import Derived.Test.YtkeomlpecjjhiaaGreatDoorVt
namespace Go.Proofs.YtkeomlpecjjhiaaGreatDoor
open Go.RowKit Go.Shelf
def bstI : Option Nat → Int
 | none => -1
 | some x => x
def Ysr (w : World) (n : Nat) (RR : List T3) (e : Ending) (w' : World) : Prop := ∃ p' c', e = .returned (.tuple #[.slice p' n c', .bool true]) ∧ Rs w' p' n RR ∧ Ch w.heap.size none1 w w'
section
variable {n k : Nat} {RR P : List T3} {a r : T3}
theorem tt_at (hR : RR.length = n) (hP : P.length = n) (hk : k < n) : (RR.take k ++ P.drop k)[k]? = P[k]? := by
 have : (RR.take k).length = k := by rw [List.length_take]; omega
 rw [List.getElem?_append_right (by omega), this, Nat.sub_self, List.getElem?_drop, Nat.add_zero]
theorem tt_len (hR : RR.length = n) (hP : P.length = n) (hk : k < n) : (RR.take k ++ P.drop k).length = n := by
 rw [List.length_append, List.length_take, List.length_drop]
 omega
theorem tt_facts (hR : RR.length = n) (hP : P.length = n) (hk : k < n) (_ : P[k]? = some a) (hr : RR[k]? = some r) (b : T3) :
  (RR.take k ++ P.drop k).length = n ∧ ((RR.take k ++ P.drop k).set k b)[k]? = some b ∧ RR.take (k + 1) ++ P.drop (k + 1) = ((RR.take k ++ P.drop k).set k b).set k r := by
 have hl := tt_len hR hP hk
 refine ⟨hl, by rw [List.getElem?_set_self (by omega)], ?_⟩
 have h1 : (RR.take k).length = k := by rw [List.length_take]; omega
 rw [List.set_set, List.set_append_right (h := by omega), h1, Nat.sub_self, List.take_add_one, hr, List.drop_eq_getElem_cons (by omega : k < P.length), List.set_cons_zero]
 simp
theorem set_same {l : List T3} {t : T3} (h : l[k]? = some t) : l.set k t = l := by
 apply List.ext_getElem?
 intro q
 rw [List.getElem?_set]
 split
 ·rename_i e
  subst e
  rw [h, if_pos (List.getElem?_eq_some_iff.1 h).1]
 ·rfl
end
set_option maxRecDepth 100000 in
set_option maxHeartbeats 12800000 in
theorem split_walk {n c J : Nat} {p : Option Addr} {s neg : Bool} {m d x : List UInt8} {z : Int} {RR : List T3} {qq ff oo lf lg : Nat → T3} {PP : Nat → List T3} {f : Nat → Nat} (w : World) (ht : Tm w) (hn0 : 0 < n) (hn8 : n ≤ 100) (hneg : decide (z < 0) = neg)
  (hce : AnsM 49 #[Rv s m d] (.tuple #[.int .i64 z, .bool true]))
  (hsh : ∀ V, Ch w.heap.size none1 w V → Calls Tryz.prog 61 #[.slice p n c] V (Yld V (.bool true)))
  (hof : Ans 17 #[.int .i64 z] (Rv neg x [1]))
  (hng : neg = true → Ans 44 #[Rv neg x [1]] (Rv false x [1]))
  (hqu : ∀ k, k < n → ∀ V, Ch w.heap.size none1 w V → Calls Tryz.prog 37 #[Rv false x [1], .slice p n c, .int .i64 k] V (Yld V (Tv (qq k))))
  (hfl : ∀ k, k < n → AnsM 62 #[Tv (qq k)] (Tv (ff k)))
  (hsb : ∀ k, k < n → Ans 27 #[Tv (qq k), Tv (ff k)] (Tv (oo k)))
  (hl0 : lf 0 = (false, x, [1]))
  (hlf : ∀ k, k < n → Ans 27 #[Tv (lf k), Tv (ff k)] (Tv (lf (k + 1))))
  (hg0 : lg 0 = lf n) (_ : J ≤ n)
  (hsg : ∀ j, j ≤ J → ∃ y, Ans 35 #[Tv (lg j)] (.int .i64 y) ∧ (0 < y ↔ j < J))
  (hone : Ans 17 #[.int .i64 1] (Rv false [1] [1]))
  (hlg : ∀ j, j < J → Ans 27 #[Tv (lg j), Rv false [1] [1]] (Tv (lg (j + 1))))
  (hcm : ∀ i k, i < n → k < n → ∃ y, Ans 28 #[Tv (oo i), Tv (oo k)] (.int .i64 y) ∧ (0 < y ↔ f k < f i))
  (hp0 : PP 0 = (List.range n).map ff) (hpl : ∀ j, (PP j).length = n)
  (hpp : ∀ j i, j < J → (srv f n)[j]? = some i → ∃ a b, (PP j)[i]? = some a ∧ Ans 32 #[Tv a, Rv false [1] [1]] (Tv b) ∧ PP (j + 1) = (PP j).set i b)
  (hend : ∀ k, k < n → ∃ a b r, (PP J)[k]? = some a ∧ ((neg = false ∧ b = a) ∨ (neg = true ∧ Ans 44 #[Tv a] (Tv b))) ∧ Ans 16 #[Tv b, Rv false [1] [100]] (Tv r) ∧ RR[k]? = some r)
  (hrr : RR.length = n) :
  Calls Tryz.prog 21 #[Rv s m d, .slice p n c] w (Ysr w n RR) := by
 have hn9 : (n : Int) ≤ 100 := by omega
 have HCE := Lib.hid hce
 have HSH := Lib.hid hsh
 have HOF := Lib.hid hof
 have HNG := Lib.hid hng
 have HL0 := Lib.hid hl0
 have HG0 := Lib.hid hg0
 have HP0 := Lib.hid hp0
 have HSG := Lib.hid hsg
 have HON := Lib.hid hone
 have HPN := Lib.hid hpl
 have HRL := Lib.hid hrr
 have HZN := Lib.hid hneg
 have HR1 := Lib.hid (show ∀ k, k < n → ∃ sq nq dq sf nf df so mo eo s0 n0 d0 s1 n1 d1, (∀ V, Ch w.heap.size none1 w V → Calls Tryz.prog 37 #[Rv false x [1], .slice p n c, .int .i64 k] V (Yld V (Rv sq nq dq))) ∧ AnsM 62 #[Rv sq nq dq] (Rv sf nf df) ∧ Ans 27 #[Rv sq nq dq, Rv sf nf df] (Rv so mo eo) ∧ lf k = (s0, n0, d0) ∧ Ans 27 #[Rv s0 n0 d0, Rv sf nf df] (Rv s1 n1 d1) ∧ lf (k + 1) = (s1, n1, d1) ∧ (List.range (k + 1)).map ff = (List.range k).map ff ++ [(sf, nf, df)] ∧ (List.range (k + 1)).map oo = (List.range k).map oo ++ [(so, mo, eo)] from
  fun k hk => ⟨(qq k).1, (qq k).2.1, (qq k).2.2, (ff k).1, (ff k).2.1, (ff k).2.2, (oo k).1, (oo k).2.1, (oo k).2.2, (lf k).1, (lf k).2.1, (lf k).2.2, (lf (k + 1)).1, (lf (k + 1)).2.1, (lf (k + 1)).2.2, hqu k hk, hfl k hk, hsb k hk, rfl, hlf k hk, rfl, by rw [List.range_succ, List.map_append]; rfl, by rw [List.range_succ, List.map_append]; rfl⟩)
 have HR2 := Lib.hid (show ∀ j i, j < J → (srv f n)[j]? = some i → ∀ {s0 n0 d0}, lg j = (s0, n0, d0) → ∃ sa na da sb mb db s1 n1 d1, (PP j)[i]? = some (sa, na, da) ∧ Ans 32 #[Rv sa na da, Rv false [1] [1]] (Rv sb mb db) ∧ PP (j + 1) = (PP j).set i (sb, mb, db) ∧ Ans 27 #[Rv s0 n0 d0, Rv false [1] [1]] (Rv s1 n1 d1) ∧ lg (j + 1) = (s1, n1, d1) from
  fun j i hj hi s0 n0 d0 hl => by
   obtain ⟨⟨sa, na, da⟩, ⟨sb, mb, db⟩, h1, h2, h3⟩ := hpp j i hj hi
   have h4 := hlg j hj
   rw [hl] at h4
   exact ⟨sa, na, da, sb, mb, db, (lg (j + 1)).1, (lg (j + 1)).2.1, (lg (j + 1)).2.2, h1, h2, h3, h4, rfl⟩)
 have HCM := Lib.hid (show ∀ i k, i < n → k < n → ∃ si ni di sx nx dx y, ((List.range n).map oo)[i]? = some (si, ni, di) ∧ ((List.range n).map oo)[k]? = some (sx, nx, dx) ∧ Ans 28 #[Rv si ni di, Rv sx nx dx] (.int .i64 y) ∧ (0 < y ↔ f k < f i) from
  fun i k hi hk => by
   obtain ⟨y, h1, h2⟩ := hcm i k hi hk
   exact ⟨(oo i).1, (oo i).2.1, (oo i).2.2, (oo k).1, (oo k).2.1, (oo k).2.2, y, by rw [List.getElem?_map, List.getElem?_range hi]; rfl, by rw [List.getElem?_map, List.getElem?_range hk]; rfl, h1, h2⟩)
 have HR4 := Lib.hid (show ∀ k, k < n → ∃ sa na da sb mb db se me de, (PP J)[k]? = some (sa, na, da) ∧ ((neg = false ∧ (sb, mb, db) = (sa, na, da)) ∨ (neg = true ∧ Ans 44 #[Rv sa na da] (Rv sb mb db))) ∧ Ans 16 #[Rv sb mb db, Rv false [1] [100]] (Rv se me de) ∧ RR[k]? = some (se, me, de) from
  fun k hk => by
   obtain ⟨⟨sa, na, da⟩, ⟨sb, mb, db⟩, ⟨se, me, de⟩, h1, h2, h3, h4⟩ := hend k hk
   exact ⟨sa, na, da, sb, mb, db, se, me, de, h1, h2, h3, h4⟩)
 have HCN := Lib.hid C_rcent
 have HT0 := Lib.hid (show ((List.range n).map fun i => Value.bool (decide (i ∈ (srv f n).take 0))) = List.replicate n (Value.bool false) by
  apply List.ext_getElem?
  intro q
  by_cases hq : q < n
  ·rw [List.getElem?_map, List.getElem?_range hq, List.getElem?_replicate, if_pos hq]
   rfl
  ·rw [List.getElem?_eq_none (by rw [List.length_map, List.length_range]; omega), List.getElem?_eq_none (by rw [List.length_replicate]; omega)])
 have hmk : ∀ W : World, (Instr.makeSlice 73 (.int .i64 (n : Int)) (.int .i64 (n : Int))).run Tryz.prog W = .ok (.slice (some ⟨W.heap.size, 0, none⟩) n n) (W.alloc (.cells (madeCells #[.bool false] n) 4)) := fun W => by
  have hinf : (Tryz.prog.info? 4).map (fun i => (i.zero, i.size, i.bytes)) = some (some (.bool false), 1, 1) := by kernel_rfl
  obtain ⟨i0, hi, hz0, hz1, hz2⟩ := info_parts hinf
  have h := run_make (P := Tryz.prog) W 73 4 i0 (.bool false) Tryz.underlying73 hi hz0 .i64 .i64 n n (by omega) (Int.le_refl _) (by rw [hz2]; omega) (by omega)
  rw [hz1] at h
  simp only [Int.toNat_natCast, Nat.mul_one] at h
  exact h
 obtain ⟨i0, hi0, hz0, hz1, hz2⟩ := info_parts rat_info
 clear hce hsh hof hng hl0 hg0 hp0 hsg hone hqu hfl hsb hlf hlg hcm hpp hend hpl hrr hneg
 have HT := Lib.hid ht
 have HK := Lib.hid ((Kq.nil w).new #[.bool s, S m, S d] 26)
 obtain ⟨B, hB⟩ : ∃ B, w.heap.size = B := ⟨_, rfl⟩
 rw [hB] at HK
 have HBB := Lib.hid hB
 clear ht
 have HF1 := Lib.hid (show ∀ W, Kq w W [(B, 26, [.bool s, S m, S d])] → W.cell? ⟨B, 0, none⟩ = some (.bool s) ∧ W.cell? ⟨B, 1, none⟩ = some (S m) ∧ W.cell? ⟨B, 2, none⟩ = some (S d) from fun W h => ⟨(h.row _ mm0).cell 0, (h.row _ mm0).cell 1, (h.row _ mm0).cell 2⟩)
 obtain ⟨cc0, cc1, cc2⟩ := HF1.out _ HK.out
 go_enter Tryz.func21, Tryz.ntmps21
 go_wp2_with fail
 clear hB
 refine (HCE.out _ (HT.out.ch HK.out.ch)).mono ?_
 rintro e w1 ⟨rfl, hC⟩
 replace HK := Lib.hid (HK.out.on hC)
 clear hC cc0 cc1 cc2
 obtain ⟨cc0, cc1, cc2⟩ := HF1.out _ HK.out
 go_wp2_with fail
 refine (HSH.out _ HK.out.ch).mono ?_
 rintro e w2 ⟨rfl, hC⟩
 replace HK := Lib.hid (HK.out.on hC)
 clear hC cc0 cc1 cc2
 obtain ⟨cc0, cc1, cc2⟩ := HF1.out _ HK.out
 go_wp2_with fail
 refine (HOF.out _).mono ?_
 rintro e w3 ⟨rfl, hC⟩
 replace HK := Lib.hid (HK.out.on hC)
 clear hC cc0 cc1 cc2
 obtain ⟨cc0, cc1, cc2⟩ := HF1.out _ HK.out
 go_upto_if 36 with fail
 have hb1 : w.heap.size ≤ w3.heap.size := HK.out.ch.size
 clear cc0 cc1 cc2
 have HK2 := Lib.hid (HK.out.new #[.bool neg, S x, S [1]] 26)
 obtain ⟨w4, hW⟩ : ∃ W, w3.alloc (.cells #[.bool neg, S x, S [1]] 26 (0, 0)) = W := ⟨_, rfl⟩
 rw [hW] at HK2 ⊢
 obtain ⟨LA, hA⟩ : ∃ A, w3.heap.size = A := ⟨_, rfl⟩
 rw [hA] at HK2 ⊢
 rw [hA] at hb1
 clear hA hW HK
 have HK := HK2
 clear HK2
 have HF2 := Lib.hid (show ∀ W, Kq w W [(LA, 26, [.bool neg, S x, S [1]]), (B, 26, [.bool s, S m, S d])] → W.cell? ⟨LA, 0, none⟩ = some (.bool neg) ∧ W.cell? ⟨LA, 1, none⟩ = some (S x) ∧ W.cell? ⟨LA, 2, none⟩ = some (S [1]) ∧ W.cell? ⟨B, 0, none⟩ = some (.bool s) ∧ W.cell? ⟨B, 1, none⟩ = some (S m) ∧ W.cell? ⟨B, 2, none⟩ = some (S d) from fun W h => ⟨(h.row _ mm0).cell 0, (h.row _ mm0).cell 1, (h.row _ mm0).cell 2, (h.row _ mm1).cell 0, (h.row _ mm1).cell 1, (h.row _ mm1).cell 2⟩)
 obtain ⟨cc0, cc1, cc2, cc3, cc4, cc5⟩ := HF2.out _ HK.out
 replace HK := Lib.hid (Kq.sub (l' := [(LA, 26, [.bool neg, S x, S [1]])]) HK.out (by intro p hp; obtain rfl := List.mem_singleton.1 hp; simp))
 clear  cc0 cc1 cc2 cc3 cc4 cc5
 go_cut [] from 35 to 38 (fun wx => Kq w wx [(LA, 26, [.bool false, S x, S [1]])])
 case first =>
  rcases neg with _ | _
  ·have HF21 := Lib.hid (show ∀ W, Kq w W [(LA, 26, [.bool false, S x, S [1]])] → W.cell? ⟨LA, 0, none⟩ = some (.bool false) ∧ W.cell? ⟨LA, 1, none⟩ = some (S x) ∧ W.cell? ⟨LA, 2, none⟩ = some (S [1]) from fun W h => ⟨(h.row _ mm0).cell 0, (h.row _ mm0).cell 1, (h.row _ mm0).cell 2⟩)
   obtain ⟨cc0, cc1, cc2⟩ := HF21.out _ HK.out
   go_wp2_with fail
   go_meet
   exact HK.out
  ·have HF21 := Lib.hid (show ∀ W, Kq w W [(LA, 26, [.bool true, S x, S [1]])] → W.cell? ⟨LA, 0, none⟩ = some (.bool true) ∧ W.cell? ⟨LA, 1, none⟩ = some (S x) ∧ W.cell? ⟨LA, 2, none⟩ = some (S [1]) from fun W h => ⟨(h.row _ mm0).cell 0, (h.row _ mm0).cell 1, (h.row _ mm0).cell 2⟩)
   obtain ⟨cc0, cc1, cc2⟩ := HF21.out _ HK.out
   go_wp2_with fail
   refine (HNG.out (by trivial) _).mono ?_
   rintro e w21 ⟨rfl, hC⟩
   replace HK := Lib.hid (HK.out.on hC)
   clear hC cc0 cc1 cc2
   obtain ⟨cc0, cc1, cc2⟩ := HF21.out _ HK.out
   clear cc0 cc1 cc2
   have e0 := (HK.out.row _ mm0).cell 0
   have f0 := (HK.out.row _ mm0).frozen 0
   have e1 := (HK.out.row _ mm0).cell 1
   have f1 := (HK.out.row _ mm0).frozen 1
   have e2 := (HK.out.row _ mm0).cell 2
   have f2 := (HK.out.row _ mm0).frozen 2
   simp only [List.getElem?_cons_zero, List.getElem?_cons_succ] at e0 e1 e2
   go_wp2_with fail
   go_meet
   exact HK.out.put3 (by omega) (fun p hp => by cases hp) (.bool false) (S x) (S [1])
 case rest =>
  have HK2 := Lib.hid hcut
  clear hcut HK
  have HK := HK2
  clear HK2
  have HF41 := Lib.hid (show ∀ W, Kq w W [(LA, 26, [.bool false, S x, S [1]])] → W.cell? ⟨LA, 0, none⟩ = some (.bool false) ∧ W.cell? ⟨LA, 1, none⟩ = some (S x) ∧ W.cell? ⟨LA, 2, none⟩ = some (S [1]) from fun W h => ⟨(h.row _ mm0).cell 0, (h.row _ mm0).cell 1, (h.row _ mm0).cell 2⟩)
  obtain ⟨cc0, cc1, cc2⟩ := HF41.out _ HK.out
  go_wp2_with fail
  have hb2 : LA < wc.heap.size := (HK.out.row _ mm0).lt
  clear cc0 cc1 cc2
  have HK2 := Lib.hid (HK.out.new #[.bool false, S x, S [1]] 26)
  obtain ⟨w41, hW⟩ : ∃ W, wc.alloc (.cells #[.bool false, S x, S [1]] 26 (0, 0)) = W := ⟨_, rfl⟩
  rw [hW] at HK2 ⊢
  obtain ⟨LB, hA⟩ : ∃ A, wc.heap.size = A := ⟨_, rfl⟩
  rw [hA] at HK2 ⊢
  rw [hA] at hb2
  clear hA hW HK
  have HK := HK2
  clear HK2
  have HF42 := Lib.hid (show ∀ W, Kq w W [(LB, 26, [.bool false, S x, S [1]]), (LA, 26, [.bool false, S x, S [1]])] → W.cell? ⟨LB, 0, none⟩ = some (.bool false) ∧ W.cell? ⟨LB, 1, none⟩ = some (S x) ∧ W.cell? ⟨LB, 2, none⟩ = some (S [1]) ∧ W.cell? ⟨LA, 0, none⟩ = some (.bool false) ∧ W.cell? ⟨LA, 1, none⟩ = some (S x) ∧ W.cell? ⟨LA, 2, none⟩ = some (S [1]) from fun W h => ⟨(h.row _ mm0).cell 0, (h.row _ mm0).cell 1, (h.row _ mm0).cell 2, (h.row _ mm1).cell 0, (h.row _ mm1).cell 1, (h.row _ mm1).cell 2⟩)
  obtain ⟨cc0, cc1, cc2, cc3, cc4, cc5⟩ := HF42.out _ HK.out
  clear cc0 cc1 cc2 cc3 cc4 cc5
  obtain ⟨G, hG⟩ : ∃ G, w41.heap.size = G := ⟨_, rfl⟩
  have hb3 : LB < G := by rw [← hG]; exact (HK.out.row _ mm0).lt
  have hb4 := Nat.le_of_eq hG.symm
  have HBL := Lib.hid (show w.heap.size ≤ LB ∧ True from ⟨by omega, trivial⟩)
  clear hG
  go_loopw [10, 11, 13] (fun P O a wr => ∃ k : Nat, k ≤ n ∧ a = .int .i64 k ∧ L2 w wr G [(LB, 26, [.bool (lf k).1, S (lf k).2.1, S (lf k).2.2]), (LA, 26, [.bool false, S x, S [1]])] P O k k ((List.range k).map ff) ((List.range k).map oo)) (fun _ _ a _ => n - (intOf a).toNat)
  case atStart => exact ⟨0, Nat.zero_le _, rfl, by rw [HL0.out]; exact L2.start HK.out (by omega) hb4⟩
  case round =>
   clear HK hb4
   obtain ⟨k, hk, rfl, hKK⟩ := hrel
   have hk0 : 0 ≤ (k : Int) := by omega
   by_cases hlt : k < n
   ·have hkl : (k : Int) < (n : Int) := by omega
    have hkd : decide ((k : Int) < (n : Int)) = true := decide_eq_true hkl
    obtain ⟨sq, nq, dq, sf, nf, df, so, mo, eo, s0, n0, d0, s1, n1, d1, hqu, hfl, hsb, hle, hls, hl1, hlp, hlo⟩ := HR1.out k hlt
    rw [hle] at hKK
    have HK := Lib.hid hKK
    have HQU := Lib.hid hqu
    have HFL := Lib.hid hfl
    have HSB := Lib.hid hsb
    have HLS := Lib.hid hls
    have HL1 := Lib.hid hl1
    have HLP := Lib.hid hlp
    have HLO := Lib.hid hlo
    clear hKK hqu hfl hsb hle hls hl1 hlp hlo
    have HF101 := Lib.hid (show ∀ W, Kq w W [(LB, 26, [.bool s0, S n0, S d0]), (LA, 26, [.bool false, S x, S [1]])] → W.cell? ⟨LB, 0, none⟩ = some (.bool s0) ∧ W.cell? ⟨LB, 1, none⟩ = some (S n0) ∧ W.cell? ⟨LB, 2, none⟩ = some (S d0) ∧ W.cell? ⟨LA, 0, none⟩ = some (.bool false) ∧ W.cell? ⟨LA, 1, none⟩ = some (S x) ∧ W.cell? ⟨LA, 2, none⟩ = some (S [1]) from fun W h => ⟨(h.row _ mm0).cell 0, (h.row _ mm0).cell 1, (h.row _ mm0).cell 2, (h.row _ mm1).cell 0, (h.row _ mm1).cell 1, (h.row _ mm1).cell 2⟩)
    obtain ⟨cc0, cc1, cc2, cc3, cc4, cc5⟩ := HF101.out _ HK.out.kq
    go_wp2_with fail
    refine (HQU.out _ HK.out.ch).mono ?_
    rintro e w101 ⟨rfl, hC⟩
    replace HK := Lib.hid (HK.out.on hC)
    clear hC cc0 cc1 cc2 cc3 cc4 cc5
    obtain ⟨cc0, cc1, cc2, cc3, cc4, cc5⟩ := HF101.out _ HK.out.kq
    obtain ⟨dd0, dd1, dd2, dd3, dd4, dd5⟩ : (∀ o : Obj, (w101.alloc o).cell? ⟨LB, 0, none⟩ = some (.bool s0)) ∧ (∀ o : Obj, (w101.alloc o).cell? ⟨LB, 1, none⟩ = some (S n0)) ∧ (∀ o : Obj, (w101.alloc o).cell? ⟨LB, 2, none⟩ = some (S d0)) ∧ (∀ o : Obj, (w101.alloc o).cell? ⟨LA, 0, none⟩ = some (.bool false)) ∧ (∀ o : Obj, (w101.alloc o).cell? ⟨LA, 1, none⟩ = some (S x)) ∧ (∀ o : Obj, (w101.alloc o).cell? ⟨LA, 2, none⟩ = some (S [1])) := by
     have hall := fun o : Obj => HF101.out _ (HK.out.other o).kq
     exact ⟨fun o => (hall o).1, fun o => (hall o).2.1, fun o => (hall o).2.2.1, fun o => (hall o).2.2.2.1, fun o => (hall o).2.2.2.2.1, fun o => (hall o).2.2.2.2.2⟩
    go_wp2_with fail
    clear cc0 cc1 cc2 cc3 cc4 cc5 dd0 dd1 dd2 dd3 dd4 dd5
    have HK2 := Lib.hid (HK.out.new #[.bool sq, S nq, S dq] 26)
    obtain ⟨w102, hW⟩ : ∃ W, w101.alloc (.cells #[.bool sq, S nq, S dq] 26 (0, 0)) = W := ⟨_, rfl⟩
    rw [hW] at HK2 ⊢
    obtain ⟨Q, hA⟩ : ∃ A, w101.heap.size = A := ⟨_, rfl⟩
    rw [hA] at HK2 ⊢
    clear hA hW HK
    have HK := HK2
    clear HK2
    have HF102 := Lib.hid (show ∀ W, Kq w W [(Q, 26, [.bool sq, S nq, S dq]), (LB, 26, [.bool s0, S n0, S d0]), (LA, 26, [.bool false, S x, S [1]])] → W.cell? ⟨Q, 0, none⟩ = some (.bool sq) ∧ W.cell? ⟨Q, 1, none⟩ = some (S nq) ∧ W.cell? ⟨Q, 2, none⟩ = some (S dq) ∧ W.cell? ⟨LB, 0, none⟩ = some (.bool s0) ∧ W.cell? ⟨LB, 1, none⟩ = some (S n0) ∧ W.cell? ⟨LB, 2, none⟩ = some (S d0) ∧ W.cell? ⟨LA, 0, none⟩ = some (.bool false) ∧ W.cell? ⟨LA, 1, none⟩ = some (S x) ∧ W.cell? ⟨LA, 2, none⟩ = some (S [1]) from fun W h => ⟨(h.row _ mm0).cell 0, (h.row _ mm0).cell 1, (h.row _ mm0).cell 2, (h.row _ mm1).cell 0, (h.row _ mm1).cell 1, (h.row _ mm1).cell 2, (h.row _ mm2).cell 0, (h.row _ mm2).cell 1, (h.row _ mm2).cell 2⟩)
    obtain ⟨cc0, cc1, cc2, cc3, cc4, cc5, cc6, cc7, cc8⟩ := HF102.out _ HK.out.kq
    go_wp2_with fail
    refine (HFL.out _ (HT.out.ch HK.out.ch)).mono ?_
    rintro e w103 ⟨rfl, hC⟩
    replace HK := Lib.hid (HK.out.on hC)
    clear hC cc0 cc1 cc2 cc3 cc4 cc5 cc6 cc7 cc8
    obtain ⟨cc0, cc1, cc2, cc3, cc4, cc5, cc6, cc7, cc8⟩ := HF102.out _ HK.out.kq
    obtain ⟨dd0, dd1, dd2, dd3, dd4, dd5, dd6, dd7, dd8⟩ : (∀ o : Obj, (w103.alloc o).cell? ⟨Q, 0, none⟩ = some (.bool sq)) ∧ (∀ o : Obj, (w103.alloc o).cell? ⟨Q, 1, none⟩ = some (S nq)) ∧ (∀ o : Obj, (w103.alloc o).cell? ⟨Q, 2, none⟩ = some (S dq)) ∧ (∀ o : Obj, (w103.alloc o).cell? ⟨LB, 0, none⟩ = some (.bool s0)) ∧ (∀ o : Obj, (w103.alloc o).cell? ⟨LB, 1, none⟩ = some (S n0)) ∧ (∀ o : Obj, (w103.alloc o).cell? ⟨LB, 2, none⟩ = some (S d0)) ∧ (∀ o : Obj, (w103.alloc o).cell? ⟨LA, 0, none⟩ = some (.bool false)) ∧ (∀ o : Obj, (w103.alloc o).cell? ⟨LA, 1, none⟩ = some (S x)) ∧ (∀ o : Obj, (w103.alloc o).cell? ⟨LA, 2, none⟩ = some (S [1])) := by
     have hall := fun o : Obj => HF102.out _ (HK.out.other o).kq
     exact ⟨fun o => (hall o).1, fun o => (hall o).2.1, fun o => (hall o).2.2.1, fun o => (hall o).2.2.2.1, fun o => (hall o).2.2.2.2.1, fun o => (hall o).2.2.2.2.2.1, fun o => (hall o).2.2.2.2.2.2.1, fun o => (hall o).2.2.2.2.2.2.2.1, fun o => (hall o).2.2.2.2.2.2.2.2⟩
    go_upto_region 15 with fail
    clear cc0 cc1 cc2 cc3 cc4 cc5 cc6 cc7 cc8 dd0 dd1 dd2 dd3 dd4 dd5 dd6 dd7 dd8
    have HK2 := Lib.hid (HK.out.new #[.bool sf, S nf, S df] 26)
    obtain ⟨w104, hW⟩ : ∃ W, w103.alloc (.cells #[.bool sf, S nf, S df] 26 (0, 0)) = W := ⟨_, rfl⟩
    rw [hW] at HK2 ⊢
    obtain ⟨F, hA⟩ : ∃ A, w103.heap.size = A := ⟨_, rfl⟩
    rw [hA] at HK2 ⊢
    clear hA hW HK
    have HK := HK2
    clear HK2
    have HF103 := Lib.hid (show ∀ W, Kq w W [(F, 26, [.bool sf, S nf, S df]), (Q, 26, [.bool sq, S nq, S dq]), (LB, 26, [.bool s0, S n0, S d0]), (LA, 26, [.bool false, S x, S [1]])] → W.cell? ⟨F, 0, none⟩ = some (.bool sf) ∧ W.cell? ⟨F, 1, none⟩ = some (S nf) ∧ W.cell? ⟨F, 2, none⟩ = some (S df) ∧ W.cell? ⟨Q, 0, none⟩ = some (.bool sq) ∧ W.cell? ⟨Q, 1, none⟩ = some (S nq) ∧ W.cell? ⟨Q, 2, none⟩ = some (S dq) ∧ W.cell? ⟨LB, 0, none⟩ = some (.bool s0) ∧ W.cell? ⟨LB, 1, none⟩ = some (S n0) ∧ W.cell? ⟨LB, 2, none⟩ = some (S d0) ∧ W.cell? ⟨LA, 0, none⟩ = some (.bool false) ∧ W.cell? ⟨LA, 1, none⟩ = some (S x) ∧ W.cell? ⟨LA, 2, none⟩ = some (S [1]) from fun W h => ⟨(h.row _ mm0).cell 0, (h.row _ mm0).cell 1, (h.row _ mm0).cell 2, (h.row _ mm1).cell 0, (h.row _ mm1).cell 1, (h.row _ mm1).cell 2, (h.row _ mm2).cell 0, (h.row _ mm2).cell 1, (h.row _ mm2).cell 2, (h.row _ mm3).cell 0, (h.row _ mm3).cell 1, (h.row _ mm3).cell 2⟩)
    obtain ⟨cc0, cc1, cc2, cc3, cc4, cc5, cc6, cc7, cc8, cc9, cc10, cc11⟩ := HF103.out _ HK.out.kq
    go_upto_region 16 with (at_builtin; refine wpList_append_own_at _ rfl _ _ 32 rfl G 26 i0 (.agg #[.bool false, S [], S []]) 3 40 Tryz.underlying32 hi0 hz0 hz1 hz2 rfl (by decide) u10 k (rcs ((List.range k).map ff)) rfl (HK.out.other _).po ⟨w104.heap.size, 0, none⟩ 1 1 (rc (sf, nf, df)) rfl rfl (rat_news w104 (sf, nf, df)) (rc_one (sf, nf, df)) (by unfold maxLen; omega) (by omega) (HK.out.other _).gg ?_; intro P1 w5 hown' hgr hnil hat)
    clear cc0 cc1 cc2 cc3 cc4 cc5 cc6 cc7 cc8 cc9 cc10 cc11
    replace HK := Lib.hid ((HK.out.other (.cells #[.bool sf, S nf, S df] 26 (0, 0))).grow1 (PL' := ((List.range (k + 1)).map ff)) (by rw [HLP.out, rcs_append]; exact hown') hgr hat)
    clear hown' hgr hnil hat
    have HF104 := Lib.hid (show ∀ W, Kq w W [(F, 26, [.bool sf, S nf, S df]), (Q, 26, [.bool sq, S nq, S dq]), (LB, 26, [.bool s0, S n0, S d0]), (LA, 26, [.bool false, S x, S [1]])] → W.cell? ⟨F, 0, none⟩ = some (.bool sf) ∧ W.cell? ⟨F, 1, none⟩ = some (S nf) ∧ W.cell? ⟨F, 2, none⟩ = some (S df) ∧ W.cell? ⟨Q, 0, none⟩ = some (.bool sq) ∧ W.cell? ⟨Q, 1, none⟩ = some (S nq) ∧ W.cell? ⟨Q, 2, none⟩ = some (S dq) ∧ W.cell? ⟨LB, 0, none⟩ = some (.bool s0) ∧ W.cell? ⟨LB, 1, none⟩ = some (S n0) ∧ W.cell? ⟨LB, 2, none⟩ = some (S d0) ∧ W.cell? ⟨LA, 0, none⟩ = some (.bool false) ∧ W.cell? ⟨LA, 1, none⟩ = some (S x) ∧ W.cell? ⟨LA, 2, none⟩ = some (S [1]) from fun W h => ⟨(h.row _ mm0).cell 0, (h.row _ mm0).cell 1, (h.row _ mm0).cell 2, (h.row _ mm1).cell 0, (h.row _ mm1).cell 1, (h.row _ mm1).cell 2, (h.row _ mm2).cell 0, (h.row _ mm2).cell 1, (h.row _ mm2).cell 2, (h.row _ mm3).cell 0, (h.row _ mm3).cell 1, (h.row _ mm3).cell 2⟩)
    obtain ⟨cc0, cc1, cc2, cc3, cc4, cc5, cc6, cc7, cc8, cc9, cc10, cc11⟩ := HF104.out _ HK.out.kq
    go_wp2_with fail
    refine (HSB.out _).mono ?_
    rintro e w105 ⟨rfl, hC⟩
    replace HK := Lib.hid (HK.out.on hC)
    clear hC cc0 cc1 cc2 cc3 cc4 cc5 cc6 cc7 cc8 cc9 cc10 cc11
    obtain ⟨cc0, cc1, cc2, cc3, cc4, cc5, cc6, cc7, cc8, cc9, cc10, cc11⟩ := HF104.out _ HK.out.kq
    go_upto_region 17 with (at_builtin; refine wpList_append_own_at _ rfl _ _ 32 rfl G 26 i0 (.agg #[.bool false, S [], S []]) 3 40 Tryz.underlying32 hi0 hz0 hz1 hz2 rfl (by decide) u11 k (rcs ((List.range k).map oo)) rfl (HK.out.other _).oo ⟨w105.heap.size, 0, none⟩ 1 1 (rc (so, mo, eo)) rfl rfl (rat_news w105 (so, mo, eo)) (rc_one (so, mo, eo)) (by unfold maxLen; omega) (by omega) (HK.out.other _).gg ?_; intro O1 w7 hown' hgr hnil hat)
    clear cc0 cc1 cc2 cc3 cc4 cc5 cc6 cc7 cc8 cc9 cc10 cc11
    replace HK := Lib.hid ((HK.out.other (.cells #[.bool so, S mo, S eo] 26 (0, 0))).grow2 (OL' := ((List.range (k + 1)).map oo)) (by rw [HLO.out, rcs_append]; exact hown') hgr hat)
    clear hown' hgr hnil hat
    have HF105 := Lib.hid (show ∀ W, Kq w W [(F, 26, [.bool sf, S nf, S df]), (Q, 26, [.bool sq, S nq, S dq]), (LB, 26, [.bool s0, S n0, S d0]), (LA, 26, [.bool false, S x, S [1]])] → W.cell? ⟨F, 0, none⟩ = some (.bool sf) ∧ W.cell? ⟨F, 1, none⟩ = some (S nf) ∧ W.cell? ⟨F, 2, none⟩ = some (S df) ∧ W.cell? ⟨Q, 0, none⟩ = some (.bool sq) ∧ W.cell? ⟨Q, 1, none⟩ = some (S nq) ∧ W.cell? ⟨Q, 2, none⟩ = some (S dq) ∧ W.cell? ⟨LB, 0, none⟩ = some (.bool s0) ∧ W.cell? ⟨LB, 1, none⟩ = some (S n0) ∧ W.cell? ⟨LB, 2, none⟩ = some (S d0) ∧ W.cell? ⟨LA, 0, none⟩ = some (.bool false) ∧ W.cell? ⟨LA, 1, none⟩ = some (S x) ∧ W.cell? ⟨LA, 2, none⟩ = some (S [1]) from fun W h => ⟨(h.row _ mm0).cell 0, (h.row _ mm0).cell 1, (h.row _ mm0).cell 2, (h.row _ mm1).cell 0, (h.row _ mm1).cell 1, (h.row _ mm1).cell 2, (h.row _ mm2).cell 0, (h.row _ mm2).cell 1, (h.row _ mm2).cell 2, (h.row _ mm3).cell 0, (h.row _ mm3).cell 1, (h.row _ mm3).cell 2⟩)
    obtain ⟨cc0, cc1, cc2, cc3, cc4, cc5, cc6, cc7, cc8, cc9, cc10, cc11⟩ := HF105.out _ HK.out.kq
    go_wp2_with fail
    refine (HLS.out _).mono ?_
    rintro e w106 ⟨rfl, hC⟩
    replace HK := Lib.hid (HK.out.on hC)
    clear hC cc0 cc1 cc2 cc3 cc4 cc5 cc6 cc7 cc8 cc9 cc10 cc11
    obtain ⟨cc0, cc1, cc2, cc3, cc4, cc5, cc6, cc7, cc8, cc9, cc10, cc11⟩ := HF105.out _ HK.out.kq
    clear cc0 cc1 cc2 cc3 cc4 cc5 cc6 cc7 cc8 cc9 cc10 cc11
    have e0 := (HK.out.row _ mm2).cell 0
    have f0 := (HK.out.row _ mm2).frozen 0
    have e1 := (HK.out.row _ mm2).cell 1
    have f1 := (HK.out.row _ mm2).frozen 1
    have e2 := (HK.out.row _ mm2).cell 2
    have f2 := (HK.out.row _ mm2).frozen 2
    simp only [List.getElem?_cons_zero, List.getElem?_cons_succ] at e0 e1 e2
    go_wp2_with fail
    clear e0 e1 e2 f0 f1 f2
    replace HK := Lib.hid (HK.out.sub (l' := [(LB, 26, [.bool s0, S n0, S d0]), (LA, 26, [.bool false, S x, S [1]])]) (by intro p hp; simp only [List.mem_cons, List.not_mem_nil, or_false] at hp ⊢; rcases hp with rfl | rfl <;> simp))
    replace HK := Lib.hid (HK.out.put3 (by have := HBL.out.1; omega) (by intro p hp; obtain rfl := List.mem_singleton.1 hp; simp only; omega) (.bool s1) (S n1) (S d1))
    go_roundw
    case rel =>
     refine ⟨k + 1, by omega, by go_num, ?_⟩
     rw [HL1.out]
     exact HK.out
    case measure => simp [intOf]; omega
   ·have hkn : n = k := by omega
    subst hkn
    have hkd : decide ((n : Int) < (n : Int)) = false := decide_eq_false (Int.lt_irrefl _)
    obtain ⟨gp, cp, sp, gr, cr, sr, rfl, rfl, hkk, hne, hgp, hgr, hnl, hlp, hlr⟩ := hKK.blks hn0 (by simp) (by simp)
    rw [← HG0.out, ← HP0.out] at hkk
    have HK := Lib.hid (Kq.sub (l' := [(gp, 26, (rcs (PP 0) ++ sp)), (gr, 26, (rcs ((List.range n).map oo) ++ sr)), (LB, 26, [.bool (lg 0).1, S (lg 0).2.1, S (lg 0).2.2])]) hkk (by intro p hp; simp only [List.mem_cons, List.not_mem_nil, or_false] at hp ⊢; rcases hp with rfl | rfl | rfl <;> simp))
    clear hKK hkk hnl
    go_wp2_with fail
    have HK2 := Lib.hid (HK.out.new (madeCells #[.bool false] n) 4)
    rw [toList_madeCells_one, ← HT0.out] at HK2
    obtain ⟨w9, hW⟩ : ∃ W, wr.alloc (.cells (madeCells #[.bool false] n) 4 (0, 0)) = W := ⟨_, rfl⟩
    obtain ⟨GT, hA⟩ : ∃ A, wr.heap.size = A := ⟨_, rfl⟩
    rw [hA, hW] at HK2
    rw [hA] at hlp hlr
    clear HK
    have HK := HK2
    clear HK2
    rw [hA, hW]
    clear hA hW
    replace HK := Lib.hid (HK.out.sub (l' := [(gp, 26, (rcs (PP 0) ++ sp)), (gr, 26, (rcs ((List.range n).map oo) ++ sr)), (GT, 4, ((List.range n).map fun i => Value.bool (decide (i ∈ (srv f n).take 0)))), (LB, 26, [.bool (lg 0).1, S (lg 0).2.1, S (lg 0).2.2])]) (by intro p hp; simp only [List.mem_cons, List.not_mem_nil, or_false] at hp ⊢; rcases hp with rfl | rfl | rfl | rfl <;> simp))
    go_loopg [] J (fun g wr => g ≤ J ∧ Kq w wr [(gp, 26, (rcs (PP (J - g)) ++ sp)), (gr, 26, (rcs ((List.range n).map oo) ++ sr)), (GT, 4, ((List.range n).map fun i => Value.bool (decide (i ∈ (srv f n).take (J - g))))), (LB, 26, [.bool (lg (J - g)).1, S (lg (J - g)).2.1, S (lg (J - g)).2.2])])
    case atStart => exact ⟨Nat.le_refl _, by rw [Nat.sub_self]; exact HK.out⟩
    case round =>
     clear HK
     obtain ⟨hgk, hKK⟩ := hrel
     obtain ⟨j, hj⟩ : ∃ j, J - gk = j := ⟨_, rfl⟩
     rw [hj] at hKK
     obtain ⟨v0, hsv, hvi⟩ := HSG.out j (by omega)
     obtain ⟨⟨s0, n0, d0⟩, hl⟩ : ∃ t, lg j = t := ⟨_, rfl⟩
     rw [hl] at hKK hsv
     have HK := Lib.hid hKK
     have HS := Lib.hid hsv
     have HPL := Lib.hid (HPN.out j)
     clear hKK hsv
     have HF201 := Lib.hid (show ∀ W, Kq w W [(gp, 26, (rcs (PP j) ++ sp)), (gr, 26, (rcs ((List.range n).map oo) ++ sr)), (GT, 4, ((List.range n).map fun i => Value.bool (decide (i ∈ (srv f n).take j)))), (LB, 26, [.bool s0, S n0, S d0])] → W.cell? ⟨LB, 0, none⟩ = some (.bool s0) ∧ W.cell? ⟨LB, 1, none⟩ = some (S n0) ∧ W.cell? ⟨LB, 2, none⟩ = some (S d0) from fun W h => ⟨(h.row _ mm3).cell 0, (h.row _ mm3).cell 1, (h.row _ mm3).cell 2⟩)
     obtain ⟨cc0, cc1, cc2⟩ := HF201.out _ HK.out
     go_wp2_with fail
     refine (HS.out _).mono ?_
     rintro e w201 ⟨rfl, hC⟩
     replace HK := Lib.hid (HK.out.on hC)
     clear hC cc0 cc1 cc2
     obtain ⟨cc0, cc1, cc2⟩ := HF201.out _ HK.out
     clear cc0 cc1 cc2
     by_cases hj2 : j < J
     ·have hvd : decide (0 < v0) = true := decide_eq_true (hvi.2 hj2)
      clear hvi HS
      go_wp2_with fail
      go_loopw [17, 18] (fun b k wi => ∃ (i : Nat) (o : Option Nat) (v : Int), i ≤ n ∧ k = .int .i64 i ∧ b = .int .i64 v ∧ v = bstI o ∧ Bst f (fun q => decide (q ∈ (srv f n).take j)) i o ∧ Kq w wi [(gp, 26, (rcs (PP j) ++ sp)), (gr, 26, (rcs ((List.range n).map oo) ++ sr)), (GT, 4, ((List.range n).map fun i => Value.bool (decide (i ∈ (srv f n).take j)))), (LB, 26, [.bool s0, S n0, S d0])]) (fun _ k _ => n - (intOf k).toNat)
      case atStart => exact ⟨0, none, -1, Nat.zero_le _, rfl, rfl, rfl, Bst.start _ _, HK.out⟩
      case round =>
       clear HK
       obtain ⟨i, o, v, hi, rfl, rfl, hv, hbs, hKK⟩ := hrel
       have HK := Lib.hid hKK
       have HBS := Lib.hid hbs
       have HV := Lib.hid hv
       clear hKK hbs hv
       have hi0 : 0 ≤ (i : Int) := by omega
       by_cases hilt : i < n
       ·have hil : (i : Int) < (n : Int) := by omega
        have hid : decide ((i : Int) < (n : Int)) = true := decide_eq_true hil
        obtain ⟨t, htt⟩ : ∃ t, decide (i ∈ (srv f n).take j) = t := ⟨_, rfl⟩
        have HTI := Lib.hid (show ((List.range n).map fun i => Value.bool (decide (i ∈ (srv f n).take j)))[i]? = some (.bool t) by rw [List.getElem?_map, List.getElem?_range hilt, ← htt]; rfl)
        have HTT := Lib.hid htt
        clear htt
        rcases t with _ | _
        ·rcases o with _ | x
         ·obtain rfl : v = -1 := HV.out
          have hb0 : decide ((-1 : Int) < 0) = true := by decide
          have HF301 := Lib.hid (show ∀ W, Kq w W [(gp, 26, (rcs (PP j) ++ sp)), (gr, 26, (rcs ((List.range n).map oo) ++ sr)), (GT, 4, ((List.range n).map fun i => Value.bool (decide (i ∈ (srv f n).take j)))), (LB, 26, [.bool s0, S n0, S d0])] → W.cell? ⟨GT, i, none⟩ = some (.bool false) from fun W h => ((h.row _ mm2).cell i).trans HTI.out)
          have cc0 := HF301.out _ HK.out
          go_wp2_with fail
          clear cc0
          replace HK := Lib.hid HK.out.drew
          refine wp_region_held_drew (S := fun w' => w'.cell? ⟨GT, i, none⟩ = some (.bool false)) (by kernel_rfl) ?_ (fun hHeld => ?_)
          ·(try dsimp only); exact HF301.out _ HK.out
          refine tk 0 (v := ?_) hHeld ?_ ?_
          rotate_left 1
          ·intro _ hw; (try dsimp only at hw); go_simp; try with_reducible rfl
          (try simp only [Act.put, List.setIfInBounds_toArray, List.set_cons_zero, List.set_cons_succ])
          refine tk 1 (v := ?_) hHeld ?_ ?_
          rotate_left 1
          ·intro _ hw; (try dsimp only at hw); go_simp; try with_reducible rfl
          (try simp only [Act.put, List.setIfInBounds_toArray, List.set_cons_zero, List.set_cons_succ])
          refine tk 2 (v := ?_) hHeld ?_ ?_
          rotate_left 1
          ·intro _ hw; (try dsimp only at hw); go_simp; try with_reducible rfl
          (try simp only [Act.put, List.setIfInBounds_toArray, List.set_cons_zero, List.set_cons_succ])
          refine tk 3 (v := ?_) hHeld ?_ ?_
          rotate_left 1
          ·intro _ hw; (try dsimp only at hw); go_simp; try with_reducible rfl
          (try simp only [Act.put, List.setIfInBounds_toArray, List.set_cons_zero, List.set_cons_succ])
          refine tk 4 (v := ?_) hHeld ?_ ?_
          rotate_left 1
          ·intro _ hw; (try dsimp only at hw); go_simp; try with_reducible rfl
          (try simp only [Act.put, List.setIfInBounds_toArray, List.set_cons_zero, List.set_cons_succ])
          refine tk 5 (v := ?_) hHeld ?_ ?_
          rotate_left 1
          ·intro _ hw; (try dsimp only at hw); go_simp; try with_reducible rfl
          (try simp only [Act.put, List.setIfInBounds_toArray, List.set_cons_zero, List.set_cons_succ])
          refine tk 6 (v := ?_) hHeld ?_ ?_
          rotate_left 1
          ·intro _ hw; (try dsimp only at hw); go_simp; try with_reducible rfl
          (try simp only [Act.put, List.setIfInBounds_toArray, List.set_cons_zero, List.set_cons_succ])
          refine tk 7 (v := ?_) hHeld ?_ ?_
          rotate_left 1
          ·intro _ hw; (try dsimp only at hw); go_simp; try with_reducible rfl
          (try simp only [Act.put, List.setIfInBounds_toArray, List.set_cons_zero, List.set_cons_succ])
          refine tk 8 (v := ?_) hHeld ?_ ?_
          rotate_left 1
          ·intro _ hw; (try dsimp only at hw); go_simp; try with_reducible rfl
          (try simp only [Act.put, List.setIfInBounds_toArray, List.set_cons_zero, List.set_cons_succ])
          refine sk 9 hHeld ?_
          (try simp only [Act.put, List.setIfInBounds_toArray, List.set_cons_zero, List.set_cons_succ])
          refine sk 10 hHeld ?_
          (try simp only [Act.put, List.setIfInBounds_toArray, List.set_cons_zero, List.set_cons_succ])
          refine sk 11 hHeld ?_
          (try simp only [Act.put, List.setIfInBounds_toArray, List.set_cons_zero, List.set_cons_succ])
          refine sk 12 hHeld ?_
          (try simp only [Act.put, List.setIfInBounds_toArray, List.set_cons_zero, List.set_cons_succ])
          refine sk 13 hHeld ?_
          (try simp only [Act.put, List.setIfInBounds_toArray, List.set_cons_zero, List.set_cons_succ])
          refine sk 14 hHeld ?_
          (try simp only [Act.put, List.setIfInBounds_toArray, List.set_cons_zero, List.set_cons_succ])
          refine sk 15 hHeld ?_
          (try simp only [Act.put, List.setIfInBounds_toArray, List.set_cons_zero, List.set_cons_succ])
          refine sk 16 hHeld ?_
          (try simp only [Act.put, List.setIfInBounds_toArray, List.set_cons_zero, List.set_cons_succ])
          refine sk 17 hHeld ?_
          (try simp only [Act.put, List.setIfInBounds_toArray, List.set_cons_zero, List.set_cons_succ])
          refine sk 18 hHeld ?_
          (try simp only [Act.put, List.setIfInBounds_toArray, List.set_cons_zero, List.set_cons_succ])
          refine tk 19 (v := ?_) hHeld ?_ ?_
          rotate_left 1
          ·intro _ hw; (try dsimp only at hw); go_simp; try with_reducible rfl
          (try simp only [Act.put, List.setIfInBounds_toArray, List.set_cons_zero, List.set_cons_succ])
          refine tk 20 (v := ?_) hHeld ?_ ?_
          rotate_left 1
          ·intro _ hw; (try dsimp only at hw); go_simp; try with_reducible rfl
          (try simp only [Act.put, List.setIfInBounds_toArray, List.set_cons_zero, List.set_cons_succ])
          refine wpAnyH_done (by kernel_rfl) ?_ _
          clear hHeld
          have cc0 := HF301.out _ HK.out
          clear cc0
          go_wp2_with fail
          go_roundw
          case rel => exact ⟨i + 1, some i, i, by omega, by go_num, rfl, rfl, HBS.out.first HTT.out, HK.out⟩
          case measure => simp [intOf]; omega
         ·obtain rfl : v = (x : Int) := HV.out
          have hxb := HBS.out.1
          obtain ⟨si, ni, di, sx, nx, dx, y, hoi, hox, hcx, hcy⟩ := HCM.out i x hilt (by omega)
          have HOI := Lib.hid hoi
          have HOX := Lib.hid hox
          have HCX := Lib.hid hcx
          have HCY := Lib.hid hcy
          have hxl : (x : Int) < (n : Int) := by omega
          have hx0 : 0 ≤ (x : Int) := by omega
          have hxn : ¬ (x : Int) < 0 := by omega
          have hxd : decide ((x : Int) < 0) = false := decide_eq_false hxn
          clear hoi hox hcx hcy hxb
          have HF301 := Lib.hid (show ∀ W, Kq w W [(gp, 26, (rcs (PP j) ++ sp)), (gr, 26, (rcs ((List.range n).map oo) ++ sr)), (GT, 4, ((List.range n).map fun i => Value.bool (decide (i ∈ (srv f n).take j)))), (LB, 26, [.bool s0, S n0, S d0])] → W.cell? ⟨GT, i, none⟩ = some (.bool false) ∧ W.cell? ⟨gr, i * 3, none⟩ = some (.bool si) ∧ W.cell? ⟨gr, i * 3 + 1, none⟩ = some (S ni) ∧ W.cell? ⟨gr, i * 3 + 2, none⟩ = some (S di) ∧ W.cell? ⟨gr, x * 3, none⟩ = some (.bool sx) ∧ W.cell? ⟨gr, x * 3 + 1, none⟩ = some (S nx) ∧ W.cell? ⟨gr, x * 3 + 2, none⟩ = some (S dx) from fun W h => ⟨((h.row _ mm2).cell i).trans HTI.out, ((h.row _ mm1).rat HOI.out).1, ((h.row _ mm1).rat HOI.out).2.1, ((h.row _ mm1).rat HOI.out).2.2, ((h.row _ mm1).rat HOX.out).1, ((h.row _ mm1).rat HOX.out).2.1, ((h.row _ mm1).rat HOX.out).2.2⟩)
          obtain ⟨cc0, cc1, cc2, cc3, cc4, cc5, cc6⟩ := HF301.out _ HK.out
          go_wp2_with fail
          clear cc0 cc1 cc2 cc3 cc4 cc5 cc6
          replace HK := Lib.hid HK.out.drew
          refine wp_region_held_drew (S := fun w' => w'.cell? ⟨GT, i, none⟩ = some (.bool false) ∧ w'.cell? ⟨gr, i * 3, none⟩ = some (.bool si) ∧ w'.cell? ⟨gr, i * 3 + 1, none⟩ = some (S ni) ∧ w'.cell? ⟨gr, i * 3 + 2, none⟩ = some (S di) ∧ w'.cell? ⟨gr, x * 3, none⟩ = some (.bool sx) ∧ w'.cell? ⟨gr, x * 3 + 1, none⟩ = some (S nx) ∧ w'.cell? ⟨gr, x * 3 + 2, none⟩ = some (S dx)) (by kernel_rfl) ?_ (fun hHeld => ?_)
          ·(try dsimp only); exact HF301.out _ HK.out
          refine tk 0 (v := ?_) hHeld ?_ ?_
          rotate_left 1
          ·intro _ hw; (try dsimp only at hw); go_simp; try with_reducible rfl
          (try simp only [Act.put, List.setIfInBounds_toArray, List.set_cons_zero, List.set_cons_succ])
          refine tk 1 (v := ?_) hHeld ?_ ?_
          rotate_left 1
          ·intro _ hw; (try dsimp only at hw); go_simp; try with_reducible rfl
          (try simp only [Act.put, List.setIfInBounds_toArray, List.set_cons_zero, List.set_cons_succ])
          refine tk 2 (v := ?_) hHeld ?_ ?_
          rotate_left 1
          ·intro _ hw; (try dsimp only at hw); go_simp; try with_reducible rfl
          (try simp only [Act.put, List.setIfInBounds_toArray, List.set_cons_zero, List.set_cons_succ])
          refine tk 3 (v := ?_) hHeld ?_ ?_
          rotate_left 1
          ·intro _ hw; (try dsimp only at hw); go_simp; try with_reducible rfl
          (try simp only [Act.put, List.setIfInBounds_toArray, List.set_cons_zero, List.set_cons_succ])
          refine tk 4 (v := ?_) hHeld ?_ ?_
          rotate_left 1
          ·intro _ hw; (try dsimp only at hw); go_simp; try with_reducible rfl
          (try simp only [Act.put, List.setIfInBounds_toArray, List.set_cons_zero, List.set_cons_succ])
          refine tk 5 (v := ?_) hHeld ?_ ?_
          rotate_left 1
          ·intro _ hw; (try dsimp only at hw); go_simp; try with_reducible rfl
          (try simp only [Act.put, List.setIfInBounds_toArray, List.set_cons_zero, List.set_cons_succ])
          refine tk 6 (v := ?_) hHeld ?_ ?_
          rotate_left 1
          ·intro _ hw; (try dsimp only at hw); go_simp; try with_reducible rfl
          (try simp only [Act.put, List.setIfInBounds_toArray, List.set_cons_zero, List.set_cons_succ])
          refine tk 7 (v := ?_) hHeld ?_ ?_
          rotate_left 1
          ·intro _ hw; (try dsimp only at hw); go_simp; try with_reducible rfl
          (try simp only [Act.put, List.setIfInBounds_toArray, List.set_cons_zero, List.set_cons_succ])
          refine tk 8 (v := ?_) hHeld ?_ ?_
          rotate_left 1
          ·intro _ hw; (try dsimp only at hw); go_simp; try with_reducible rfl
          (try simp only [Act.put, List.setIfInBounds_toArray, List.set_cons_zero, List.set_cons_succ])
          refine tk 9 (v := ?_) hHeld ?_ ?_
          rotate_left 1
          ·intro _ hw; (try dsimp only at hw); go_simp; try with_reducible rfl
          (try simp only [Act.put, List.setIfInBounds_toArray, List.set_cons_zero, List.set_cons_succ])
          refine tk 10 (v := ?_) hHeld ?_ ?_
          rotate_left 1
          ·intro _ hw; (try dsimp only at hw); go_simp; try with_reducible rfl
          (try simp only [Act.put, List.setIfInBounds_toArray, List.set_cons_zero, List.set_cons_succ])
          refine tk 11 (v := ?_) hHeld ?_ ?_
          rotate_left 1
          ·intro _ hw; (try dsimp only at hw); go_simp; try with_reducible rfl
          (try simp only [Act.put, List.setIfInBounds_toArray, List.set_cons_zero, List.set_cons_succ])
          refine tk 12 (v := ?_) hHeld ?_ ?_
          rotate_left 1
          ·intro _ hw; (try dsimp only at hw); go_simp; try with_reducible rfl
          (try simp only [Act.put, List.setIfInBounds_toArray, List.set_cons_zero, List.set_cons_succ])
          refine tk 13 (v := ?_) hHeld ?_ ?_
          rotate_left 1
          ·intro _ hw; (try dsimp only at hw); go_simp; try with_reducible rfl
          (try simp only [Act.put, List.setIfInBounds_toArray, List.set_cons_zero, List.set_cons_succ])
          refine tk 14 (v := ?_) hHeld ?_ ?_
          rotate_left 1
          ·intro _ hw; (try dsimp only at hw); go_simp; try with_reducible rfl
          (try simp only [Act.put, List.setIfInBounds_toArray, List.set_cons_zero, List.set_cons_succ])
          refine tk 15 (v := ?_) hHeld ?_ ?_
          rotate_left 1
          ·intro _ hw; (try dsimp only at hw); go_simp; try with_reducible rfl
          (try simp only [Act.put, List.setIfInBounds_toArray, List.set_cons_zero, List.set_cons_succ])
          refine tk 16 (v := ?_) hHeld ?_ ?_
          rotate_left 1
          ·intro _ hw; (try dsimp only at hw); go_simp; try with_reducible rfl
          (try simp only [Act.put, List.setIfInBounds_toArray, List.set_cons_zero, List.set_cons_succ])
          refine wpAnyH_ready (rs := [17]) (by kernel_rfl) (by simp) ?_
          refine AllReadyH.cons (at_list rfl) (fun K hK => ?_) AllReadyH.nil
          go_simp
          go_at_call 28; with_reducible refine (HCX.out _).mono ?_; rintro e wq ⟨rfl, hCq⟩; replace HK := Lib.hid (HK.out.on hCq); clear hCq
          clear hHeld
          first | (refine hK.out _ _ ?_ (fun hHeld => ?_)) | (go_wp2_with fail; refine hK.out _ _ ?_ (fun hHeld => ?_))
          ·(try dsimp only); exact HF301.out _ HK.out
          clear hK K
          (try simp only [Act.put, List.setIfInBounds_toArray, List.set_cons_zero, List.set_cons_succ])
          refine tk 18 (v := ?_) hHeld ?_ ?_
          rotate_left 1
          ·intro _ hw; (try dsimp only at hw); go_simp; try with_reducible rfl
          (try simp only [Act.put, List.setIfInBounds_toArray, List.set_cons_zero, List.set_cons_succ])
          refine tk 19 (v := ?_) hHeld ?_ ?_
          rotate_left 1
          ·intro _ hw; (try dsimp only at hw); go_simp; try with_reducible rfl
          (try simp only [Act.put, List.setIfInBounds_toArray, List.set_cons_zero, List.set_cons_succ])
          refine tk 20 (v := ?_) hHeld ?_ ?_
          rotate_left 1
          ·intro _ hw; (try dsimp only at hw); go_simp; try with_reducible rfl
          (try simp only [Act.put, List.setIfInBounds_toArray, List.set_cons_zero, List.set_cons_succ])
          refine wpAnyH_done (by kernel_rfl) ?_ _
          clear hHeld
          obtain ⟨cc0, cc1, cc2, cc3, cc4, cc5, cc6⟩ := HF301.out _ HK.out
          clear cc0 cc1 cc2 cc3 cc4 cc5 cc6
          by_cases hy : 0 < y
          ·have hyd : decide (0 < y) = true := decide_eq_true hy
           go_wp2_with fail
           go_roundw
           case rel => exact ⟨i + 1, some i, i, by omega, by go_num, rfl, rfl, HBS.out.more HTT.out (HCY.out.1 (by omega)), HK.out⟩
           case measure => simp [intOf]; omega
          ·have hyd : decide (0 < y) = false := decide_eq_false hy
           go_wp2_with fail
           go_roundw
           case rel => exact ⟨i + 1, some x, x, by omega, by go_num, rfl, rfl, HBS.out.less (fun q => by have := HCY.out.2 q; omega), HK.out⟩
           case measure => simp [intOf]; omega
        ·have HF301 := Lib.hid (show ∀ W, Kq w W [(gp, 26, (rcs (PP j) ++ sp)), (gr, 26, (rcs ((List.range n).map oo) ++ sr)), (GT, 4, ((List.range n).map fun i => Value.bool (decide (i ∈ (srv f n).take j)))), (LB, 26, [.bool s0, S n0, S d0])] → W.cell? ⟨GT, i, none⟩ = some (.bool true) from fun W h => ((h.row _ mm2).cell i).trans HTI.out)
         have cc0 := HF301.out _ HK.out
         go_wp2_with fail
         clear cc0
         replace HK := Lib.hid HK.out.drew
         refine wp_region_held_drew (S := fun w' => w'.cell? ⟨GT, i, none⟩ = some (.bool true)) (by kernel_rfl) ?_ (fun hHeld => ?_)
         ·(try dsimp only); exact HF301.out _ HK.out
         refine tk 0 (v := ?_) hHeld ?_ ?_
         rotate_left 1
         ·intro _ hw; (try dsimp only at hw); go_simp; try with_reducible rfl
         (try simp only [Act.put, List.setIfInBounds_toArray, List.set_cons_zero, List.set_cons_succ])
         refine tk 1 (v := ?_) hHeld ?_ ?_
         rotate_left 1
         ·intro _ hw; (try dsimp only at hw); go_simp; try with_reducible rfl
         (try simp only [Act.put, List.setIfInBounds_toArray, List.set_cons_zero, List.set_cons_succ])
         refine tk 2 (v := ?_) hHeld ?_ ?_
         rotate_left 1
         ·intro _ hw; (try dsimp only at hw); go_simp; try with_reducible rfl
         (try simp only [Act.put, List.setIfInBounds_toArray, List.set_cons_zero, List.set_cons_succ])
         refine tk 3 (v := ?_) hHeld ?_ ?_
         rotate_left 1
         ·intro _ hw; (try dsimp only at hw); go_simp; try with_reducible rfl
         (try simp only [Act.put, List.setIfInBounds_toArray, List.set_cons_zero, List.set_cons_succ])
         refine tk 4 (v := ?_) hHeld ?_ ?_
         rotate_left 1
         ·intro _ hw; (try dsimp only at hw); go_simp; try with_reducible rfl
         (try simp only [Act.put, List.setIfInBounds_toArray, List.set_cons_zero, List.set_cons_succ])
         refine tk 5 (v := ?_) hHeld ?_ ?_
         rotate_left 1
         ·intro _ hw; (try dsimp only at hw); go_simp; try with_reducible rfl
         (try simp only [Act.put, List.setIfInBounds_toArray, List.set_cons_zero, List.set_cons_succ])
         refine sk 6 hHeld ?_
         (try simp only [Act.put, List.setIfInBounds_toArray, List.set_cons_zero, List.set_cons_succ])
         refine sk 7 hHeld ?_
         (try simp only [Act.put, List.setIfInBounds_toArray, List.set_cons_zero, List.set_cons_succ])
         refine sk 8 hHeld ?_
         (try simp only [Act.put, List.setIfInBounds_toArray, List.set_cons_zero, List.set_cons_succ])
         refine sk 9 hHeld ?_
         (try simp only [Act.put, List.setIfInBounds_toArray, List.set_cons_zero, List.set_cons_succ])
         refine sk 10 hHeld ?_
         (try simp only [Act.put, List.setIfInBounds_toArray, List.set_cons_zero, List.set_cons_succ])
         refine sk 11 hHeld ?_
         (try simp only [Act.put, List.setIfInBounds_toArray, List.set_cons_zero, List.set_cons_succ])
         refine sk 12 hHeld ?_
         (try simp only [Act.put, List.setIfInBounds_toArray, List.set_cons_zero, List.set_cons_succ])
         refine sk 13 hHeld ?_
         (try simp only [Act.put, List.setIfInBounds_toArray, List.set_cons_zero, List.set_cons_succ])
         refine sk 14 hHeld ?_
         (try simp only [Act.put, List.setIfInBounds_toArray, List.set_cons_zero, List.set_cons_succ])
         refine sk 15 hHeld ?_
         (try simp only [Act.put, List.setIfInBounds_toArray, List.set_cons_zero, List.set_cons_succ])
         refine sk 16 hHeld ?_
         (try simp only [Act.put, List.setIfInBounds_toArray, List.set_cons_zero, List.set_cons_succ])
         refine sk 17 hHeld ?_
         (try simp only [Act.put, List.setIfInBounds_toArray, List.set_cons_zero, List.set_cons_succ])
         refine sk 18 hHeld ?_
         (try simp only [Act.put, List.setIfInBounds_toArray, List.set_cons_zero, List.set_cons_succ])
         refine sk 19 hHeld ?_
         (try simp only [Act.put, List.setIfInBounds_toArray, List.set_cons_zero, List.set_cons_succ])
         refine tk 20 (v := ?_) hHeld ?_ ?_
         rotate_left 1
         ·intro _ hw; (try dsimp only at hw); go_simp; try with_reducible rfl
         (try simp only [Act.put, List.setIfInBounds_toArray, List.set_cons_zero, List.set_cons_succ])
         refine wpAnyH_done (by kernel_rfl) ?_ _
         clear hHeld
         have cc0 := HF301.out _ HK.out
         clear cc0
         go_wp2_with fail
         go_roundw
         case rel => exact ⟨i + 1, o, v, by omega, by go_num, rfl, HV.out, HBS.out.skip HTT.out, HK.out⟩
         case measure => simp [intOf]; omega
       ·have hin : n = i := by omega
        subst hin
        have hid : decide ((n : Int) < (n : Int)) = false := decide_eq_false (by omega)
        obtain ⟨x, hx⟩ : ∃ x, (srv f n)[j]? = some x := ⟨_, List.getElem?_eq_getElem (by rw [srv_len]; omega)⟩
        have hdo := HBS.out.done (r := j) (fun i hi => by rw [decide_eq_true_iff]) hx
        subst hdo
        have hxn : x < n := by have := HBS.out.1; omega
        obtain rfl : v = (x : Int) := HV.out
        have hxl : (x : Int) < (n : Int) := by omega
        have hx0 : 0 ≤ (x : Int) := by omega
        obtain ⟨sa, na, da, sb, mb, db, s1, n1, d1, hpa, had, hpp, hls, hl1⟩ := HR2.out j x hj2 hx hl
        have HPA := Lib.hid hpa
        have HAD := Lib.hid had
        have HPP := Lib.hid hpp
        have HLS := Lib.hid hls
        have HL1 := Lib.hid hl1
        have HTS := Lib.hid (show (((List.range n).map fun i => Value.bool (decide (i ∈ (srv f n).take j)))).set x (.bool true) = ((List.range n).map fun i => Value.bool (decide (i ∈ (srv f n).take (j + 1)))) by
         apply List.ext_getElem?
         intro q
         rw [List.getElem?_set]
         by_cases hq : q < n
         ·rw [List.getElem?_map, List.getElem?_map, List.getElem?_range hq, List.length_map, List.length_range]
          by_cases hxq : x = q
          ·subst hxq
           rw [if_pos rfl, if_pos hq]
           have : x ∈ (srv f n).take (j + 1) := (take_more hx x).2 (.inr rfl)
           simp [this]
          ·rw [if_neg hxq]
           have : q ∈ (srv f n).take (j + 1) ↔ q ∈ (srv f n).take j := by
            rw [take_more hx q]
            constructor
            ·rintro (h | h)
             ·exact h
             ·exact absurd h.symm hxq
            ·exact .inl
           simp [this]
         ·rw [if_neg (by omega), List.getElem?_eq_none (by rw [List.length_map, List.length_range]; omega), List.getElem?_eq_none (by rw [List.length_map, List.length_range]; omega)])
        have c0 := (HK.out.row _ mm2).cell x
        rw [show ((List.range n).map fun i => Value.bool (decide (i ∈ (srv f n).take j)))[x]? = some (.bool (decide (x ∈ (srv f n).take j))) by rw [List.getElem?_map, List.getElem?_range hxn]; rfl] at c0
        have f0 := (HK.out.row _ mm2).frozen x
        clear hpa had hpp hls hl1 hx
        go_upto_region 27 with fail
        clear c0 f0
        replace HK := Lib.hid (HK.out.sub (l' := [(GT, 4, ((List.range n).map fun i => Value.bool (decide (i ∈ (srv f n).take j)))), (gp, 26, (rcs (PP j) ++ sp)), (gr, 26, (rcs ((List.range n).map oo) ++ sr)), (LB, 26, [.bool s0, S n0, S d0])]) (by intro p hp; simp only [List.mem_cons, List.not_mem_nil, or_false] at hp ⊢; rcases hp with rfl | rfl | rfl | rfl <;> simp))
        replace HK := Lib.hid (HK.out.putC (i := x) (by omega) (by intro p hp; simp only [List.mem_cons, List.not_mem_nil, or_false] at hp; rcases hp with rfl | rfl | rfl <;> (simp only; omega)) (.bool true))
        rw [HTS.out] at HK
        replace HK := Lib.hid (HK.out.sub (l' := [(gp, 26, (rcs (PP j) ++ sp)), (gr, 26, (rcs ((List.range n).map oo) ++ sr)), (GT, 4, ((List.range n).map fun i => Value.bool (decide (i ∈ (srv f n).take (j + 1))))), (LB, 26, [.bool s0, S n0, S d0])]) (by intro p hp; simp only [List.mem_cons, List.not_mem_nil, or_false] at hp ⊢; rcases hp with rfl | rfl | rfl | rfl <;> simp))
        obtain ⟨wb, hwb⟩ : ∃ W, wr.setCell ⟨GT, x, none⟩ (.bool true) = W := ⟨_, rfl⟩
        rw [hwb] at HK ⊢
        clear hwb HTS
        go_cut [] from 68 to 113 (fun wx => Kq w wx [(gp, 26, (rcs (PP (j + 1)) ++ sp)), (gr, 26, (rcs ((List.range n).map oo) ++ sr)), (GT, 4, ((List.range n).map fun i => Value.bool (decide (i ∈ (srv f n).take (j + 1))))), (LB, 26, [.bool s0, S n0, S d0])])
        case first =>
         have HF501 := Lib.hid (show ∀ W, Kq w W [(gp, 26, (rcs (PP j) ++ sp)), (gr, 26, (rcs ((List.range n).map oo) ++ sr)), (GT, 4, ((List.range n).map fun i => Value.bool (decide (i ∈ (srv f n).take (j + 1))))), (LB, 26, [.bool s0, S n0, S d0])] → W.cell? ⟨gp, x * 3, none⟩ = some (.bool sa) ∧ W.cell? ⟨gp, x * 3 + 1, none⟩ = some (S na) ∧ W.cell? ⟨gp, x * 3 + 2, none⟩ = some (S da) from fun W h => ⟨((h.row _ mm0).rat HPA.out).1, ((h.row _ mm0).rat HPA.out).2.1, ((h.row _ mm0).rat HPA.out).2.2⟩)
         replace HK := Lib.hid HK.out.drew
         refine wp_region_held_drew (S := fun _ => True) (by kernel_rfl) trivial (fun hHeld => ?_)
         refine tk 0 (v := ?_) hHeld ?_ ?_
         rotate_left 1
         ·intro _ hw; (try dsimp only at hw); go_simp; try with_reducible rfl
         (try simp only [Act.put, List.setIfInBounds_toArray, List.set_cons_zero, List.set_cons_succ])
         refine tk 1 (v := ?_) hHeld ?_ ?_
         rotate_left 1
         ·intro _ hw; (try dsimp only at hw); go_simp; try with_reducible rfl
         (try simp only [Act.put, List.setIfInBounds_toArray, List.set_cons_zero, List.set_cons_succ])
         refine tk 2 (v := ?_) hHeld ?_ ?_
         rotate_left 1
         ·intro _ hw; (try dsimp only at hw); go_simp; try with_reducible rfl
         (try simp only [Act.put, List.setIfInBounds_toArray, List.set_cons_zero, List.set_cons_succ])
         refine tk 3 (v := ?_) hHeld ?_ ?_
         rotate_left 1
         ·intro _ hw; (try dsimp only at hw); go_simp; try with_reducible rfl
         (try simp only [Act.put, List.setIfInBounds_toArray, List.set_cons_zero, List.set_cons_succ])
         refine tk 4 (v := ?_) hHeld ?_ ?_
         rotate_left 1
         ·intro _ hw; (try dsimp only at hw); go_simp; try with_reducible rfl
         (try simp only [Act.put, List.setIfInBounds_toArray, List.set_cons_zero, List.set_cons_succ])
         refine wpAnyH_ready (rs := [5, 6]) (by kernel_rfl) (by simp) ?_
         refine AllReadyH.cons (at_list rfl) (fun K hK => ?_) (AllReadyH.cons (at_list rfl) (fun K hK => ?_) AllReadyH.nil)
         ·obtain ⟨cc0, cc1, cc2⟩ := HF501.out _ HK.out
          go_simp
          clear hHeld
          first | (refine hK.out _ _ trivial (fun hHeld => ?_)) | (go_wp2_with fail; refine hK.out _ _ trivial (fun hHeld => ?_))
          clear hK K
          (try simp only [Act.put, List.setIfInBounds_toArray, List.set_cons_zero, List.set_cons_succ])
          clear cc0 cc1 cc2
          refine wpAnyH_ready (rs := [6]) (by kernel_rfl) (by simp) ?_
          refine AllReadyH.cons (at_list rfl) (fun K hK => ?_) AllReadyH.nil
          go_simp
          go_at_call 17; with_reducible refine (HON.out _).mono ?_; rintro e wq ⟨rfl, hCq⟩; replace HK := Lib.hid (HK.out.on hCq); clear hCq
          clear hHeld
          first | (refine hK.out _ _ trivial (fun hHeld => ?_)) | (go_wp2_with fail; refine hK.out _ _ trivial (fun hHeld => ?_))
          clear hK K
          (try simp only [Act.put, List.setIfInBounds_toArray, List.set_cons_zero, List.set_cons_succ])
          refine wpAnyH_ready (rs := [7]) (by kernel_rfl) (by simp) ?_
          refine AllReadyH.cons (at_list rfl) (fun K hK => ?_) AllReadyH.nil
          go_simp
          go_at_call 32; with_reducible refine (HAD.out _).mono ?_; rintro e wq ⟨rfl, hCq⟩; replace HK := Lib.hid (HK.out.on hCq); clear hCq
          clear hHeld
          first | (refine hK.out _ _ trivial (fun hHeld => ?_)) | (go_wp2_with fail; refine hK.out _ _ trivial (fun hHeld => ?_))
          clear hK K
          (try simp only [Act.put, List.setIfInBounds_toArray, List.set_cons_zero, List.set_cons_succ])
          refine tk 8 (v := ?_) hHeld ?_ ?_
          rotate_left 1
          ·intro _ hw; (try dsimp only at hw); go_simp; try with_reducible rfl
          (try simp only [Act.put, List.setIfInBounds_toArray, List.set_cons_zero, List.set_cons_succ])
          obtain ⟨e0, e1, e2⟩ := (HK.out.row _ mm0).rat HPA.out
          have f0 := (HK.out.row _ mm0).frozen (x * 3)
          have f1 := (HK.out.row _ mm0).frozen (x * 3 + 1)
          have f2 := (HK.out.row _ mm0).frozen (x * 3 + 2)
          refine wpAnyH_ready (rs := [9]) (by kernel_rfl) (by simp) ?_
          refine AllReadyH.cons (at_list rfl) (fun K hK => ?_) AllReadyH.nil
          go_simp
          clear hHeld
          replace HK := Lib.hid (HK.out.putAt (i := x) (by omega) (by intro p hp; simp only [List.mem_cons, List.not_mem_nil, or_false] at hp; rcases hp with rfl | rfl | rfl <;> (simp only; omega)) (by rw [HPL.out]; omega) (sb, mb, db))
          refine hK.out _ _ trivial (fun hHeld => ?_)
          clear hK K e0 e1 e2 f0 f1 f2
          (try simp only [Act.put, List.setIfInBounds_toArray, List.set_cons_zero, List.set_cons_succ])
          refine wpAnyH_done (by kernel_rfl) ?_ _
          clear hHeld
          go_wp2_with fail
          go_meet
          rw [HPP.out]
          exact HK.out
         ·go_simp
          go_at_call 17; with_reducible refine (HON.out _).mono ?_; rintro e wq ⟨rfl, hCq⟩; replace HK := Lib.hid (HK.out.on hCq); clear hCq
          clear hHeld
          first | (refine hK.out _ _ trivial (fun hHeld => ?_)) | (go_wp2_with fail; refine hK.out _ _ trivial (fun hHeld => ?_))
          clear hK K
          (try simp only [Act.put, List.setIfInBounds_toArray, List.set_cons_zero, List.set_cons_succ])
          refine wpAnyH_ready (rs := [5]) (by kernel_rfl) (by simp) ?_
          refine AllReadyH.cons (at_list rfl) (fun K hK => ?_) AllReadyH.nil
          obtain ⟨cc0, cc1, cc2⟩ := HF501.out _ HK.out
          go_simp
          clear hHeld
          first | (refine hK.out _ _ trivial (fun hHeld => ?_)) | (go_wp2_with fail; refine hK.out _ _ trivial (fun hHeld => ?_))
          clear hK K
          (try simp only [Act.put, List.setIfInBounds_toArray, List.set_cons_zero, List.set_cons_succ])
          clear cc0 cc1 cc2
          refine wpAnyH_ready (rs := [7]) (by kernel_rfl) (by simp) ?_
          refine AllReadyH.cons (at_list rfl) (fun K hK => ?_) AllReadyH.nil
          go_simp
          go_at_call 32; with_reducible refine (HAD.out _).mono ?_; rintro e wq ⟨rfl, hCq⟩; replace HK := Lib.hid (HK.out.on hCq); clear hCq
          clear hHeld
          first | (refine hK.out _ _ trivial (fun hHeld => ?_)) | (go_wp2_with fail; refine hK.out _ _ trivial (fun hHeld => ?_))
          clear hK K
          (try simp only [Act.put, List.setIfInBounds_toArray, List.set_cons_zero, List.set_cons_succ])
          refine tk 8 (v := ?_) hHeld ?_ ?_
          rotate_left 1
          ·intro _ hw; (try dsimp only at hw); go_simp; try with_reducible rfl
          (try simp only [Act.put, List.setIfInBounds_toArray, List.set_cons_zero, List.set_cons_succ])
          obtain ⟨e0, e1, e2⟩ := (HK.out.row _ mm0).rat HPA.out
          have f0 := (HK.out.row _ mm0).frozen (x * 3)
          have f1 := (HK.out.row _ mm0).frozen (x * 3 + 1)
          have f2 := (HK.out.row _ mm0).frozen (x * 3 + 2)
          refine wpAnyH_ready (rs := [9]) (by kernel_rfl) (by simp) ?_
          refine AllReadyH.cons (at_list rfl) (fun K hK => ?_) AllReadyH.nil
          go_simp
          clear hHeld
          replace HK := Lib.hid (HK.out.putAt (i := x) (by omega) (by intro p hp; simp only [List.mem_cons, List.not_mem_nil, or_false] at hp; rcases hp with rfl | rfl | rfl <;> (simp only; omega)) (by rw [HPL.out]; omega) (sb, mb, db))
          refine hK.out _ _ trivial (fun hHeld => ?_)
          clear hK K e0 e1 e2 f0 f1 f2
          (try simp only [Act.put, List.setIfInBounds_toArray, List.set_cons_zero, List.set_cons_succ])
          refine wpAnyH_done (by kernel_rfl) ?_ _
          clear hHeld
          go_wp2_with fail
          go_meet
          rw [HPP.out]
          exact HK.out
        case rest =>
         have HK2 := Lib.hid hcut
         clear hcut HK
         have HK := HK2
         clear HK2 HPA HAD HPP
         go_upto_region 28 with fail
         have HF601 := Lib.hid (show ∀ W, Kq w W [(gp, 26, (rcs (PP (j + 1)) ++ sp)), (gr, 26, (rcs ((List.range n).map oo) ++ sr)), (GT, 4, ((List.range n).map fun i => Value.bool (decide (i ∈ (srv f n).take (j + 1))))), (LB, 26, [.bool s0, S n0, S d0])] → W.cell? ⟨LB, 0, none⟩ = some (.bool s0) ∧ W.cell? ⟨LB, 1, none⟩ = some (S n0) ∧ W.cell? ⟨LB, 2, none⟩ = some (S d0) from fun W h => ⟨(h.row _ mm3).cell 0, (h.row _ mm3).cell 1, (h.row _ mm3).cell 2⟩)
         replace HK := Lib.hid HK.out.drew
         refine wp_region_held_drew (S := fun _ => True) (by kernel_rfl) trivial (fun hHeld => ?_)
         refine wpAnyH_ready (rs := [0, 1]) (by kernel_rfl) (by simp) ?_
         refine AllReadyH.cons (at_list rfl) (fun K hK => ?_) (AllReadyH.cons (at_list rfl) (fun K hK => ?_) AllReadyH.nil)
         ·obtain ⟨cc0, cc1, cc2⟩ := HF601.out _ HK.out
          go_simp
          clear hHeld
          first | (refine hK.out _ _ trivial (fun hHeld => ?_)) | (go_wp2_with fail; refine hK.out _ _ trivial (fun hHeld => ?_))
          clear hK K
          (try simp only [Act.put, List.setIfInBounds_toArray, List.set_cons_zero, List.set_cons_succ])
          clear cc0 cc1 cc2
          refine wpAnyH_ready (rs := [1]) (by kernel_rfl) (by simp) ?_
          refine AllReadyH.cons (at_list rfl) (fun K hK => ?_) AllReadyH.nil
          go_simp
          go_at_call 17; with_reducible refine (HON.out _).mono ?_; rintro e wq ⟨rfl, hCq⟩; replace HK := Lib.hid (HK.out.on hCq); clear hCq
          clear hHeld
          first | (refine hK.out _ _ trivial (fun hHeld => ?_)) | (go_wp2_with fail; refine hK.out _ _ trivial (fun hHeld => ?_))
          clear hK K
          (try simp only [Act.put, List.setIfInBounds_toArray, List.set_cons_zero, List.set_cons_succ])
          refine wpAnyH_ready (rs := [2]) (by kernel_rfl) (by simp) ?_
          refine AllReadyH.cons (at_list rfl) (fun K hK => ?_) AllReadyH.nil
          go_simp
          go_at_call 27; with_reducible refine (HLS.out _).mono ?_; rintro e wq ⟨rfl, hCq⟩; replace HK := Lib.hid (HK.out.on hCq); clear hCq
          clear hHeld
          first | (refine hK.out _ _ trivial (fun hHeld => ?_)) | (go_wp2_with fail; refine hK.out _ _ trivial (fun hHeld => ?_))
          clear hK K
          (try simp only [Act.put, List.setIfInBounds_toArray, List.set_cons_zero, List.set_cons_succ])
          have e0 := (HK.out.row _ mm3).cell 0
          have f0 := (HK.out.row _ mm3).frozen 0
          have e1 := (HK.out.row _ mm3).cell 1
          have f1 := (HK.out.row _ mm3).frozen 1
          have e2 := (HK.out.row _ mm3).cell 2
          have f2 := (HK.out.row _ mm3).frozen 2
          simp only [List.getElem?_cons_zero, List.getElem?_cons_succ] at e0 e1 e2
          refine wpAnyH_ready (rs := [3]) (by kernel_rfl) (by simp) ?_
          refine AllReadyH.cons (at_list rfl) (fun K hK => ?_) AllReadyH.nil
          go_simp
          clear hHeld
          replace HK := Lib.hid (HK.out.sub (l' := [(LB, 26, [.bool s0, S n0, S d0]), (gp, 26, (rcs (PP (j + 1)) ++ sp)), (gr, 26, (rcs ((List.range n).map oo) ++ sr)), (GT, 4, ((List.range n).map fun i => Value.bool (decide (i ∈ (srv f n).take (j + 1)))))]) (by intro p hp; simp only [List.mem_cons, List.not_mem_nil, or_false] at hp ⊢; rcases hp with rfl | rfl | rfl | rfl <;> simp))
          replace HK := Lib.hid (HK.out.put3 (by omega) (by intro p hp; simp only [List.mem_cons, List.not_mem_nil, or_false] at hp; rcases hp with rfl | rfl | rfl <;> (simp only; omega)) (.bool s1) (S n1) (S d1))
          replace HK := Lib.hid (HK.out.sub (l' := [(gp, 26, (rcs (PP (j + 1)) ++ sp)), (gr, 26, (rcs ((List.range n).map oo) ++ sr)), (GT, 4, ((List.range n).map fun i => Value.bool (decide (i ∈ (srv f n).take (j + 1))))), (LB, 26, [.bool s1, S n1, S d1])]) (by intro p hp; simp only [List.mem_cons, List.not_mem_nil, or_false] at hp ⊢; rcases hp with rfl | rfl | rfl | rfl <;> simp))
          refine hK.out _ _ trivial (fun hHeld => ?_)
          clear hK K e0 e1 e2 f0 f1 f2
          (try simp only [Act.put, List.setIfInBounds_toArray, List.set_cons_zero, List.set_cons_succ])
          refine wpAnyH_done (by kernel_rfl) ?_ _
          clear hHeld
          go_wp2_with fail
          go_roundg (gk - 1)
          case measure => omega
          case rel =>
           refine ⟨by omega, ?_⟩
           rw [show J - (gk - 1) = j + 1 by omega, HL1.out]
           exact HK.out
         ·go_simp
          go_at_call 17; with_reducible refine (HON.out _).mono ?_; rintro e wq ⟨rfl, hCq⟩; replace HK := Lib.hid (HK.out.on hCq); clear hCq
          clear hHeld
          first | (refine hK.out _ _ trivial (fun hHeld => ?_)) | (go_wp2_with fail; refine hK.out _ _ trivial (fun hHeld => ?_))
          clear hK K
          (try simp only [Act.put, List.setIfInBounds_toArray, List.set_cons_zero, List.set_cons_succ])
          refine wpAnyH_ready (rs := [0]) (by kernel_rfl) (by simp) ?_
          refine AllReadyH.cons (at_list rfl) (fun K hK => ?_) AllReadyH.nil
          obtain ⟨cc0, cc1, cc2⟩ := HF601.out _ HK.out
          go_simp
          clear hHeld
          first | (refine hK.out _ _ trivial (fun hHeld => ?_)) | (go_wp2_with fail; refine hK.out _ _ trivial (fun hHeld => ?_))
          clear hK K
          (try simp only [Act.put, List.setIfInBounds_toArray, List.set_cons_zero, List.set_cons_succ])
          clear cc0 cc1 cc2
          refine wpAnyH_ready (rs := [2]) (by kernel_rfl) (by simp) ?_
          refine AllReadyH.cons (at_list rfl) (fun K hK => ?_) AllReadyH.nil
          go_simp
          go_at_call 27; with_reducible refine (HLS.out _).mono ?_; rintro e wq ⟨rfl, hCq⟩; replace HK := Lib.hid (HK.out.on hCq); clear hCq
          clear hHeld
          first | (refine hK.out _ _ trivial (fun hHeld => ?_)) | (go_wp2_with fail; refine hK.out _ _ trivial (fun hHeld => ?_))
          clear hK K
          (try simp only [Act.put, List.setIfInBounds_toArray, List.set_cons_zero, List.set_cons_succ])
          have e0 := (HK.out.row _ mm3).cell 0
          have f0 := (HK.out.row _ mm3).frozen 0
          have e1 := (HK.out.row _ mm3).cell 1
          have f1 := (HK.out.row _ mm3).frozen 1
          have e2 := (HK.out.row _ mm3).cell 2
          have f2 := (HK.out.row _ mm3).frozen 2
          simp only [List.getElem?_cons_zero, List.getElem?_cons_succ] at e0 e1 e2
          refine wpAnyH_ready (rs := [3]) (by kernel_rfl) (by simp) ?_
          refine AllReadyH.cons (at_list rfl) (fun K hK => ?_) AllReadyH.nil
          go_simp
          clear hHeld
          replace HK := Lib.hid (HK.out.sub (l' := [(LB, 26, [.bool s0, S n0, S d0]), (gp, 26, (rcs (PP (j + 1)) ++ sp)), (gr, 26, (rcs ((List.range n).map oo) ++ sr)), (GT, 4, ((List.range n).map fun i => Value.bool (decide (i ∈ (srv f n).take (j + 1)))))]) (by intro p hp; simp only [List.mem_cons, List.not_mem_nil, or_false] at hp ⊢; rcases hp with rfl | rfl | rfl | rfl <;> simp))
          replace HK := Lib.hid (HK.out.put3 (by omega) (by intro p hp; simp only [List.mem_cons, List.not_mem_nil, or_false] at hp; rcases hp with rfl | rfl | rfl <;> (simp only; omega)) (.bool s1) (S n1) (S d1))
          replace HK := Lib.hid (HK.out.sub (l' := [(gp, 26, (rcs (PP (j + 1)) ++ sp)), (gr, 26, (rcs ((List.range n).map oo) ++ sr)), (GT, 4, ((List.range n).map fun i => Value.bool (decide (i ∈ (srv f n).take (j + 1))))), (LB, 26, [.bool s1, S n1, S d1])]) (by intro p hp; simp only [List.mem_cons, List.not_mem_nil, or_false] at hp ⊢; rcases hp with rfl | rfl | rfl | rfl <;> simp))
          refine hK.out _ _ trivial (fun hHeld => ?_)
          clear hK K e0 e1 e2 f0 f1 f2
          (try simp only [Act.put, List.setIfInBounds_toArray, List.set_cons_zero, List.set_cons_succ])
          refine wpAnyH_done (by kernel_rfl) ?_ _
          clear hHeld
          go_wp2_with fail
          go_roundg (gk - 1)
          case measure => omega
          case rel =>
           refine ⟨by omega, ?_⟩
           rw [show J - (gk - 1) = j + 1 by omega, HL1.out]
           exact HK.out
     ·have hjJ : j = J := by omega
      subst hjJ
      have hvd : decide (0 < v0) = false := decide_eq_false (fun q => hj2 (hvi.1 q))
      clear hvi HS
      go_wp2_with fail
      replace HK := Lib.hid (HK.out.sub (l' := [(gp, 26, (rcs (PP j) ++ sp))]) (by intro p hp; obtain rfl := List.mem_singleton.1 hp; simp))
      go_loopg [19] n (fun g a wz => ∃ k : Nat, k + g = n ∧ a = .int .i64 k ∧ Kq w wz [(gp, 26, (rcs (RR.take k ++ (PP j).drop k) ++ sp))])
      case atStart => exact ⟨0, by omega, rfl, HK.out⟩
      case round =>
       clear HK
       obtain ⟨k, hkg, rfl, hKK⟩ := hrel
       have HK := Lib.hid hKK
       clear hKK
       have hk0 : 0 ≤ (k : Int) := by omega
       by_cases hklt : k < n
       ·have hkl : (k : Int) < (n : Int) := by omega
        have hkd : decide ((k : Int) < (n : Int)) = true := decide_eq_true hkl
        obtain ⟨sa, na, da, sb, mb, db, se, me, de, hta, hne, hmu, hre⟩ := HR4.out k hklt
        obtain ⟨htl, htb, htn⟩ := tt_facts HRL.out (HPN.out j) hklt hta hre (sb, mb, db)
        have HTA := Lib.hid (show ((RR.take k ++ (PP j).drop k))[k]? = some (sa, na, da) by rw [tt_at HRL.out (HPN.out j) hklt]; exact hta)
        have HTL := Lib.hid htl
        have HTB := Lib.hid htb
        have HTN := Lib.hid htn
        have HMU := Lib.hid hmu
        have HDJ := Lib.hid hne
        clear hta hne hmu hre htl htb htn
        have hzn : decide (z < 0) = neg := HZN.out
        go_upto_if 121 with fail
        clear hzn
        go_cut [] from 114 to 138 (fun wx => Kq w wx [(gp, 26, (rcs (((RR.take k ++ (PP j).drop k)).set k (sb, mb, db)) ++ sp))])
        case first =>
         rcases HDJ.out with ⟨hng, hab⟩ | ⟨hng, hne⟩
         ·subst hng
          go_wp2_with fail
          go_meet
          have HS := set_same HTA.out
          rw [← hab] at HS
          rw [HS]
          exact HK.out
         ·subst hng
          have HNE := Lib.hid hne
          clear hne
          have HF741 := Lib.hid (show ∀ W, Kq w W [(gp, 26, (rcs (RR.take k ++ (PP j).drop k) ++ sp))] → W.cell? ⟨gp, k * 3, none⟩ = some (.bool sa) ∧ W.cell? ⟨gp, k * 3 + 1, none⟩ = some (S na) ∧ W.cell? ⟨gp, k * 3 + 2, none⟩ = some (S da) from fun W h => ⟨((h.row _ mm0).rat HTA.out).1, ((h.row _ mm0).rat HTA.out).2.1, ((h.row _ mm0).rat HTA.out).2.2⟩)
          obtain ⟨cc0, cc1, cc2⟩ := HF741.out _ HK.out
          go_wp2_with fail
          refine (HNE.out _).mono ?_
          rintro e w741 ⟨rfl, hC⟩
          replace HK := Lib.hid (HK.out.on hC)
          clear hC cc0 cc1 cc2
          obtain ⟨cc0, cc1, cc2⟩ := HF741.out _ HK.out
          clear cc0 cc1 cc2
          obtain ⟨e0, e1, e2⟩ := (HK.out.row _ mm0).rat HTA.out
          have f0 := (HK.out.row _ mm0).frozen (k * 3)
          have f1 := (HK.out.row _ mm0).frozen (k * 3 + 1)
          have f2 := (HK.out.row _ mm0).frozen (k * 3 + 2)
          go_wp2_with fail
          go_meet
          exact HK.out.putAt (i := k) (by omega) (fun p hp => by cases hp) (by rw [HTL.out]; omega) (sb, mb, db)
        case rest =>
         have HK2 := Lib.hid hcut
         clear hcut HK
         have HK := HK2
         clear HK2 HDJ HTA
         go_upto_region 34 with fail
         have HF761 := Lib.hid (show ∀ W, Kq w W [(gp, 26, (rcs (((RR.take k ++ (PP j).drop k)).set k (sb, mb, db)) ++ sp))] → W.cell? ⟨gp, k * 3, none⟩ = some (.bool sb) ∧ W.cell? ⟨gp, k * 3 + 1, none⟩ = some (S mb) ∧ W.cell? ⟨gp, k * 3 + 2, none⟩ = some (S db) from fun W h => ⟨((h.row _ mm0).rat HTB.out).1, ((h.row _ mm0).rat HTB.out).2.1, ((h.row _ mm0).rat HTB.out).2.2⟩)
         replace HK := Lib.hid HK.out.drew
         refine wp_region_held_drew (S := fun _ => True) (by kernel_rfl) trivial (fun hHeld => ?_)
         refine tk 0 (v := ?_) hHeld ?_ ?_
         rotate_left 1
         ·intro _ hw; (try dsimp only at hw); go_simp; try with_reducible rfl
         (try simp only [Act.put, List.setIfInBounds_toArray, List.set_cons_zero, List.set_cons_succ])
         refine tk 1 (v := ?_) hHeld ?_ ?_
         rotate_left 1
         ·intro _ hw; (try dsimp only at hw); go_simp; try with_reducible rfl
         (try simp only [Act.put, List.setIfInBounds_toArray, List.set_cons_zero, List.set_cons_succ])
         refine tk 2 (v := ?_) hHeld ?_ ?_
         rotate_left 1
         ·intro _ hw; (try dsimp only at hw); go_simp; try with_reducible rfl
         (try simp only [Act.put, List.setIfInBounds_toArray, List.set_cons_zero, List.set_cons_succ])
         refine tk 3 (v := ?_) hHeld ?_ ?_
         rotate_left 1
         ·intro _ hw; (try dsimp only at hw); go_simp; try with_reducible rfl
         (try simp only [Act.put, List.setIfInBounds_toArray, List.set_cons_zero, List.set_cons_succ])
         refine tk 4 (v := ?_) hHeld ?_ ?_
         rotate_left 1
         ·intro _ hw; (try dsimp only at hw); go_simp; try with_reducible rfl
         (try simp only [Act.put, List.setIfInBounds_toArray, List.set_cons_zero, List.set_cons_succ])
         refine wpAnyH_ready (rs := [5, 6]) (by kernel_rfl) (by simp) ?_
         refine AllReadyH.cons (at_list rfl) (fun K hK => ?_) (AllReadyH.cons (at_list rfl) (fun K hK => ?_) AllReadyH.nil)
         ·obtain ⟨cc0, cc1, cc2⟩ := HF761.out _ HK.out
          go_simp
          clear hHeld
          first | (refine hK.out _ _ trivial (fun hHeld => ?_)) | (go_wp2_with fail; refine hK.out _ _ trivial (fun hHeld => ?_))
          clear hK K
          (try simp only [Act.put, List.setIfInBounds_toArray, List.set_cons_zero, List.set_cons_succ])
          clear cc0 cc1 cc2
          refine wpAnyH_ready (rs := [6]) (by kernel_rfl) (by simp) ?_
          refine AllReadyH.cons (at_list rfl) (fun K hK => ?_) AllReadyH.nil
          go_simp
          go_at_call 45; with_reducible refine (HCN.out _ (HT.out.ch HK.out.ch)).mono ?_; rintro e wq ⟨rfl, hCq⟩; replace HK := Lib.hid (HK.out.on hCq); clear hCq
          clear hHeld
          first | (refine hK.out _ _ trivial (fun hHeld => ?_)) | (go_wp2_with fail; refine hK.out _ _ trivial (fun hHeld => ?_))
          clear hK K
          (try simp only [Act.put, List.setIfInBounds_toArray, List.set_cons_zero, List.set_cons_succ])
          refine wpAnyH_ready (rs := [7]) (by kernel_rfl) (by simp) ?_
          refine AllReadyH.cons (at_list rfl) (fun K hK => ?_) AllReadyH.nil
          go_simp
          go_at_call 16; with_reducible refine (HMU.out _).mono ?_; rintro e wq ⟨rfl, hCq⟩; replace HK := Lib.hid (HK.out.on hCq); clear hCq
          clear hHeld
          first | (refine hK.out _ _ trivial (fun hHeld => ?_)) | (go_wp2_with fail; refine hK.out _ _ trivial (fun hHeld => ?_))
          clear hK K
          (try simp only [Act.put, List.setIfInBounds_toArray, List.set_cons_zero, List.set_cons_succ])
          refine tk 8 (v := ?_) hHeld ?_ ?_
          rotate_left 1
          ·intro _ hw; (try dsimp only at hw); go_simp; try with_reducible rfl
          (try simp only [Act.put, List.setIfInBounds_toArray, List.set_cons_zero, List.set_cons_succ])
          obtain ⟨e0, e1, e2⟩ := (HK.out.row _ mm0).rat HTB.out
          have f0 := (HK.out.row _ mm0).frozen (k * 3)
          have f1 := (HK.out.row _ mm0).frozen (k * 3 + 1)
          have f2 := (HK.out.row _ mm0).frozen (k * 3 + 2)
          refine wpAnyH_ready (rs := [9]) (by kernel_rfl) (by simp) ?_
          refine AllReadyH.cons (at_list rfl) (fun K hK => ?_) AllReadyH.nil
          go_simp
          clear hHeld
          replace HK := Lib.hid (HK.out.putAt (i := k) (by omega) (fun p hp => by cases hp) (by rw [List.length_set, HTL.out]; omega) (se, me, de))
          refine hK.out _ _ trivial (fun hHeld => ?_)
          clear hK K e0 e1 e2 f0 f1 f2
          (try simp only [Act.put, List.setIfInBounds_toArray, List.set_cons_zero, List.set_cons_succ])
          refine wpAnyH_done (by kernel_rfl) ?_ _
          clear hHeld
          go_wp2_with fail
          go_roundg (gk - 1)
          case measure => omega
          case rel =>
           refine ⟨k + 1, by omega, by go_num, ?_⟩
           rw [HTN.out]
           exact HK.out
         ·go_simp
          go_at_call 45; with_reducible refine (HCN.out _ (HT.out.ch HK.out.ch)).mono ?_; rintro e wq ⟨rfl, hCq⟩; replace HK := Lib.hid (HK.out.on hCq); clear hCq
          clear hHeld
          first | (refine hK.out _ _ trivial (fun hHeld => ?_)) | (go_wp2_with fail; refine hK.out _ _ trivial (fun hHeld => ?_))
          clear hK K
          (try simp only [Act.put, List.setIfInBounds_toArray, List.set_cons_zero, List.set_cons_succ])
          refine wpAnyH_ready (rs := [5]) (by kernel_rfl) (by simp) ?_
          refine AllReadyH.cons (at_list rfl) (fun K hK => ?_) AllReadyH.nil
          obtain ⟨cc0, cc1, cc2⟩ := HF761.out _ HK.out
          go_simp
          clear hHeld
          first | (refine hK.out _ _ trivial (fun hHeld => ?_)) | (go_wp2_with fail; refine hK.out _ _ trivial (fun hHeld => ?_))
          clear hK K
          (try simp only [Act.put, List.setIfInBounds_toArray, List.set_cons_zero, List.set_cons_succ])
          clear cc0 cc1 cc2
          refine wpAnyH_ready (rs := [7]) (by kernel_rfl) (by simp) ?_
          refine AllReadyH.cons (at_list rfl) (fun K hK => ?_) AllReadyH.nil
          go_simp
          go_at_call 16; with_reducible refine (HMU.out _).mono ?_; rintro e wq ⟨rfl, hCq⟩; replace HK := Lib.hid (HK.out.on hCq); clear hCq
          clear hHeld
          first | (refine hK.out _ _ trivial (fun hHeld => ?_)) | (go_wp2_with fail; refine hK.out _ _ trivial (fun hHeld => ?_))
          clear hK K
          (try simp only [Act.put, List.setIfInBounds_toArray, List.set_cons_zero, List.set_cons_succ])
          refine tk 8 (v := ?_) hHeld ?_ ?_
          rotate_left 1
          ·intro _ hw; (try dsimp only at hw); go_simp; try with_reducible rfl
          (try simp only [Act.put, List.setIfInBounds_toArray, List.set_cons_zero, List.set_cons_succ])
          obtain ⟨e0, e1, e2⟩ := (HK.out.row _ mm0).rat HTB.out
          have f0 := (HK.out.row _ mm0).frozen (k * 3)
          have f1 := (HK.out.row _ mm0).frozen (k * 3 + 1)
          have f2 := (HK.out.row _ mm0).frozen (k * 3 + 2)
          refine wpAnyH_ready (rs := [9]) (by kernel_rfl) (by simp) ?_
          refine AllReadyH.cons (at_list rfl) (fun K hK => ?_) AllReadyH.nil
          go_simp
          clear hHeld
          replace HK := Lib.hid (HK.out.putAt (i := k) (by omega) (fun p hp => by cases hp) (by rw [List.length_set, HTL.out]; omega) (se, me, de))
          refine hK.out _ _ trivial (fun hHeld => ?_)
          clear hK K e0 e1 e2 f0 f1 f2
          (try simp only [Act.put, List.setIfInBounds_toArray, List.set_cons_zero, List.set_cons_succ])
          refine wpAnyH_done (by kernel_rfl) ?_ _
          clear hHeld
          go_wp2_with fail
          go_roundg (gk - 1)
          case measure => omega
          case rel =>
           refine ⟨k + 1, by omega, by go_num, ?_⟩
           rw [HTN.out]
           exact HK.out
       ·have hkn : n = k := by omega
        subst hkn
        have hkd : decide ((n : Int) < (n : Int)) = false := decide_eq_false (Int.lt_irrefl _)
        go_wp2_with fail
        go_ret2
        have hb := HK.out.row _ mm0
        simp only at hb
        rw [List.take_of_length_le (Nat.le_of_eq HRL.out), List.drop_of_length_le (Nat.le_of_eq (HPN.out j)), List.append_nil] at hb
        exact ⟨_, _, rfl, ⟨HRL.out, fun e => by simp at e, fun a ha => by
         obtain rfl := Option.some.inj ha
         exact ⟨rfl, _, [], sp, by simpa using hb, rfl⟩⟩, HK.out.ch⟩
end Go.Proofs.YtkeomlpecjjhiaaGreatDoor
