/- Package tithinglaw05: sanity. -/
import Derived.Test.YtnbcfolmadkliaaDoorSp
import Derived.Test.YtnbcfolmadkliaaDoorSq
import Derived.Test.YtnbcfolmadkliaaDoorSl
import Derived.Test.YtnbcfolmadkliaaDoorSm
import Derived.Deep.RegionHeld3
namespace Go.Proofs.YtnbcfolmadkliaaDoor
open Go.RowKit Go.Shelf
/-- Slices that lie in a world that has come of w. -/
abbrev Ent := Option Addr × Nat × List Spn.Sp
structure Kr (w W : World) (L : List Ent) : Prop where
  ch : Ch w.heap.size none1 w W
  rd : ∀ t ∈ L, Rd spc 2 W t.1 t.2.1 t.2.2
theorem Kr.nil (w : World) : Kr w w [] := ⟨Ch.refl _ _ _, by simp⟩
theorem Kr.on {w W W' : World} {L : List Ent} (h : Kr w W L) (hC : Ch W.heap.size none1 W W') : Kr w W' L := ⟨h.ch.step0 hC (Nat.le_refl _), fun t ht => (h.rd t ht).ch hC⟩
theorem Kr.drew {w W : World} {L : List Ent} (h : Kr w W L) : Kr w W.drew L := h.on ((Ch.refl _ _ W).drew)
theorem Kr.drewN {w W : World} {L : List Ent} (h : Kr w W L) (n : Nat) : Kr w (W.drewN n) L := h.on ((Ch.refl _ _ W).drewN n)
theorem Kr.add {w W : World} {L : List Ent} (h : Kr w W L) {p : Option Addr} {n : Nat} {l : List Spn.Sp} (hr : Rd spc 2 W p n l) : Kr w W ((p, n, l) :: L) := ⟨h.ch, fun t ht => by
  rcases List.mem_cons.1 ht with rfl | ht
  · exact hr
  · exact h.rd t ht⟩
theorem Kr.new {w W : World} {L : List Ent} (h : Kr w W L) (l : List Spn.Sp) (t : TypeId) : Kr w (W.alloc (.cells (l.flatMap spc).toArray t (0, 0))) ((some ⟨W.heap.size, 0, none⟩, l.length, l) :: L) :=
  (h.on ((Ch.refl _ _ W).alloc (Nat.le_refl _) _)).add (Rd.blk0 spc_len (by have := Blk.new W (l.flatMap spc).toArray t; simpa using this) rfl)
theorem Kr.res {w W W' : World} {L : List Ent} (h : Kr w W L) (hC : Ch W.heap.size none1 W W') {p : Option Addr} {n : Nat} {l : List Spn.Sp} (hr : Rd spc 2 W' p n l) : Kr w W' ((p, n, l) :: L) := (h.on hC).add hr
theorem Kr.cells {w W : World} {L : List Ent} (h : Kr w W L) {g : Nat} {x y : Int} (hm : (some ⟨g, 0, none⟩, 1, [(x, y)]) ∈ L) : W.cell? ⟨g, 0, none⟩ = some (iz x) ∧ W.cell? ⟨g, 1, none⟩ = some (iz y) := by
  have := (h.rd _ hm).sp (i := 0) (a := x) (b := y) rfl
  simpa using this
set_option maxRecDepth 100000 in
set_option maxHeartbeats 800000 in
theorem to_any (a b : Int) (w : World) : Calls Tryd.prog 23 #[iz a, iz b] w (Ya w (SpV a b)) := by
  have hb := Blk.new w #[iz a, iz b] 35
  have HB := Lib.hid hb
  clear hb
  go_enter Tryd.func23, Tryd.ntmps23
  go_wp2_with fail
  refine bodyPost_ret (results_cell_row (P := Tryd.prog) rfl _ _ w.heap.size 35 _ (0, 0) _ rfl HB.out Tryd.underlying35 rfl (by kernel_rfl)) rfl ?_
  exact ⟨rfl, (Ch.refl _ _ w).alloc (Nat.le_refl _) _⟩
theorem san_norm : Spn.nf (Spn.has [(10, 20), (5, 10), (30, 30), (25, 26)]) = [(5, 20), (25, 26)] := Spn.nf_eq (by unfold Spn.Nrm; decide) fun d => by
  rw [Bool.eq_iff_iff]
  simp [Spn.has, Spn.inn, Spn.rt]
  omega
theorem san_meet : Spn.nf (dMeet [(0, 10), (20, 30)] [(5, 25)]) = [(5, 10), (20, 25)] := Spn.nf_eq (by unfold Spn.Nrm; decide) fun d => by
  rw [Bool.eq_iff_iff]
  simp [dMeet, Spn.has, Spn.inn, Spn.rt]
  omega
theorem san_less : Spn.nf (dLess [(0, 10)] [(3, 5)]) = [(0, 3), (5, 10)] := Spn.nf_eq (by unfold Spn.Nrm; decide) fun d => by
  rw [Bool.eq_iff_iff]
  simp [dLess, Spn.has, Spn.inn, Spn.rt]
  omega
theorem san_c0 : cenV (Spn.has [(10, 20)]) 8 0 = .tuple #[iz 8, .bool true] := cenV_some (by decide) (Spn.ends_zero (by decide))
theorem san_c2 : cenV (Spn.has [(10, 20)]) 8 2 = .tuple #[iz 10, .bool true] := cenV_some (by decide) ⟨by decide, by decide, by decide +kernel, .inr (by decide)⟩
theorem san_c3 : cenV (Spn.has [(10, 20)]) 8 3 = .tuple #[iz 21, .bool true] := cenV_some (by decide) ⟨by decide, by decide, by decide +kernel, .inr (by decide)⟩
theorem san_c1 : cenV (Spn.has []) 3652058 1 = .tuple #[iz 0, .bool false] := cenV_none fun _ d hd => by
  have h1 := hd.lo
  have h2 := hd.hi
  obtain rfl : d = 3652058 := by omega
  have := hd.free
  rw [Int.sub_self] at this
  cases this
theorem san_y0 : yV 0 = .tuple #[SpV 730119 730485, .bool true] := by rw [yV_yes (by decide) (by decide)]; rfl
theorem san_y20 : yV 20 = .tuple #[SpV 0 0, .bool false] := yV_no (by decide)
theorem san_p : pV 730119 = .tuple #[iz 0, .bool true] := by rw [pV_yes (by decide) (by decide)]; rfl
theorem san_days : Spn.days (Spn.nf (Spn.has [(10, 20)])) = 10 := by rw [Spn.nf_has (by unfold Spn.Nrm; decide)]; rfl
theorem san_right : Spn.rt (3, 4) = true := by decide
theorem sn_norm (g c : Nat) (W : World) (h : Rd spc 2 W (some ⟨g, 0, none⟩) 4 [(10, 20), (5, 10), (30, 30), (25, 26)]) : Calls Tryd.prog 11 #[.slice (some ⟨g, 0, none⟩) 4 c] W (Ys W [(5, 20), (25, 26)]) := by
  have := Norm_any _ _ _ c W h (by omega)
  rwa [san_norm] at this
theorem sn_meet (g g' c c' : Nat) (W : World) (h : Rd spc 2 W (some ⟨g, 0, none⟩) 2 [(0, 10), (20, 30)]) (h' : Rd spc 2 W (some ⟨g', 0, none⟩) 1 [(5, 25)]) : Calls Tryd.prog 13 #[.slice (some ⟨g, 0, none⟩) 2 c, .slice (some ⟨g', 0, none⟩) 1 c'] W (Ys W [(5, 10), (20, 25)]) := by
  have := Meet_any _ _ _ _ _ _ c c' W h h' (by omega) (by omega)
  rwa [san_meet] at this
theorem sn_less (g g' c c' : Nat) (W : World) (h : Rd spc 2 W (some ⟨g, 0, none⟩) 1 [(0, 10)]) (h' : Rd spc 2 W (some ⟨g', 0, none⟩) 1 [(3, 5)]) : Calls Tryd.prog 14 #[.slice (some ⟨g, 0, none⟩) 1 c, .slice (some ⟨g', 0, none⟩) 1 c'] W (Ys W [(0, 3), (5, 10)]) := by
  have := Less_any _ _ _ _ _ _ c c' W h h' (by omega) (by omega)
  rwa [san_less] at this
theorem sn_c0 (g c : Nat) (W : World) (h : Rd spc 2 W (some ⟨g, 0, none⟩) 1 [(10, 20)]) : Calls Tryd.prog 17 #[.slice (some ⟨g, 0, none⟩) 1 c, iz 8, iz 0] W (Ya W (.tuple #[iz 8, .bool true])) := by
  have := Count_any _ _ _ c 8 0 W h (by omega) (by omega) (by omega)
  rwa [san_c0] at this
theorem sn_c2 (g c : Nat) (W : World) (h : Rd spc 2 W (some ⟨g, 0, none⟩) 1 [(10, 20)]) : Calls Tryd.prog 17 #[.slice (some ⟨g, 0, none⟩) 1 c, iz 8, iz 2] W (Ya W (.tuple #[iz 10, .bool true])) := by
  have := Count_any _ _ _ c 8 2 W h (by omega) (by omega) (by omega)
  rwa [san_c2] at this
theorem sn_c3 (g c : Nat) (W : World) (h : Rd spc 2 W (some ⟨g, 0, none⟩) 1 [(10, 20)]) : Calls Tryd.prog 17 #[.slice (some ⟨g, 0, none⟩) 1 c, iz 8, iz 3] W (Ya W (.tuple #[iz 21, .bool true])) := by
  have := Count_any _ _ _ c 8 3 W h (by omega) (by omega) (by omega)
  rwa [san_c3] at this
theorem sn_c1 (W : World) : Calls Tryd.prog 17 #[.slice none 0 0, iz 3652058, iz 1] W (Ya W (.tuple #[iz 0, .bool false])) := by
  have := Count_any [] none 0 0 3652058 1 W (Rd.none W) (by omega) (by omega) (by omega)
  rwa [san_c1] at this
theorem sn_y0 (W : World) (ht : LenIs W) : Calls Tryd.prog 18 #[iz 0] W (Ya W (.tuple #[SpV 730119 730485, .bool true])) := by
  have := Year_any 0 W ht (by omega)
  rwa [san_y0] at this
theorem sn_y20 (W : World) (ht : LenIs W) : Calls Tryd.prog 18 #[iz 20] W (Ya W (.tuple #[SpV 0 0, .bool false])) := by
  have := Year_any 20 W ht (by omega)
  rwa [san_y20] at this
theorem sn_p (W : World) (ht : LenIs W) : Calls Tryd.prog 21 #[iz 730119] W fun e w' => e = .returned (.tuple #[iz 0, .bool true]) ∧ W = w' := by
  have := Period_any 730119 W ht
  rwa [san_p] at this
theorem sn_days (g c : Nat) (W : World) (h : Rd spc 2 W (some ⟨g, 0, none⟩) 1 [(10, 20)]) : Calls Tryd.prog 24 #[.slice (some ⟨g, 0, none⟩) 1 c] W (Ya W (iz 10)) := by
  have := Days_any _ _ _ c W h (by omega)
  rwa [san_days] at this
theorem sn_right (W : World) : Calls Tryd.prog 15 #[SpV 3 4] W (Ya W (.bool true)) := by
  have := Right_any 3 4 W
  rw [san_right] at this
  refine this.mono ?_
  rintro e w' ⟨rfl, rfl⟩
  exact ⟨rfl, (Ch.refl _ _ W).alloc (Nat.le_refl _) _⟩
set_option maxRecDepth 100000 in
set_option maxHeartbeats 1000000 in
theorem sanity_any (w : World) (ht : LenIs w) : Calls Tryd.prog 7 #[] w (Ya w (.bool true)) := by
  have HT := Lib.hid ht
  have HK := Lib.hid (Kr.nil w)
  clear ht
  go_enter Tryd.func7, Tryd.ntmps7
  go_wp2_with fail
  with_reducible refine (to_any 10 20 _).mono ?_
  rintro e w1 ⟨rfl, hC⟩
  have HK2 := Lib.hid (HK.out.on hC)
  clear hC HK
  have HK := HK2
  clear HK2
  go_wp2_with fail
  have HK2 := Lib.hid (show Kr w (w1.alloc (.cells #[iz 10, iz 20] 35 (0, 0))) ((some ⟨w1.heap.size, 0, none⟩, 1, [(10, 20)]) :: _) from HK.out.new [(10, 20)] 35)
  obtain ⟨w2, hW⟩ : ∃ W, w1.alloc (.cells #[iz 10, iz 20] 35 (0, 0)) = W := ⟨_, rfl⟩
  rw [hW] at HK2 ⊢
  obtain ⟨g2, hA⟩ : ∃ A, w1.heap.size = A := ⟨_, rfl⟩
  rw [hA] at HK2 ⊢
  clear hA hW HK
  have HK := HK2
  clear HK2
  with_reducible refine (to_any 10 20 _).mono ?_
  rintro e w3 ⟨rfl, hC⟩
  have HK2 := Lib.hid (HK.out.on hC)
  clear hC HK
  have HK := HK2
  clear HK2
  go_wp2_with fail
  with_reducible refine (to_any 5 10 _).mono ?_
  rintro e w4 ⟨rfl, hC⟩
  have HK2 := Lib.hid (HK.out.on hC)
  clear hC HK
  have HK := HK2
  clear HK2
  go_wp2_with fail
  with_reducible refine (to_any 30 30 _).mono ?_
  rintro e w5 ⟨rfl, hC⟩
  have HK2 := Lib.hid (HK.out.on hC)
  clear hC HK
  have HK := HK2
  clear HK2
  go_wp2_with fail
  with_reducible refine (to_any 25 26 _).mono ?_
  rintro e w6 ⟨rfl, hC⟩
  have HK2 := Lib.hid (HK.out.on hC)
  clear hC HK
  have HK := HK2
  clear HK2
  go_wp2_with fail
  have HK2 := Lib.hid (show Kr w (w6.alloc (.cells #[iz 10, iz 20, iz 5, iz 10, iz 30, iz 30, iz 25, iz 26] 35 (0, 0))) ((some ⟨w6.heap.size, 0, none⟩, 4, [(10, 20), (5, 10), (30, 30), (25, 26)]) :: _) from HK.out.new [(10, 20), (5, 10), (30, 30), (25, 26)] 35)
  obtain ⟨w7, hW⟩ : ∃ W, w6.alloc (.cells #[iz 10, iz 20, iz 5, iz 10, iz 30, iz 30, iz 25, iz 26] 35 (0, 0)) = W := ⟨_, rfl⟩
  rw [hW] at HK2 ⊢
  obtain ⟨g7, hA⟩ : ∃ A, w6.heap.size = A := ⟨_, rfl⟩
  rw [hA] at HK2 ⊢
  clear hA hW HK
  have HK := HK2
  clear HK2
  refine (sn_norm _ _ _ (show Rd spc 2 w7 (some ⟨g7, 0, none⟩) 4 [(10, 20), (5, 10), (30, 30), (25, 26)] from HK.out.rd (some ⟨g7, 0, none⟩, 4, [(10, 20), (5, 10), (30, 30), (25, 26)]) (.head _))).mono ?_
  rintro e w8 ⟨p8, n8, c8, rfl, hr, hC⟩
  have HK2 := Lib.hid (HK.out.res hC hr)
  clear hC hr HK
  have HK := HK2
  clear HK2
  go_wp2_with fail
  with_reducible refine (to_any 5 20 _).mono ?_
  rintro e w9 ⟨rfl, hC⟩
  have HK2 := Lib.hid (HK.out.on hC)
  clear hC HK
  have HK := HK2
  clear HK2
  go_wp2_with fail
  with_reducible refine (to_any 25 26 _).mono ?_
  rintro e w10 ⟨rfl, hC⟩
  have HK2 := Lib.hid (HK.out.on hC)
  clear hC HK
  have HK := HK2
  clear HK2
  go_wp2_with fail
  have HK2 := Lib.hid (show Kr w (w10.alloc (.cells #[iz 5, iz 20, iz 25, iz 26] 35 (0, 0))) ((some ⟨w10.heap.size, 0, none⟩, 2, [(5, 20), (25, 26)]) :: _) from HK.out.new [(5, 20), (25, 26)] 35)
  obtain ⟨w11, hW⟩ : ∃ W, w10.alloc (.cells #[iz 5, iz 20, iz 25, iz 26] 35 (0, 0)) = W := ⟨_, rfl⟩
  rw [hW] at HK2 ⊢
  obtain ⟨g11, hA⟩ : ∃ A, w10.heap.size = A := ⟨_, rfl⟩
  rw [hA] at HK2 ⊢
  clear hA hW HK
  have HK := HK2
  clear HK2
  have hn := (show Rd spc 2 w11 (p8) n8 [(5, 20), (25, 26)] from HK.out.rd (p8, n8, [(5, 20), (25, 26)]) (.tail _ (.head _))).len
  simp only [List.length_cons, List.length_nil] at hn
  have HS := Lib.hid (fun cx cy => Same_eq _ _ _ _ _ cx cy w11 (show Rd spc 2 w11 (p8) n8 [(5, 20), (25, 26)] from HK.out.rd (p8, n8, [(5, 20), (25, 26)]) (.tail _ (.head _))) (show Rd spc 2 w11 (some ⟨g11, 0, none⟩) 2 [(5, 20), (25, 26)] from HK.out.rd (some ⟨g11, 0, none⟩, 2, [(5, 20), (25, 26)]) (.head _)) (by omega))
  refine (HS.out _ _).mono ?_
  rintro e w12 ⟨rfl, q, hW⟩
  have HK2 := Lib.hid (show Kr w w12 _ by rw [hW]; exact HK.out.drewN q)
  clear HK hW hn HS q
  have HK := HK2
  clear HK2
  go_wp2_with fail
  with_reducible refine (to_any 0 10 _).mono ?_
  rintro e w13 ⟨rfl, hC⟩
  have HK2 := Lib.hid (HK.out.on hC)
  clear hC HK
  have HK := HK2
  clear HK2
  go_wp2_with fail
  with_reducible refine (to_any 20 30 _).mono ?_
  rintro e w14 ⟨rfl, hC⟩
  have HK2 := Lib.hid (HK.out.on hC)
  clear hC HK
  have HK := HK2
  clear HK2
  go_wp2_with fail
  have HK2 := Lib.hid (show Kr w (w14.alloc (.cells #[iz 0, iz 10, iz 20, iz 30] 35 (0, 0))) ((some ⟨w14.heap.size, 0, none⟩, 2, [(0, 10), (20, 30)]) :: _) from HK.out.new [(0, 10), (20, 30)] 35)
  obtain ⟨w15, hW⟩ : ∃ W, w14.alloc (.cells #[iz 0, iz 10, iz 20, iz 30] 35 (0, 0)) = W := ⟨_, rfl⟩
  rw [hW] at HK2 ⊢
  obtain ⟨g15, hA⟩ : ∃ A, w14.heap.size = A := ⟨_, rfl⟩
  rw [hA] at HK2 ⊢
  clear hA hW HK
  have HK := HK2
  clear HK2
  with_reducible refine (to_any 5 25 _).mono ?_
  rintro e w16 ⟨rfl, hC⟩
  have HK2 := Lib.hid (HK.out.on hC)
  clear hC HK
  have HK := HK2
  clear HK2
  go_wp2_with fail
  have HK2 := Lib.hid (show Kr w (w16.alloc (.cells #[iz 5, iz 25] 35 (0, 0))) ((some ⟨w16.heap.size, 0, none⟩, 1, [(5, 25)]) :: _) from HK.out.new [(5, 25)] 35)
  obtain ⟨w17, hW⟩ : ∃ W, w16.alloc (.cells #[iz 5, iz 25] 35 (0, 0)) = W := ⟨_, rfl⟩
  rw [hW] at HK2 ⊢
  obtain ⟨g17, hA⟩ : ∃ A, w16.heap.size = A := ⟨_, rfl⟩
  rw [hA] at HK2 ⊢
  clear hA hW HK
  have HK := HK2
  clear HK2
  refine (sn_meet _ _ _ _ _ (show Rd spc 2 w17 (some ⟨g15, 0, none⟩) 2 [(0, 10), (20, 30)] from HK.out.rd (some ⟨g15, 0, none⟩, 2, [(0, 10), (20, 30)]) (.tail _ (.head _))) (show Rd spc 2 w17 (some ⟨g17, 0, none⟩) 1 [(5, 25)] from HK.out.rd (some ⟨g17, 0, none⟩, 1, [(5, 25)]) (.head _))).mono ?_
  rintro e w18 ⟨p18, n18, c18, rfl, hr, hC⟩
  have HK2 := Lib.hid (HK.out.res hC hr)
  clear hC hr HK
  have HK := HK2
  clear HK2
  go_wp2_with fail
  with_reducible refine (to_any 5 10 _).mono ?_
  rintro e w19 ⟨rfl, hC⟩
  have HK2 := Lib.hid (HK.out.on hC)
  clear hC HK
  have HK := HK2
  clear HK2
  go_wp2_with fail
  with_reducible refine (to_any 20 25 _).mono ?_
  rintro e w20 ⟨rfl, hC⟩
  have HK2 := Lib.hid (HK.out.on hC)
  clear hC HK
  have HK := HK2
  clear HK2
  go_wp2_with fail
  have HK2 := Lib.hid (show Kr w (w20.alloc (.cells #[iz 5, iz 10, iz 20, iz 25] 35 (0, 0))) ((some ⟨w20.heap.size, 0, none⟩, 2, [(5, 10), (20, 25)]) :: _) from HK.out.new [(5, 10), (20, 25)] 35)
  obtain ⟨w21, hW⟩ : ∃ W, w20.alloc (.cells #[iz 5, iz 10, iz 20, iz 25] 35 (0, 0)) = W := ⟨_, rfl⟩
  rw [hW] at HK2 ⊢
  obtain ⟨g21, hA⟩ : ∃ A, w20.heap.size = A := ⟨_, rfl⟩
  rw [hA] at HK2 ⊢
  clear hA hW HK
  have HK := HK2
  clear HK2
  have hn := (show Rd spc 2 w21 (p18) n18 [(5, 10), (20, 25)] from HK.out.rd (p18, n18, [(5, 10), (20, 25)]) (.tail _ (.head _))).len
  simp only [List.length_cons, List.length_nil] at hn
  have HS := Lib.hid (fun cx cy => Same_eq _ _ _ _ _ cx cy w21 (show Rd spc 2 w21 (p18) n18 [(5, 10), (20, 25)] from HK.out.rd (p18, n18, [(5, 10), (20, 25)]) (.tail _ (.head _))) (show Rd spc 2 w21 (some ⟨g21, 0, none⟩) 2 [(5, 10), (20, 25)] from HK.out.rd (some ⟨g21, 0, none⟩, 2, [(5, 10), (20, 25)]) (.head _)) (by omega))
  refine (HS.out _ _).mono ?_
  rintro e w22 ⟨rfl, q, hW⟩
  have HK2 := Lib.hid (show Kr w w22 _ by rw [hW]; exact HK.out.drewN q)
  clear HK hW hn HS q
  have HK := HK2
  clear HK2
  go_wp2_with fail
  with_reducible refine (to_any 0 10 _).mono ?_
  rintro e w23 ⟨rfl, hC⟩
  have HK2 := Lib.hid (HK.out.on hC)
  clear hC HK
  have HK := HK2
  clear HK2
  go_wp2_with fail
  have HK2 := Lib.hid (show Kr w (w23.alloc (.cells #[iz 0, iz 10] 35 (0, 0))) ((some ⟨w23.heap.size, 0, none⟩, 1, [(0, 10)]) :: _) from HK.out.new [(0, 10)] 35)
  obtain ⟨w24, hW⟩ : ∃ W, w23.alloc (.cells #[iz 0, iz 10] 35 (0, 0)) = W := ⟨_, rfl⟩
  rw [hW] at HK2 ⊢
  obtain ⟨g24, hA⟩ : ∃ A, w23.heap.size = A := ⟨_, rfl⟩
  rw [hA] at HK2 ⊢
  clear hA hW HK
  have HK := HK2
  clear HK2
  with_reducible refine (to_any 3 5 _).mono ?_
  rintro e w25 ⟨rfl, hC⟩
  have HK2 := Lib.hid (HK.out.on hC)
  clear hC HK
  have HK := HK2
  clear HK2
  go_wp2_with fail
  have HK2 := Lib.hid (show Kr w (w25.alloc (.cells #[iz 3, iz 5] 35 (0, 0))) ((some ⟨w25.heap.size, 0, none⟩, 1, [(3, 5)]) :: _) from HK.out.new [(3, 5)] 35)
  obtain ⟨w26, hW⟩ : ∃ W, w25.alloc (.cells #[iz 3, iz 5] 35 (0, 0)) = W := ⟨_, rfl⟩
  rw [hW] at HK2 ⊢
  obtain ⟨g26, hA⟩ : ∃ A, w25.heap.size = A := ⟨_, rfl⟩
  rw [hA] at HK2 ⊢
  clear hA hW HK
  have HK := HK2
  clear HK2
  refine (sn_less _ _ _ _ _ (show Rd spc 2 w26 (some ⟨g24, 0, none⟩) 1 [(0, 10)] from HK.out.rd (some ⟨g24, 0, none⟩, 1, [(0, 10)]) (.tail _ (.head _))) (show Rd spc 2 w26 (some ⟨g26, 0, none⟩) 1 [(3, 5)] from HK.out.rd (some ⟨g26, 0, none⟩, 1, [(3, 5)]) (.head _))).mono ?_
  rintro e w27 ⟨p27, n27, c27, rfl, hr, hC⟩
  have HK2 := Lib.hid (HK.out.res hC hr)
  clear hC hr HK
  have HK := HK2
  clear HK2
  go_wp2_with fail
  with_reducible refine (to_any 0 3 _).mono ?_
  rintro e w28 ⟨rfl, hC⟩
  have HK2 := Lib.hid (HK.out.on hC)
  clear hC HK
  have HK := HK2
  clear HK2
  go_wp2_with fail
  with_reducible refine (to_any 5 10 _).mono ?_
  rintro e w29 ⟨rfl, hC⟩
  have HK2 := Lib.hid (HK.out.on hC)
  clear hC HK
  have HK := HK2
  clear HK2
  go_wp2_with fail
  have HK2 := Lib.hid (show Kr w (w29.alloc (.cells #[iz 0, iz 3, iz 5, iz 10] 35 (0, 0))) ((some ⟨w29.heap.size, 0, none⟩, 2, [(0, 3), (5, 10)]) :: _) from HK.out.new [(0, 3), (5, 10)] 35)
  obtain ⟨w30, hW⟩ : ∃ W, w29.alloc (.cells #[iz 0, iz 3, iz 5, iz 10] 35 (0, 0)) = W := ⟨_, rfl⟩
  rw [hW] at HK2 ⊢
  obtain ⟨g30, hA⟩ : ∃ A, w29.heap.size = A := ⟨_, rfl⟩
  rw [hA] at HK2 ⊢
  clear hA hW HK
  have HK := HK2
  clear HK2
  have hn := (show Rd spc 2 w30 (p27) n27 [(0, 3), (5, 10)] from HK.out.rd (p27, n27, [(0, 3), (5, 10)]) (.tail _ (.head _))).len
  simp only [List.length_cons, List.length_nil] at hn
  have HS := Lib.hid (fun cx cy => Same_eq _ _ _ _ _ cx cy w30 (show Rd spc 2 w30 (p27) n27 [(0, 3), (5, 10)] from HK.out.rd (p27, n27, [(0, 3), (5, 10)]) (.tail _ (.head _))) (show Rd spc 2 w30 (some ⟨g30, 0, none⟩) 2 [(0, 3), (5, 10)] from HK.out.rd (some ⟨g30, 0, none⟩, 2, [(0, 3), (5, 10)]) (.head _)) (by omega))
  refine (HS.out _ _).mono ?_
  rintro e w31 ⟨rfl, q, hW⟩
  have HK2 := Lib.hid (show Kr w w31 _ by rw [hW]; exact HK.out.drewN q)
  clear HK hW hn HS q
  have HK := HK2
  clear HK2
  go_wp2_with fail
  refine (sn_c0 _ _ _ (show Rd spc 2 w31 (some ⟨g2, 0, none⟩) 1 [(10, 20)] from HK.out.rd (some ⟨g2, 0, none⟩, 1, [(10, 20)]) (.tail _ (.tail _ (.tail _ (.tail _ (.tail _ (.tail _ (.tail _ (.tail _ (.tail _ (.tail _ (.tail _ (.head _)))))))))))))).mono ?_
  rintro e w32 ⟨rfl, hC⟩
  have HK2 := Lib.hid (HK.out.on hC)
  clear hC HK
  have HK := HK2
  clear HK2
  go_wp2_with fail
  refine (sn_c2 _ _ _ (show Rd spc 2 w32 (some ⟨g2, 0, none⟩) 1 [(10, 20)] from HK.out.rd (some ⟨g2, 0, none⟩, 1, [(10, 20)]) (.tail _ (.tail _ (.tail _ (.tail _ (.tail _ (.tail _ (.tail _ (.tail _ (.tail _ (.tail _ (.tail _ (.head _)))))))))))))).mono ?_
  rintro e w33 ⟨rfl, hC⟩
  have HK2 := Lib.hid (HK.out.on hC)
  clear hC HK
  have HK := HK2
  clear HK2
  go_wp2_with fail
  refine (sn_c3 _ _ _ (show Rd spc 2 w33 (some ⟨g2, 0, none⟩) 1 [(10, 20)] from HK.out.rd (some ⟨g2, 0, none⟩, 1, [(10, 20)]) (.tail _ (.tail _ (.tail _ (.tail _ (.tail _ (.tail _ (.tail _ (.tail _ (.tail _ (.tail _ (.tail _ (.head _)))))))))))))).mono ?_
  rintro e w34 ⟨rfl, hC⟩
  have HK2 := Lib.hid (HK.out.on hC)
  clear hC HK
  have HK := HK2
  clear HK2
  go_wp2_with fail
  refine (sn_c1 _).mono ?_
  rintro e w35 ⟨rfl, hC⟩
  have HK2 := Lib.hid (HK.out.on hC)
  clear hC HK
  have HK := HK2
  clear HK2
  go_wp2_with fail
  refine (sn_y0 _ (len_ch HT.out HK.out.ch)).mono ?_
  rintro e w36 ⟨rfl, hC⟩
  have HK2 := Lib.hid (HK.out.on hC)
  clear hC HK
  have HK := HK2
  clear HK2
  go_wp2_with fail
  have HK2 := Lib.hid (show Kr w (w36.alloc (.cells #[iz 730119, iz 730485] 35 (0, 0))) ((some ⟨w36.heap.size, 0, none⟩, 1, [(730119, 730485)]) :: _) from HK.out.new [(730119, 730485)] 35)
  obtain ⟨w37, hW⟩ : ∃ W, w36.alloc (.cells #[iz 730119, iz 730485] 35 (0, 0)) = W := ⟨_, rfl⟩
  rw [hW] at HK2 ⊢
  obtain ⟨g37, hA⟩ : ∃ A, w36.heap.size = A := ⟨_, rfl⟩
  rw [hA] at HK2 ⊢
  clear hA hW HK
  have HK := HK2
  clear HK2
  refine (sn_p _ (len_ch HT.out HK.out.ch)).mono ?_
  rintro e w' ⟨rfl, rfl⟩
  go_wp2_with fail
  refine (sn_y20 _ (len_ch HT.out HK.out.ch)).mono ?_
  rintro e w38 ⟨rfl, hC⟩
  have HK2 := Lib.hid (HK.out.on hC)
  clear hC HK
  have HK := HK2
  clear HK2
  go_wp2_with fail
  have HK2 := Lib.hid (show Kr w (w38.alloc (.cells #[iz 0, iz 0] 35 (0, 0))) ((some ⟨w38.heap.size, 0, none⟩, 1, [(0, 0)]) :: _) from HK.out.new [(0, 0)] 35)
  obtain ⟨w39, hW⟩ : ∃ W, w38.alloc (.cells #[iz 0, iz 0] 35 (0, 0)) = W := ⟨_, rfl⟩
  rw [hW] at HK2 ⊢
  obtain ⟨g39, hA⟩ : ∃ A, w38.heap.size = A := ⟨_, rfl⟩
  rw [hA] at HK2 ⊢
  clear hA hW HK
  have HK := HK2
  clear HK2
  have HF := Lib.hid (show ∀ W, Kr w W [(some ⟨g39, 0, none⟩, 1, [(0, 0)]), (some ⟨g37, 0, none⟩, 1, [(730119, 730485)]), (some ⟨g30, 0, none⟩, 2, [(0, 3), (5, 10)]), (p27, n27, [(0, 3), (5, 10)]), (some ⟨g26, 0, none⟩, 1, [(3, 5)]), (some ⟨g24, 0, none⟩, 1, [(0, 10)]), (some ⟨g21, 0, none⟩, 2, [(5, 10), (20, 25)]), (p18, n18, [(5, 10), (20, 25)]), (some ⟨g17, 0, none⟩, 1, [(5, 25)]), (some ⟨g15, 0, none⟩, 2, [(0, 10), (20, 30)]), (some ⟨g11, 0, none⟩, 2, [(5, 20), (25, 26)]), (p8, n8, [(5, 20), (25, 26)]), (some ⟨g7, 0, none⟩, 4, [(10, 20), (5, 10), (30, 30), (25, 26)]), (some ⟨g2, 0, none⟩, 1, [(10, 20)])] → W.cell? ⟨g37, 0, none⟩ = some (iz 730119) ∧ W.cell? ⟨g37, 1, none⟩ = some (iz 730485) from fun W h => h.cells (.tail _ (.head _)))
  have HD := Lib.hid (show ∀ W, Kr w W [(some ⟨g39, 0, none⟩, 1, [(0, 0)]), (some ⟨g37, 0, none⟩, 1, [(730119, 730485)]), (some ⟨g30, 0, none⟩, 2, [(0, 3), (5, 10)]), (p27, n27, [(0, 3), (5, 10)]), (some ⟨g26, 0, none⟩, 1, [(3, 5)]), (some ⟨g24, 0, none⟩, 1, [(0, 10)]), (some ⟨g21, 0, none⟩, 2, [(5, 10), (20, 25)]), (p18, n18, [(5, 10), (20, 25)]), (some ⟨g17, 0, none⟩, 1, [(5, 25)]), (some ⟨g15, 0, none⟩, 2, [(0, 10), (20, 30)]), (some ⟨g11, 0, none⟩, 2, [(5, 20), (25, 26)]), (p8, n8, [(5, 20), (25, 26)]), (some ⟨g7, 0, none⟩, 4, [(10, 20), (5, 10), (30, 30), (25, 26)]), (some ⟨g2, 0, none⟩, 1, [(10, 20)])] → Rd spc 2 W (some ⟨g2, 0, none⟩) 1 [(10, 20)] from fun W h => h.rd (some ⟨g2, 0, none⟩, 1, [(10, 20)]) (.tail _ (.tail _ (.tail _ (.tail _ (.tail _ (.tail _ (.tail _ (.tail _ (.tail _ (.tail _ (.tail _ (.tail _ (.tail _ (.head _)))))))))))))))
  have HKD := Lib.hid HK.out.drew
  clear HK
  have HK := HKD
  clear HKD
  go_region_held3 (fun w' => w'.cell? ⟨g37, 0, none⟩ = some (iz 730119) ∧ w'.cell? ⟨g37, 1, none⟩ = some (iz 730485))
    (first
      | (with_reducible exact HF.out _ HK.out)
      | go_keep)
    (first
      | (go_at_call 23; (with_reducible refine (to_any _ _ _).mono ?_); rintro e wq ⟨rfl, hCq⟩; have HK2 := Lib.hid (HK.out.on hCq); clear hCq HK; have HK := HK2; clear HK2)
      | (go_at_call 24; (with_reducible refine (sn_days _ _ _ (HD.out _ HK.out)).mono ?_); rintro e wq ⟨rfl, hCq⟩; have HK2 := Lib.hid (HK.out.on hCq); clear hCq HK; have HK := HK2; clear HK2)
      | (go_at_call 15; (with_reducible refine (sn_right _).mono ?_); rintro e wq ⟨rfl, hCq⟩; have HK2 := Lib.hid (HK.out.on hCq); clear hCq HK; have HK := HK2; clear HK2))
  go_wp2_with fail
  go_ret
  exact ⟨rfl, HK.out.ch⟩
end Go.Proofs.YtnbcfolmadkliaaDoor
