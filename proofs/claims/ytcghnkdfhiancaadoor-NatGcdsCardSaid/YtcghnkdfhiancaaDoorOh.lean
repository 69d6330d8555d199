/- Contract of package nat's powerOfMontgomery. -/
import Derived.Test.YtcghnkdfhiancaaDoorOe
namespace Go.Proofs.YtcghnkdfhiancaaDoor
open Go.RowKit Go.Shelf
attribute [local go_sem] Oper.semAt_some
theorem rdp_grown {W W' : World} {row : Option Nat} {B n N : Nat} {v : Value} (h : RdP W v n N) (hg : W.grownBy W' row) (hr : ∀ r, row = some r → B ≤ r ∧ ∃ o : Obj, W.heap[r]? = some o ∧ o.isCells = false) : RdP W' v n N := by
  obtain ⟨p, cap, zs, rfl, hd, hv⟩ := h
  refine ⟨p, cap, zs, rfl, ⟨hd.len, hd.lt, hd.nil, fun a ha => ?_⟩, hv⟩
  obtain ⟨h1, t, pre, post, hb, hl⟩ := hd.at' a ha
  exact ⟨h1, t, pre, post, blk_grown hb hg hr, hl⟩
/-- A store into a cell that holds a slice leaves digits as they are. -/
theorem rdp_set {W : World} {N b m : Nat} {v u : Value} {q : Option Addr} {n c : Nat} (h : RdP W v m N) (hc : W.cell? ⟨b, 0, none⟩ = some (.slice q n c)) : RdP (W.setCell ⟨b, 0, none⟩ u) v m N := by
  obtain ⟨p, cap, zs, rfl, hd, hv⟩ := h
  refine ⟨p, cap, zs, rfl, ⟨hd.len, hd.lt, hd.nil, fun a ha => ?_⟩, hv⟩
  obtain ⟨h1, t, pre, post, hb, hl⟩ := hd.at' a ha
  clear hd hv
  by_cases hne : a.block = b
  · have hc0 := hb.cell 0
    rw [hne, hc] at hc0
    rcases pre with _ | ⟨y, pre⟩
    · rcases zs with _ | ⟨x, zs⟩
      · have := hb.set 0 u
        rw [hne] at this ⊢
        exact ⟨h1, t, [], post.set 0 u, this.cast (by simp), hl⟩
      · simp at hc0
    · have := hb.set 0 u
      rw [hne] at this ⊢
      exact ⟨h1, t, u :: pre, post, this.cast (by simp), hl⟩
  · exact ⟨h1, t, pre, post, hb.set_other hne 0 u, hl⟩
/-- A power of the base has an inverse modulo M. -/
theorem mont_inv (M f n : Nat) (hf : (M * f + 1) % D = 0) : ∃ k, D ^ n * k % M = 1 % M := by
  obtain ⟨k, hk⟩ := Nat.dvd_of_mod_eq_zero hf
  refine ⟨k ^ n, ?_⟩
  rw [← Nat.mul_pow, ← hk, Nat.pow_mod, Nat.mul_add_mod]
  rw [← Nat.pow_mod, Nat.one_pow]
theorem mont_cancel (M f n a b : Nat) (hf : (M * f + 1) % D = 0) (h : a * D ^ n % M = b * D ^ n % M) : a % M = b % M := by
  obtain ⟨k, hk⟩ := mont_inv M f n hf
  have key : ∀ c, c * D ^ n * k % M = c % M := fun c => by
    rw [Nat.mul_assoc, Nat.mul_mod, hk, ← Nat.mul_mod, Nat.mul_one]
  rw [← key a, ← key b, Nat.mul_mod, h, ← Nat.mul_mod]
theorem prodM (n M X f : Nat) (vm : Value) (hn : (ds M).length = n) (hM : 0 < M) (hn1 : n ≤ 4398046511104) (hf : (M * f + 1) % D = 0) (hfD : f < D) (a b : Nat) (vx vy : Value) (w : World) (hm : RdD w vm M) (hx : RdP w vx n (X ^ a * D ^ n % M)) (hy : RdP w vy n (X ^ b * D ^ n % M)) :
    Calls Tryd.prog 85 #[.agg #[vm, .int .u64 (f : Int)], vx, vy] w fun e w' => ∃ v, e = .returned v ∧ RdP w' v n (X ^ (a + b) * D ^ n % M) ∧ Ch w.heap.size none1 w w' := by
  refine (product_any n M _ _ f vm vx vy w hm hn hM hn1 hf hfD hx hy (Nat.mod_lt _ hM)).mono ?_
  rintro e w' ⟨v, Z, rfl, hr, hZ, he, hC⟩
  refine ⟨v, rfl, ?_, hC⟩
  have h1 : Z % M = X ^ (a + b) * D ^ n % M := by
    refine mont_cancel M f n _ _ hf ?_
    rw [he, ← Nat.mul_mod, Nat.pow_add]
    congr 1
    generalize X ^ a = u
    generalize X ^ b = v
    generalize D ^ n = d
    grind
  rw [Nat.mod_eq_of_lt hZ] at h1
  rw [← h1]
  exact hr
set_option maxRecDepth 100000 in
set_option maxHeartbeats 2000000 in
theorem powerM (n M X f : Nat) (es : List UInt8) (vx v1 vm : Value) (w : World) (hx : RdP w vx n (X ^ 1 * D ^ n % M)) (h1 : RdP w v1 n (X ^ 0 * D ^ n % M)) (hm : RdD w vm M) (hn : (ds M).length = n) (hM : 0 < M) (hn1 : n ≤ 4398046511104) (hf : (M * f + 1) % D = 0) (hfD : f < D) (he : es.length ≤ 1152921504606846975) :
    Calls Tryd.prog 83 #[vx, v1, S es, .func (.func 85) #[.agg #[vm, .int .u64 (f : Int)]] #[]] w fun e w' => ∃ v, e = .returned v ∧ RdP w' v n (X ^ bv es * D ^ n % M) ∧ Below w.heap.size w w' := by
  obtain ⟨px, cx, xz, rfl, hdx, hxv⟩ := hx
  obtain ⟨p1, c1, oz, rfl, hd1, h1v⟩ := h1
  have HM := Lib.hid hm; clear hm
  have HPX := Lib.hid (show RdP w (.slice px n cx) n (X ^ 1 * D ^ n % M) from ⟨px, cx, xz, rfl, hdx, hxv⟩)
  have HP1 := Lib.hid (show RdP w (.slice p1 n c1) n (X ^ 0 * D ^ n % M) from ⟨p1, c1, oz, rfl, hd1, h1v⟩)
  clear hdx hd1 hxv h1v
  have HPR := Lib.hid (prodM n M X f vm hn hM hn1 hf hfD)
  clear hn hf
  refine (callsIn_wide (n := 6)).1 ?_
  refine callsIn_of_wp_marks Tryd.func83 rfl trivial ?_ rfl
  simp only [Tryd.ntmps83, List.size_toArray, List.length_cons, List.length_nil, Nat.reduceAdd, Nat.reduceSub, Array.replicate_succ, Array.replicate_zero, List.push_toArray, List.append_toArray, List.nil_append, List.cons_append]
  gi_wp2
  refine ⟨trivial, ?_⟩
  refine (callsIn_wide.2 (bitsFromTop_any es _)).mono ?_
  rintro e w' ⟨rfl, rfl⟩
  gi_wp2
  have hb0 : Blk ((((w.alloc (.cells #[.slice px n cx] 57)).alloc (.cells #[.func (.func 85) #[.agg #[vm, .int .u64 (f : Int)]] #[]] 70)).alloc (.cells #[.slice p1 n c1] 57)).alloc (.cells #[S es] 24)) w.heap.size 57 [.slice px n cx] :=
    (((Blk.new w _ _).alloc _).alloc _).alloc _
  have hb1 : Blk ((((w.alloc (.cells #[.slice px n cx] 57)).alloc (.cells #[.func (.func 85) #[.agg #[vm, .int .u64 (f : Int)]] #[]] 70)).alloc (.cells #[.slice p1 n c1] 57)).alloc (.cells #[S es] 24)) (w.heap.size + 1) 70 [.func (.func 85) #[.agg #[vm, .int .u64 (f : Int)]] #[]] := by
    have := (((Blk.new (w.alloc (.cells #[.slice px n cx] 57)) #[.func (.func 85) #[.agg #[vm, .int .u64 (f : Int)]] #[]] 70).alloc (.cells #[.slice p1 n c1] 57)).alloc (.cells #[S es] 24))
    rwa [World.size_alloc] at this
  have hb2 : Blk ((((w.alloc (.cells #[.slice px n cx] 57)).alloc (.cells #[.func (.func 85) #[.agg #[vm, .int .u64 (f : Int)]] #[]] 70)).alloc (.cells #[.slice p1 n c1] 57)).alloc (.cells #[S es] 24)) (w.heap.size + 1 + 1) 57 [.slice p1 n c1] := by
    have := ((Blk.new ((w.alloc (.cells #[.slice px n cx] 57)).alloc (.cells #[.func (.func 85) #[.agg #[vm, .int .u64 (f : Int)]] #[]] 70)) #[.slice p1 n c1] 57).alloc (.cells #[S es] 24))
    simp only [World.size_alloc] at this
    exact this
  have hb3 : Blk ((((w.alloc (.cells #[.slice px n cx] 57)).alloc (.cells #[.func (.func 85) #[.agg #[vm, .int .u64 (f : Int)]] #[]] 70)).alloc (.cells #[.slice p1 n c1] 57)).alloc (.cells #[S es] 24)) (w.heap.size + 1 + 1 + 1) 24 [S es] := by
    have := Blk.new (((w.alloc (.cells #[.slice px n cx] 57)).alloc (.cells #[.func (.func 85) #[.agg #[vm, .int .u64 (f : Int)]] #[]] 70)).alloc (.cells #[.slice p1 n c1] 57)) #[S es] 24
    simp only [World.size_alloc] at this
    exact this
  have hch : Ch w.heap.size none1 w ((((w.alloc (.cells #[.slice px n cx] 57)).alloc (.cells #[.func (.func 85) #[.agg #[vm, .int .u64 (f : Int)]] #[]] 70)).alloc (.cells #[.slice p1 n c1] 57)).alloc (.cells #[S es] 24)) :=
    ((((Ch.refl _ _ w).alloc (Nat.le_refl _) _).alloc (by simp) _).alloc (by simp; omega) _).alloc (by simp; omega) _
  have hsz : ((((w.alloc (.cells #[.slice px n cx] 57)).alloc (.cells #[.func (.func 85) #[.agg #[vm, .int .u64 (f : Int)]] #[]] 70)).alloc (.cells #[.slice p1 n c1] 57)).alloc (.cells #[S es] 24)).heap.size = w.heap.size + 1 + 1 + 1 + 1 := by simp
  obtain ⟨W0, hW0⟩ : ∃ W0, ((((w.alloc (.cells #[.slice px n cx] 57)).alloc (.cells #[.func (.func 85) #[.agg #[vm, .int .u64 (f : Int)]] #[]] 70)).alloc (.cells #[.slice p1 n c1] 57)).alloc (.cells #[S es] 24)) = W0 := ⟨_, rfl⟩
  rw [hW0] at hb0 hb1 hb2 hb3 hch hsz ⊢
  clear hW0
  have hd1 : RdP W0 (.slice p1 n c1) n (X ^ bval [] * D ^ n % M) := HP1.out.ch hch
  refine wpIn_rangeFunc_ownF (F := Fence.wide) rfl (by omega) (gf := 106) (lb := #[.pointer (some ⟨w.heap.size + 1 + 1 + 1, 0, none⟩)]) rfl trivial (enters_of Tryd.func106 (by kernel_rfl) rfl)
    (encs := fun x : Bool => #[.bool x]) (Kp := KpCell (w.heap.size + 1 + 1 + 1)) (S := fun ys => ys = (List.range (nbits (bv es))).map (bitTop (bv es))) (Sp := fun _ => True) (N := nbits (bv es)) (w0 := W0)
    (fun l J Jx W hW _ _ hY h0 => bits_in Fence.wide _ trivial trivial rfl (by omega) l _ es J Jx he (fun W => callsIn_wide.2 (bits_any es W he)) hY W (by rw [hW.cell (p := ⟨w.heap.size + 1 + 1 + 1, 0, none⟩) (by show w.heap.size + 1 + 1 + 1 < W0.heap.size; omega), hb3.cell]; rfl) h0)
    (fun h1 h2 => h2.trans h1)
    (fun W l o o' hl ho hc _ => ?kb) (Below.refl _ _) (fun _ => rfl)
    (fun pre W => (∃ v, Blk W (w.heap.size + 1 + 1) 57 [v] ∧ RdP W v n (X ^ bval pre * D ^ n % M)) ∧ Blk W w.heap.size 57 [.slice px n cx] ∧ Blk W (w.heap.size + 1) 70 [.func (.func 85) #[.agg #[vm, .int .u64 (f : Int)]] #[]] ∧ Blk W (w.heap.size + 1 + 1 + 1) 24 [S es] ∧ Below w.heap.size w W)
    (fun _ _ _ => False) ?hI (fun _ _ _ _ _ hs _ _ => hs) ⟨⟨_, hb2, hd1⟩, hb0, hb1, hb3, hch.below⟩
    (fun x => { tmps := #[.slice px n cx, .slice p1 n c1, S es, .func (.func 85) #[.agg #[vm, .int .u64 (f : Int)]] #[], .pointer (some ⟨w.heap.size, 0, none⟩), undef, undef, .pointer (some ⟨w.heap.size + 1, 0, none⟩), .slice none 0 0, .pointer (some ⟨w.heap.size + 1 + 1, 0, none⟩), .bool x, .slice p1 n c1, S es, .func (.func 106) #[] #[.pointer (some ⟨w.heap.size + 1 + 1 + 1, 0, none⟩)], .bool x, undef, undef, undef, undef, undef, undef, undef, undef, undef, undef], defers := [] }) ?assign ?body ?done ?stop
  case kb =>
    have hlt := (Array.getElem?_eq_some_iff.1 ho).1
    exact World.cell?_of_block (w := W) (a := ⟨w.heap.size + 1 + 1 + 1, 0, none⟩) ((grownBy_putObj' W l o').block (w.heap.size + 1 + 1 + 1) (by omega) (by simp; omega))
  case hI =>
    rintro pre W W' row ⟨⟨v, hb, hr⟩, h0, h1, h3, hB⟩ hg hrow
    exact ⟨⟨v, blk_grown hb hg hrow, rdp_grown hr hg hrow⟩, blk_grown h0 hg hrow, blk_grown h1 hg hrow, blk_grown h3 hg hrow, hB.grown hg hB.size (fun k e => by have := (hrow k e).1; omega)⟩
  case assign =>
    intro l x W K hK
    gi_wp2
    exact hK
  case body =>
    rintro l pre x W ⟨⟨v, hb2, hr⟩, hb0, hb1, hb3, hB⟩ _
    obtain ⟨pv, cv, vz, rfl, hdv, hvv⟩ := hr
    have hr : RdP W (.slice pv n cv) n (X ^ bval pre * D ^ n % M) := ⟨pv, cv, vz, rfl, hdv, hvv⟩
    have hcw : Ch w.heap.size none1 w W := Ch.of_below hB
    have hx : RdP W (.slice px n cx) n (X ^ 1 * D ^ n % M) := HPX.out.ch hcw
    have hmm := HM.out.ch hcw
    have hs2 := hb2.lt
    have hs3 := hb3.lt
    have c0 := hb0.cell 0
    have cf1 := hb1.cell 0
    have c2 := hb2.cell 0
    have f2 := hb2.frozen 0
    have HR := Lib.hid hr; clear hr hdv hvv
    have HX := Lib.hid hx; clear hx
    have HMM := Lib.hid hmm; clear hmm
    rcases x with _ | _
    · -- no digit
      gi_wp2
      refine ⟨trivial, ?_⟩
      refine (CallsIn.inRound l (callsIn_wide.2 (HPR.out (bval pre) (bval pre) _ _ W HMM.out HR.out HR.out))).mono ?_
      rintro e W2 ⟨v2, rfl, hr2, hC2⟩
      obtain ⟨p2, k2, z2, rfl, hd2, hv2⟩ := hr2
      have hr2 : RdP W2 (.slice p2 n k2) n (X ^ (2 * bval pre) * D ^ n % M) := by rw [show 2 * bval pre = bval pre + bval pre from by omega]; exact ⟨p2, k2, z2, rfl, hd2, hv2⟩
      have g0 := hC2.blk hb0 (by omega) (fun q => q)
      have g1 := hC2.blk hb1 (by omega) (fun q => q)
      have g2 := hC2.blk hb2 (by omega) (fun q => q)
      have g3 := hC2.blk hb3 (by omega) (fun q => q)
      have d0 := g0.cell 0
      have d1 := g1.cell 0
      have d2 := g2.cell 0
      have e2 := g2.frozen 0
      have hsz2 := hC2.size
      have hx2 := RdP.ch HX.out hC2
      have hm2 := RdD.ch HMM.out hC2
      have hk2 := keeps_ch hC2
      have hcw2 := hcw.trans (hC2.weak (B := w.heap.size) hB.size)
      have HX2 := Lib.hid (rdp_set (u := .slice p2 n k2) hx2 d2)
      have HM2 := Lib.hid (rd_set (u := .slice p2 n k2) hm2 d2)
      have HR2 := Lib.hid (rdp_set (u := .slice p2 n k2) hr2 d2)
      have HG0 := Lib.hid (g0.set_other (g' := w.heap.size + 1 + 1) (by omega) 0 (.slice p2 n k2))
      have HG1 := Lib.hid (g1.set_other (g' := w.heap.size + 1 + 1) (by omega) 0 (.slice p2 n k2))
      have HG2 := Lib.hid (g2.set 0 (.slice p2 n k2))
      have HG3 := Lib.hid (g3.set_other (g' := w.heap.size + 1 + 1) (by omega) 0 (.slice p2 n k2))
      have HCW := Lib.hid (hcw2.setCell (p := ⟨w.heap.size + 1 + 1, 0, none⟩) (.inl (by show w.heap.size ≤ w.heap.size + 1 + 1; omega)) (.slice p2 n k2))
      have HK2 := Lib.hid (hk2.trans (KeepsOthers.setCell W2 ⟨w.heap.size + 1 + 1, 0, none⟩ (.slice p2 n k2)))
      clear hd2 hv2 hr2 hx2 hm2 hk2 hcw2 g0 g1 g3
      gi_wp2
      refine ⟨HK2.out, ?_, ⟨_, HG2.out, ?_⟩, HG0.out, HG1.out, HG3.out, HCW.out.below⟩
      · unfold KpCell
        rw [HG3.out.cell, hb3.cell]
      · rw [bval_snoc]
        exact HR2.out
    · -- a digit
      gi_wp2
      refine ⟨trivial, ?_⟩
      refine (CallsIn.inRound l (callsIn_wide.2 (HPR.out (bval pre) (bval pre) _ _ W HMM.out HR.out HR.out))).mono ?_
      rintro e W2 ⟨v2, rfl, hr2, hC2⟩
      obtain ⟨p2, k2, z2, rfl, hd2, hv2⟩ := hr2
      have hr2 : RdP W2 (.slice p2 n k2) n (X ^ (2 * bval pre) * D ^ n % M) := by rw [show 2 * bval pre = bval pre + bval pre from by omega]; exact ⟨p2, k2, z2, rfl, hd2, hv2⟩
      have g0 := hC2.blk hb0 (by omega) (fun q => q)
      have g1 := hC2.blk hb1 (by omega) (fun q => q)
      have g2 := hC2.blk hb2 (by omega) (fun q => q)
      have g3 := hC2.blk hb3 (by omega) (fun q => q)
      have d0 := g0.cell 0
      have d1 := g1.cell 0
      have d2 := g2.cell 0
      have e2 := g2.frozen 0
      have hsz2 := hC2.size
      have hx2 := RdP.ch HX.out hC2
      have hm2 := RdD.ch HMM.out hC2
      have hk2 := keeps_ch hC2
      have hcw2 := hcw.trans (hC2.weak (B := w.heap.size) hB.size)
      have HX2 := Lib.hid (rdp_set (u := .slice p2 n k2) hx2 d2)
      have HM2 := Lib.hid (rd_set (u := .slice p2 n k2) hm2 d2)
      have HR2 := Lib.hid (rdp_set (u := .slice p2 n k2) hr2 d2)
      have HG0 := Lib.hid (g0.set_other (g' := w.heap.size + 1 + 1) (by omega) 0 (.slice p2 n k2))
      have HG1 := Lib.hid (g1.set_other (g' := w.heap.size + 1 + 1) (by omega) 0 (.slice p2 n k2))
      have HG2 := Lib.hid (g2.set 0 (.slice p2 n k2))
      have HG3 := Lib.hid (g3.set_other (g' := w.heap.size + 1 + 1) (by omega) 0 (.slice p2 n k2))
      have HCW := Lib.hid (hcw2.setCell (p := ⟨w.heap.size + 1 + 1, 0, none⟩) (.inl (by show w.heap.size ≤ w.heap.size + 1 + 1; omega)) (.slice p2 n k2))
      have HK2 := Lib.hid (hk2.trans (KeepsOthers.setCell W2 ⟨w.heap.size + 1 + 1, 0, none⟩ (.slice p2 n k2)))
      clear hd2 hv2 hr2 hx2 hm2 hk2 hcw2 g0 g1 g3
      have HHS := Lib.hid HCW.out.size
      gi_wp2
      refine ⟨trivial, ?_⟩
      refine (CallsIn.inRound l (callsIn_wide.2 (HPR.out (2 * bval pre) 1 _ _ _ HM2.out HR2.out HX2.out))).mono ?_
      rintro e W4 ⟨v4, rfl, hr4, hC4⟩
      obtain ⟨p4, k4, z4, rfl, hd4, hv4⟩ := hr4
      have hr4 : RdP W4 (.slice p4 n k4) n (X ^ (2 * bval pre + 1) * D ^ n % M) := ⟨p4, k4, z4, rfl, hd4, hv4⟩
      have hs4 := HG2.out.lt
      have hs5 := HG3.out.lt
      have j0 := hC4.blk HG0.out (by omega) (fun q => q)
      have j1 := hC4.blk HG1.out (by omega) (fun q => q)
      have j2 := hC4.blk HG2.out (by omega) (fun q => q)
      have j3 := hC4.blk HG3.out (by omega) (fun q => q)
      have i2 := j2.cell 0
      have i3 := j2.frozen 0
      have i2' : W4.cell? ⟨w.heap.size + 1 + 1, 0, none⟩ = some (.slice p2 n k2) := i2
      clear i2
      have HR4 := Lib.hid (rdp_set (u := .slice p4 n k4) hr4 i2')
      have HJ0 := Lib.hid (j0.set_other (g' := w.heap.size + 1 + 1) (by omega) 0 (.slice p4 n k4))
      have HJ1 := Lib.hid (j1.set_other (g' := w.heap.size + 1 + 1) (by omega) 0 (.slice p4 n k4))
      have HJ2 := Lib.hid (j2.set 0 (.slice p4 n k4))
      have HJ3 := Lib.hid (j3.set_other (g' := w.heap.size + 1 + 1) (by omega) 0 (.slice p4 n k4))
      have HK4 := Lib.hid ((HK2.out.trans (keeps_ch hC4)).trans (KeepsOthers.setCell W4 ⟨w.heap.size + 1 + 1, 0, none⟩ (.slice p4 n k4)))
      have HCW4 := Lib.hid ((HCW.out.trans (hC4.weak (B := w.heap.size) HHS.out)).setCell (p := ⟨w.heap.size + 1 + 1, 0, none⟩) (.inl (by show w.heap.size ≤ w.heap.size + 1 + 1; omega)) (.slice p4 n k4))
      clear hd4 hv4 hr4 j0 j1 j2 j3
      gi_wp2
      refine ⟨HK4.out, ?_, ⟨_, HJ2.out, ?_⟩, HJ0.out, HJ1.out, HJ3.out, HCW4.out.below⟩
      · unfold KpCell
        rw [HJ3.out.cell, hb3.cell]
      · rw [bval_snoc]
        exact HR4.out
  case done =>
    rintro D ys W hD rfl ⟨⟨v, hb2, hr⟩, _, _, _, hB⟩ hK
    rw [bval_all] at hr
    have c2 := hb2.cell 0
    have HR := Lib.hid hr; clear hr
    gi_wp2
    refine ⟨by simp, .inl ⟨_, _, rfl, run_takeDeferred hK, ?_⟩⟩
    exact ⟨_, results_tmp rfl _ _ _, v, rfl, rdp_grown HR.out (grownBy_putObj' W D _) (fun r e => by cases e; exact ⟨hD, _, hK, rfl⟩), hB.trans (belowK_b (w := w) (Nat.le_refl _) W D _ _ (by omega) hK rfl rfl)⟩
  case stop =>
    rintro D c pre W _ _ h _
    exact h.elim
end Go.Proofs.YtcghnkdfhiancaaDoor
namespace Go.Proofs.YtcghnkdfhiancaaDoor
open Go.RowKit
theorem keepS {b : Nat} {v0 v1 : Value} {w w' : World} (h : Ch w.heap.size none1 w w') (hs : w.cell? ⟨b, 0, none⟩ = some v0 ∧ w.cell? ⟨b, 1, none⟩ = some v1) : w'.cell? ⟨b, 0, none⟩ = some v0 ∧ w'.cell? ⟨b, 1, none⟩ = some v1 :=
  ⟨(h.cell (p := ⟨b, 0, none⟩) (block_lt_of_cell hs.1) (fun q => q)).trans hs.1, (h.cell (p := ⟨b, 1, none⟩) (block_lt_of_cell hs.2) (fun q => q)).trans hs.2⟩
theorem ch_alloc (w : World) (o : Obj) : Ch w.heap.size none1 w (w.alloc o) := (Ch.refl _ _ w).alloc (Nat.le_refl _) o
theorem ch_alloc_drew (w : World) (o : Obj) : Ch w.drew.heap.size none1 w.drew (w.alloc o).drew := ch_alloc w.drew o
theorem rdD_one (w : World) (H : Nat) (h : w.heap.size = H) : RdD (w.alloc (.cells #[.int .u64 1] 52)) (.slice (some ⟨H, 0, none⟩) 1 1) 1 := by
  subst h
  exact ⟨_, 1, by rw [ds_1]; rfl, by rw [ds_1]; exact dg_of_blk (Blk.new w #[.int .u64 1] 52) (Dok.cons (by unfold D; omega) Dok.nil) 1 rfl⟩
theorem ch_step {a b c : World} (h : Ch a.heap.size none1 a b) (k : Ch b.heap.size none1 b c) : Ch a.heap.size none1 a c := h.trans (k.mono h.size (fun _ _ q => q))
theorem rdD_drew {w : World} {v : Value} {N : Nat} (h : RdD w v N) : RdD w.drew v N := by
  obtain ⟨p, cap, rfl, hd⟩ := h
  exact ⟨p, cap, rfl, hd.drew⟩
theorem rdP_drew {w : World} {v : Value} {n N : Nat} (h : RdP w v n N) : RdP w.drew v n N := by
  obtain ⟨p, cap, zs, rfl, hd, hv⟩ := h
  exact ⟨p, cap, zs, rfl, hd.drew, hv⟩
theorem nil_none (_p : Option Addr) (n c : Nat) (g : Nat) : ∀ c', (Value.slice (some ⟨g, 0, none⟩) n c) = .slice none 0 c' → c' = 0 := fun c' h => by simp at h
set_option maxRecDepth 100000 in
set_option maxHeartbeats 3200000 in
theorem powerOfMontgomery_any (n M X : Nat) (es : List UInt8) (vx vm : Value) (w : World) (hx : RdD w vx X) (hxn : (ds X).length ≤ n) (hnil : ∀ c, vx = .slice none 0 c → c = 0) (hm : RdD w vm M) (hn : (ds M).length = n) (hodd : M % 2 = 1) (hn1 : n ≤ 4398046511104) (he : es.length ≤ 1152921504606846975) :
    Calls Tryd.prog 58 #[vx, S es, vm] w fun e w' => ∃ v, e = .returned v ∧ RdP w' v n (X ^ bv es % M) ∧ Ch w.heap.size none1 w w' := by
  obtain ⟨i0, hi, hz0, hz1, hz2⟩ := info_parts Tryd.info52
  have hM : 0 < M := by omega
  obtain ⟨pm, cm, rfl, hdm⟩ := hm
  obtain ⟨px, cx, rfl, hdx⟩ := hx
  have HM0 := Lib.hid (show RdD w (.slice pm n cm) M from ⟨pm, cm, by rw [hn], hdm⟩)
  rw [hn] at hdm ⊢
  have HX := Lib.hid (show RdD w (.slice px (ds X).length cx) X from ⟨px, cx, rfl, hdx⟩)
  have HDM := Lib.hid hdm; clear hdm hdx
  have HN := Lib.hid hn; clear hn
  have HNIL := Lib.hid hnil; clear hnil
  have hn0 : 0 < n := by rw [← HN.out]; exact ds_pos_len hM
  obtain ⟨x, hxl⟩ : ∃ x, (ds X).length = x := ⟨_, rfl⟩
  rw [hxl] at HX HNIL hxn ⊢
  have HXL := Lib.hid hxl; clear hxl
  go_enter Tryd.func58, Tryd.ntmps58
  go_wp2_with fail
  refine (newMont_any M n cm pm _ HDM.out hodd).mono ?_
  rintro e w1 ⟨f, rfl, hfD, hf, hC1⟩
  have HF := Lib.hid hf; clear hf
  have HC1 := Lib.hid hC1; clear hC1
  have HR := Lib.hid (show (List.replicate n (Value.int .u64 0))[0]? = some (Value.int .u64 0) by simp [hn0])
  have hn0i : (0 : Int) < (n : Int) := by omega
  go_wp2_with (at_make; refine wpList_make_blk _ rfl _ _ 57 rfl 52 i0 .u64 0 Tryd.underlying57 hi hz0 hz1 .i64 .i64 _ _ n rfl rfl rfl rfl (by rw [hz2]; omega) (by unfold maxLen; omega) ?_; intro w2 hB hC; rw [World.size_alloc] at hB hC; have q0 := (hB.cell 0).trans HR.out; have qf := hB.frozen 0; have HB := Lib.hid hB; have HC := Lib.hid hC; clear hB hC)
  have hS1 : Blk (w1.alloc (.cells #[.slice pm n cm, .int .u64 (f : Int)] 96)) w1.heap.size 96 [.slice pm n cm, .int .u64 (f : Int)] := Blk.new w1 _ _
  have hlt1 : w1.heap.size < w2.heap.size := by have := HC.out.size; rw [World.size_alloc] at this; omega
  have hS2 := (HC.out.blk hS1 (by omega) (fun q => q)).set_other (g' := w1.heap.size + 1) (by omega) 0 (.int .u64 1)
  have hB2 := HB.out.set 0 (.int .u64 1)
  have hCW : Ch w.heap.size none1 w (w2.setCell ⟨w1.heap.size + 1, 0, none⟩ (.int .u64 1)) := by
    have h1 := HC1.out.trans ((ch_alloc w1 (.cells #[.slice pm n cm, .int .u64 (f : Int)] 96)).mono HC1.out.size (fun _ _ q => q))
    have h2 := h1.trans (HC.out.mono (by have := HC1.out.size; omega) (fun _ _ q => q))
    exact h2.setCell (p := ⟨w1.heap.size + 1, 0, none⟩) (.inl (by have := HC1.out.size; show w.heap.size ≤ w1.heap.size + 1; omega)) _
  obtain ⟨W0, hW0⟩ : ∃ W0, w2.setCell ⟨w1.heap.size + 1, 0, none⟩ (.int .u64 1) = W0 := ⟨_, rfl⟩
  obtain ⟨bm, hbm⟩ : ∃ bm, w1.heap.size = bm := ⟨_, rfl⟩
  rw [hbm] at hS2 hB2 hW0 hCW ⊢
  rw [hW0] at hS2 hB2 hCW ⊢
  clear hW0 hbm HC HB hS1 hlt1 HC1 q0 qf
  have c0 : W0.cell? ⟨bm, 0, none⟩ = some (.slice pm n cm) := hS2.cell 0
  have c1 : W0.cell? ⟨bm, 1, none⟩ = some (.int .u64 (f : Int)) := hS2.cell 1
  have hcw0 : Ch w.heap.size none1 w W0 := hCW
  have hone : RdP W0 (.slice (some ⟨bm + 1, 0, none⟩) n n) n 1 := by
    refine ⟨_, n, 1 :: List.replicate (n - 1) 0, rfl, dg_of_blk (post := []) (hB2.cast ?_) (Dok.cons (by unfold D; omega) (Dok.zeros _)) n (by simp; omega), by rw [dv_cons, dv_zeros, Nat.mul_zero]⟩
    obtain ⟨k, rfl⟩ : ∃ k, n = k + 1 := ⟨n - 1, by omega⟩
    simp [List.replicate_succ]
  have HONE := Lib.hid (rdP_drew hone)
  have HMw := Lib.hid (HM0.out.ch hcw0)
  have HXw := Lib.hid (HX.out.ch hcw0)
  have HMd := Lib.hid (rdD_drew (HM0.out.ch hcw0))
  have HXd := Lib.hid (rdD_drew (HX.out.ch hcw0))
  have HS0 := Lib.hid (show W0.drew.cell? ⟨bm, 0, none⟩ = some (.slice pm n cm) ∧ W0.drew.cell? ⟨bm, 1, none⟩ = some (.int .u64 (f : Int)) from ⟨c0, c1⟩)
  have HCW := Lib.hid hCW
  have HXN := Lib.hid (show (ds X).length ≤ n by rw [HXL.out]; exact hxn)
  have HX1 := Lib.hid (show (ds 1).length ≤ n by rw [ds_1]; exact hn0)
  have HR0 := Lib.hid (show ∀ w v, RdP w v n (X * D ^ n % M) → RdP w v n (X ^ 1 * D ^ n % M) from fun w v h => by rw [Nat.pow_one]; exact h)
  have HR1 := Lib.hid (show ∀ w v, RdP w v n (1 * D ^ n % M) → RdP w v n (X ^ 0 * D ^ n % M) from fun w v h => by rw [Nat.pow_zero]; exact h)
  clear hone hCW hS2 hB2 HR hcw0 HX HM0 HDM
  go_region_held3 (fun w' => w'.cell? ⟨bm, 0, none⟩ = some (.slice pm n cm) ∧ w'.cell? ⟨bm, 1, none⟩ = some (.int .u64 (f : Int)))
    (first
      | (with_reducible exact keepS hq HS0.out)
      | (with_reducible exact keepS hz HS0.out)
      | (with_reducible exact keepS hy HS0.out)
      | (with_reducible exact keepS (ch_step hx (ch_alloc _ _)) HS0.out)
      | (with_reducible exact keepS hx HS0.out)
      | (with_reducible exact keepS (ch_alloc _ _) HS0.out)
      | (with_reducible exact keepS (ch_alloc_drew W0 _) HS0.out)
      | (with_reducible exact HS0.out)
      | go_keep)
    (first
      | (go_at_call 86; with_reducible refine (raised_any n M X f (.slice pm n cm) (.slice px x cx) _ HMd.out HN.out hM hn1 HXd.out HXN.out HNIL.out).mono ?_; rintro e wa ⟨va, rfl, hra, hCa⟩; have hx := hCa; have HM1 := Lib.hid (HMd.out.ch hx); have HRA := Lib.hid (HR0.out _ _ hra); clear hCa hra)
      | (go_at_call 86; with_reducible refine (raised_any n M X f (.slice pm n cm) (.slice px x cx) _ (rdD_drew (HMw.out.ch (ch_alloc _ _))) HN.out hM hn1 (rdD_drew (HXw.out.ch (ch_alloc _ _))) HXN.out HNIL.out).mono ?_; rintro e wa ⟨va, rfl, hra, hCa⟩; have hx := ch_step (ch_alloc_drew W0 _) hCa; have HM1 := Lib.hid (HMd.out.ch hx); have HRA := Lib.hid (HR0.out _ _ hra); have HO1 := Lib.hid ((rdD_drew (rdD_one W0 W0.heap.size rfl)).ch hCa); clear hCa hra)
      | (go_at_call 86; with_reducible refine (raised_any n M 1 f (.slice pm n cm) _ _ HM1.out HN.out hM hn1 HO1.out HX1.out (nil_none px _ _ _)).mono ?_; rintro e wb ⟨vb, rfl, hrb, hCb⟩; have hy := ch_step hx hCb; have HM2 := Lib.hid (HM1.out.ch hCb); have HA2 := Lib.hid (HRA.out.ch hCb); have HB2 := Lib.hid (HR1.out _ _ hrb); clear hCb hrb)
      | (go_at_call 86; with_reducible refine (raised_any n M 1 f (.slice pm n cm) _ _ (HM1.out.ch (ch_alloc _ _)) HN.out hM hn1 (rdD_one _ _ rfl) HX1.out (nil_none px _ _ _)).mono ?_; rintro e wb ⟨vb, rfl, hrb, hCb⟩; have hcb := ch_step (ch_alloc _ _) hCb; have hy := ch_step hx hcb; have HM2 := Lib.hid (HM1.out.ch hcb); have HA2 := Lib.hid (HRA.out.ch hcb); have HB2 := Lib.hid (HR1.out _ _ hrb); clear hCb hrb hcb)
      | (go_at_call 83; with_reducible refine (powerM n M X f es va vb (.slice pm n cm) _ HA2.out HB2.out HM2.out HN.out hM hn1 HF.out hfD he).mono ?_; rintro e wp ⟨vp, rfl, hrp, hBp⟩; have hcp := Ch.of_below (R := none1) hBp; have hz := ch_step hy hcp; have HM3 := Lib.hid (HM2.out.ch hcp); have HRP := Lib.hid hrp; clear hBp hrp)
      | (go_at_call 85; with_reducible refine (product_any n M _ 1 f (.slice pm n cm) vp _ _ HM3.out HN.out hM hn1 HF.out hfD HRP.out (HONE.out.ch hz) (Nat.mod_lt _ hM)).mono ?_; rintro e wq ⟨vq, Z, rfl, hrq, hZ, hZe, hCq⟩; have hq := ch_step hz hCq; have HRQ := Lib.hid hrq; have HZE := Lib.hid hZe; clear hCq hrq hZe))
  all_goals
    have hv : Z = X ^ bv es % M := by
      have h1 := HZE.out
      rw [Nat.mul_one, Nat.mod_mod] at h1
      have h2 := mont_cancel M f n _ _ HF.out h1
      rwa [Nat.mod_eq_of_lt hZ] at h2
    have hC := HCW.out.drew.trans (hq.mono HCW.out.drew.size (fun _ _ q => q))
    have HV := Lib.hid hv
    have HCF := Lib.hid hC
    clear hv hC hx hy hz hq
    go_wp2_with fail
    go_ret
    exact ⟨_, rfl, by rw [← HV.out]; exact HRQ.out, HCF.out⟩
end Go.Proofs.YtcghnkdfhiancaaDoor
