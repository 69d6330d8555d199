/- Contract of package nat's powerOfMontgomery. -/
import Derived.Test.YtcghnkdfhiancaaDoorOg
namespace Go.Proofs.YtcghnkdfhiancaaDoor
open Go.RowKit
theorem keepS {b : Nat} {v0 v1 : Value} {w w' : World} (h : Ch w.heap.size none1 w w') (hs : w.cell? ⟨b, 0, none⟩ = some v0 ∧ w.cell? ⟨b, 1, none⟩ = some v1) : w'.cell? ⟨b, 0, none⟩ = some v0 ∧ w'.cell? ⟨b, 1, none⟩ = some v1 :=
  ⟨(h.cell (p := ⟨b, 0, none⟩) (block_lt_of_cell hs.1) (fun q => q)).trans hs.1, (h.cell (p := ⟨b, 1, none⟩) (block_lt_of_cell hs.2) (fun q => q)).trans hs.2⟩
theorem ch_alloc (w : World) (o : Obj) : Ch w.heap.size none1 w (w.alloc o) := (Ch.refl _ _ w).alloc (Nat.le_refl _) o
theorem ch_alloc_drew (w : World) (o : Obj) : Ch w.drew.heap.size none1 w.drew (w.alloc o).drew := ch_alloc w.drew o
theorem rdD_one (w : World) (H : Nat) (h : w.heap.size = H) : RdD (w.alloc (.cells #[.int .u64 1] 52)) (.slice (some ⟨H, 0, none⟩) 1 1) 1 := by
  subst h
  exact ⟨_, 1, by rw [ds_1]; rfl, by rw [ds_1]; exact dg_of_blk (Blk.new w #[.int .u64 1] 52) (Dok.cons (by unfold D; omega) Dok.nil) 1 rfl⟩
theorem ch_step {a b c : World} (h : Ch a.heap.size none1 a b) (k : Ch b.heap.size none1 b c) : Ch a.heap.size none1 a c := h.trans (k.mono h.size (fun _ _ q => q))
theorem rdD_drew {w : World} {v : Value} {N : Nat} (h : RdD w v N) : RdD w.drew v N := by
  obtain ⟨p, cap, rfl, hd⟩ := h
  exact ⟨p, cap, rfl, hd.drew⟩
theorem rdP_drew {w : World} {v : Value} {n N : Nat} (h : RdP w v n N) : RdP w.drew v n N := by
  obtain ⟨p, cap, zs, rfl, hd, hv⟩ := h
  exact ⟨p, cap, zs, rfl, hd.drew, hv⟩
theorem nil_none (_p : Option Addr) (n c : Nat) (g : Nat) : ∀ c', (Value.slice (some ⟨g, 0, none⟩) n c) = .slice none 0 c' → c' = 0 := fun c' h => by simp at h
set_option maxRecDepth 100000 in
set_option maxHeartbeats 3200000 in
theorem powerOfMontgomery_any (n M X : Nat) (es : List UInt8) (vx vm : Value) (w : World) (hx : RdD w vx X) (hxn : (ds X).length ≤ n) (hnil : ∀ c, vx = .slice none 0 c → c = 0) (hm : RdD w vm M) (hn : (ds M).length = n) (hodd : M % 2 = 1) (hn1 : n ≤ 4398046511104) (he : es.length ≤ 1152921504606846975) :
    Calls Tryd.prog 58 #[vx, S es, vm] w fun e w' => ∃ v, e = .returned v ∧ RdP w' v n (X ^ bv es % M) ∧ Ch w.heap.size none1 w w' := by
  obtain ⟨i0, hi, hz0, hz1, hz2⟩ := info_parts Tryd.info52
  have hM : 0 < M := by omega
  obtain ⟨pm, cm, rfl, hdm⟩ := hm
  obtain ⟨px, cx, rfl, hdx⟩ := hx
  have HM0 := Lib.hid (show RdD w (.slice pm n cm) M from ⟨pm, cm, by rw [hn], hdm⟩)
  rw [hn] at hdm ⊢
  have HX := Lib.hid (show RdD w (.slice px (ds X).length cx) X from ⟨px, cx, rfl, hdx⟩)
  have HDM := Lib.hid hdm; clear hdm hdx
  have HN := Lib.hid hn; clear hn
  have HNIL := Lib.hid hnil; clear hnil
  have hn0 : 0 < n := by rw [← HN.out]; exact ds_pos_len hM
  obtain ⟨x, hxl⟩ : ∃ x, (ds X).length = x := ⟨_, rfl⟩
  rw [hxl] at HX HNIL hxn ⊢
  have HXL := Lib.hid hxl; clear hxl
  go_enter Tryd.func58, Tryd.ntmps58
  go_wp2_with fail
  refine (newMont_any M n cm pm _ HDM.out hodd).mono ?_
  rintro e w1 ⟨f, rfl, hfD, hf, hC1⟩
  have HF := Lib.hid hf; clear hf
  have HC1 := Lib.hid hC1; clear hC1
  have HR := Lib.hid (show (List.replicate n (Value.int .u64 0))[0]? = some (Value.int .u64 0) by simp [hn0])
  have hn0i : (0 : Int) < (n : Int) := by omega
  go_wp2_with (at_make; refine wpList_make_blk _ rfl _ _ 57 rfl 52 i0 .u64 0 Tryd.underlying57 hi hz0 hz1 .i64 .i64 _ _ n rfl rfl rfl rfl (by rw [hz2]; omega) (by unfold maxLen; omega) ?_; intro w2 hB hC; rw [World.size_alloc] at hB hC; have q0 := (hB.cell 0).trans HR.out; have qf := hB.frozen 0; have HB := Lib.hid hB; have HC := Lib.hid hC; clear hB hC)
  have hS1 : Blk (w1.alloc (.cells #[.slice pm n cm, .int .u64 (f : Int)] 96)) w1.heap.size 96 [.slice pm n cm, .int .u64 (f : Int)] := Blk.new w1 _ _
  have hlt1 : w1.heap.size < w2.heap.size := by have := HC.out.size; rw [World.size_alloc] at this; omega
  have hS2 := (HC.out.blk hS1 (by omega) (fun q => q)).set_other (g' := w1.heap.size + 1) (by omega) 0 (.int .u64 1)
  have hB2 := HB.out.set 0 (.int .u64 1)
  have hCW : Ch w.heap.size none1 w (w2.setCell ⟨w1.heap.size + 1, 0, none⟩ (.int .u64 1)) := by
    have h1 := HC1.out.trans ((ch_alloc w1 (.cells #[.slice pm n cm, .int .u64 (f : Int)] 96)).mono HC1.out.size (fun _ _ q => q))
    have h2 := h1.trans (HC.out.mono (by have := HC1.out.size; omega) (fun _ _ q => q))
    exact h2.setCell (p := ⟨w1.heap.size + 1, 0, none⟩) (.inl (by have := HC1.out.size; show w.heap.size ≤ w1.heap.size + 1; omega)) _
  obtain ⟨W0, hW0⟩ : ∃ W0, w2.setCell ⟨w1.heap.size + 1, 0, none⟩ (.int .u64 1) = W0 := ⟨_, rfl⟩
  obtain ⟨bm, hbm⟩ : ∃ bm, w1.heap.size = bm := ⟨_, rfl⟩
  rw [hbm] at hS2 hB2 hW0 hCW ⊢
  rw [hW0] at hS2 hB2 hCW ⊢
  clear hW0 hbm HC HB hS1 hlt1 HC1 q0 qf
  have c0 : W0.cell? ⟨bm, 0, none⟩ = some (.slice pm n cm) := hS2.cell 0
  have c1 : W0.cell? ⟨bm, 1, none⟩ = some (.int .u64 (f : Int)) := hS2.cell 1
  have hcw0 : Ch w.heap.size none1 w W0 := hCW
  have hone : RdP W0 (.slice (some ⟨bm + 1, 0, none⟩) n n) n 1 := by
    refine ⟨_, n, 1 :: List.replicate (n - 1) 0, rfl, dg_of_blk (post := []) (hB2.cast ?_) (Dok.cons (by unfold D; omega) (Dok.zeros _)) n (by simp; omega), by rw [dv_cons, dv_zeros, Nat.mul_zero]⟩
    obtain ⟨k, rfl⟩ : ∃ k, n = k + 1 := ⟨n - 1, by omega⟩
    simp [List.replicate_succ]
  have HONE := Lib.hid (rdP_drew hone)
  have HMw := Lib.hid (HM0.out.ch hcw0)
  have HXw := Lib.hid (HX.out.ch hcw0)
  have HMd := Lib.hid (rdD_drew (HM0.out.ch hcw0))
  have HXd := Lib.hid (rdD_drew (HX.out.ch hcw0))
  have HS0 := Lib.hid (show W0.drew.cell? ⟨bm, 0, none⟩ = some (.slice pm n cm) ∧ W0.drew.cell? ⟨bm, 1, none⟩ = some (.int .u64 (f : Int)) from ⟨c0, c1⟩)
  have HCW := Lib.hid hCW
  have HXN := Lib.hid (show (ds X).length ≤ n by rw [HXL.out]; exact hxn)
  have HX1 := Lib.hid (show (ds 1).length ≤ n by rw [ds_1]; exact hn0)
  have HR0 := Lib.hid (show ∀ w v, RdP w v n (X * D ^ n % M) → RdP w v n (X ^ 1 * D ^ n % M) from fun w v h => by rw [Nat.pow_one]; exact h)
  have HR1 := Lib.hid (show ∀ w v, RdP w v n (1 * D ^ n % M) → RdP w v n (X ^ 0 * D ^ n % M) from fun w v h => by rw [Nat.pow_zero]; exact h)
  clear hone hCW hS2 hB2 HR hcw0 HX HM0 HDM
  go_region_held3 (fun w' => w'.cell? ⟨bm, 0, none⟩ = some (.slice pm n cm) ∧ w'.cell? ⟨bm, 1, none⟩ = some (.int .u64 (f : Int)))
    (first
      | (with_reducible exact keepS hq HS0.out)
      | (with_reducible exact keepS hz HS0.out)
      | (with_reducible exact keepS hy HS0.out)
      | (with_reducible exact keepS (ch_step hx (ch_alloc _ _)) HS0.out)
      | (with_reducible exact keepS hx HS0.out)
      | (with_reducible exact keepS (ch_alloc _ _) HS0.out)
      | (with_reducible exact keepS (ch_alloc_drew W0 _) HS0.out)
      | (with_reducible exact HS0.out)
      | go_keep)
    (first
      | (go_at_call 86; with_reducible refine (raised_any n M X f (.slice pm n cm) (.slice px x cx) _ HMd.out HN.out hM hn1 HXd.out HXN.out HNIL.out).mono ?_; rintro e wa ⟨va, rfl, hra, hCa⟩; have hx := hCa; have HM1 := Lib.hid (HMd.out.ch hx); have HRA := Lib.hid (HR0.out _ _ hra); clear hCa hra)
      | (go_at_call 86; with_reducible refine (raised_any n M X f (.slice pm n cm) (.slice px x cx) _ (rdD_drew (HMw.out.ch (ch_alloc _ _))) HN.out hM hn1 (rdD_drew (HXw.out.ch (ch_alloc _ _))) HXN.out HNIL.out).mono ?_; rintro e wa ⟨va, rfl, hra, hCa⟩; have hx := ch_step (ch_alloc_drew W0 _) hCa; have HM1 := Lib.hid (HMd.out.ch hx); have HRA := Lib.hid (HR0.out _ _ hra); have HO1 := Lib.hid ((rdD_drew (rdD_one W0 W0.heap.size rfl)).ch hCa); clear hCa hra)
      | (go_at_call 86; with_reducible refine (raised_any n M 1 f (.slice pm n cm) _ _ HM1.out HN.out hM hn1 HO1.out HX1.out (nil_none px _ _ _)).mono ?_; rintro e wb ⟨vb, rfl, hrb, hCb⟩; have hy := ch_step hx hCb; have HM2 := Lib.hid (HM1.out.ch hCb); have HA2 := Lib.hid (HRA.out.ch hCb); have HB2 := Lib.hid (HR1.out _ _ hrb); clear hCb hrb)
      | (go_at_call 86; with_reducible refine (raised_any n M 1 f (.slice pm n cm) _ _ (HM1.out.ch (ch_alloc _ _)) HN.out hM hn1 (rdD_one _ _ rfl) HX1.out (nil_none px _ _ _)).mono ?_; rintro e wb ⟨vb, rfl, hrb, hCb⟩; have hcb := ch_step (ch_alloc _ _) hCb; have hy := ch_step hx hcb; have HM2 := Lib.hid (HM1.out.ch hcb); have HA2 := Lib.hid (HRA.out.ch hcb); have HB2 := Lib.hid (HR1.out _ _ hrb); clear hCb hrb hcb)
      | (go_at_call 83; with_reducible refine (powerM n M X f es va vb (.slice pm n cm) _ HA2.out HB2.out HM2.out HN.out hM hn1 HF.out hfD he).mono ?_; rintro e wp ⟨vp, rfl, hrp, hBp⟩; have hcp := Ch.of_below (R := none1) hBp; have hz := ch_step hy hcp; have HM3 := Lib.hid (HM2.out.ch hcp); have HRP := Lib.hid hrp; clear hBp hrp)
      | (go_at_call 85; with_reducible refine (product_any n M _ 1 f (.slice pm n cm) vp _ _ HM3.out HN.out hM hn1 HF.out hfD HRP.out (HONE.out.ch hz) (Nat.mod_lt _ hM)).mono ?_; rintro e wq ⟨vq, Z, rfl, hrq, hZ, hZe, hCq⟩; have hq := ch_step hz hCq; have HRQ := Lib.hid hrq; have HZE := Lib.hid hZe; clear hCq hrq hZe))
  all_goals
    have hv : Z = X ^ bv es % M := by
      have h1 := HZE.out
      rw [Nat.mul_one, Nat.mod_mod] at h1
      have h2 := mont_cancel M f n _ _ HF.out h1
      rwa [Nat.mod_eq_of_lt hZ] at h2
    have hC := HCW.out.drew.trans (hq.mono HCW.out.drew.size (fun _ _ q => q))
    have HV := Lib.hid hv
    have HCF := Lib.hid hC
    clear hv hC hx hy hz hq
    go_wp2_with fail
    go_ret
    exact ⟨_, rfl, by rw [← HV.out]; exact HRQ.out, HCF.out⟩
end Go.Proofs.YtcghnkdfhiancaaDoor
