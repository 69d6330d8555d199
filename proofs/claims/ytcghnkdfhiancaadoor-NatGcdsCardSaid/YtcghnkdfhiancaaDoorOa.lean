/- Contract of package nat's powers modulo an even number. -/
import Derived.Test.YtcghnkdfhiancaaDoorNz
namespace Go.Proofs.YtcghnkdfhiancaaDoor
open Go.RowKit
theorem ds_1 : ds 1 = [1] := by rw [ds_pos 1 (by omega), Nat.mod_eq_of_lt (by unfold D; omega), Nat.div_eq_of_lt (by unfold D; omega), ds_zero]
set_option maxRecDepth 100000 in
set_option maxHeartbeats 1600000 in
theorem powerByRests_any (X M : Nat) (es : List UInt8) (vx vm : Value) (w : World) (hx : RdD w vx X) (hm : RdD w vm M) (hM : 1 < M) (he : es.length ≤ 1152921504606846975)
    (lx : (ds X).length ≤ 4398046511104) (lm : (ds M).length ≤ 4398046511104) :
    Calls Tryd.prog 57 #[vx, S es, vm] w fun e w' => ∃ v, e = .returned v ∧ RdD w' v (X ^ bv es % M) ∧ Ch w.heap.size none1 w w' := by
  obtain ⟨px, cx, rfl, hdx⟩ := hx
  obtain ⟨pm, cm, rfl, hdm⟩ := hm
  have HDX := Lib.hid hdx; clear hdx
  have HDM := Lib.hid hdm; clear hdm
  go_enter Tryd.func57, Tryd.ntmps57
  go_wp2_with fail
  have hch : Ch w.heap.size none1 w ((w.alloc (.cells #[.slice pm (ds M).length cm] 57)).alloc (.cells #[.int .u64 1] 52)) := ((Ch.refl _ _ w).alloc (Nat.le_refl _) _).alloc (by simp) _
  have h1 : Blk ((w.alloc (.cells #[.slice pm (ds M).length cm] 57)).alloc (.cells #[.int .u64 1] 52)) (w.heap.size + 1) 52 ([1].map U ++ []) := by
    have := Blk.new (w.alloc (.cells #[.slice pm (ds M).length cm] 57)) #[.int .u64 1] 52
    rw [World.size_alloc] at this
    exact this
  have h2 : Blk ((w.alloc (.cells #[.slice pm (ds M).length cm] 57)).alloc (.cells #[.int .u64 1] 52)) w.heap.size 57 [.slice pm (ds M).length cm] := (Blk.new w _ _).alloc _
  have hone : RdD ((w.alloc (.cells #[.slice pm (ds M).length cm] 57)).alloc (.cells #[.int .u64 1] 52)) (.slice (some ⟨w.heap.size + 1, 0, none⟩) 1 1) 1 :=
    ⟨_, 1, by rw [ds_1]; rfl, by rw [ds_1]; exact dg_of_blk h1 (Dok.cons (by unfold D; omega) Dok.nil) 1 rfl⟩
  have hx : RdD w (.slice px (ds X).length cx) X := ⟨px, cx, rfl, HDX.out⟩
  have hmm : RdD w (.slice pm (ds M).length cm) M := ⟨pm, cm, rfl, HDM.out⟩
  refine (power82 X M w.heap.size es _ _ _ _ (hx.ch hch) hone (hmm.ch hch) hM (by rw [h2.cell]; rfl) (by simp; omega) he lx lm).mono ?_
  rintro e w2 ⟨v, rfl, hr, hB⟩
  have hC := hch.trans ((Ch.of_below (R := none1) hB).mono (by simp; omega) (fun _ _ q => q))
  have HR := Lib.hid hr
  clear hr hch h1 h2 hone hx hmm hB
  go_wp2_with fail
  go_ret
  exact ⟨v, rfl, HR.out, hC⟩
end Go.Proofs.YtcghnkdfhiancaaDoor
