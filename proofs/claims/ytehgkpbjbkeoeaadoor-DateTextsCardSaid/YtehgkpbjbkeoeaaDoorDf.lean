/- Package date's layouts: the first width, the iterator of the parts, plain bytes. -/
import Derived.RangeFuncNested
import Derived.RangeFuncBound
import Derived.RangeFuncCalls
import Derived.RangeFuncLeaves
import Derived.RangeFuncFrom
import Derived.Shelf.Abstract
import Derived.Shelf.RegionOpen
import Derived.OwnWalkIn
import Derived.TacticsInMore
import Derived.LoopNIn
import Derived.LoopIn
import Derived.Test.YtehgkpbjbkeoeaaDoorDe
import Derived.Test.YtehgkpbjbkeoeaaDoorDd
import Derived.Test.YtehgkpbjbkeoeaaDoorShelf
namespace Go.Proofs.YtehgkpbjbkeoeaaDoor
open Go.RowKit Go.Shelf
attribute [local go_sem] Oper.semAt_some
theorem dext_take (l : List UInt8) (n : Nat) : (ByteArray.mk l.toArray).extract 0 n = ⟨(l.take n).toArray⟩ := by
  apply ByteArray.ext
  simp [ByteArray.data_extract]
theorem dext_drop (l : List UInt8) (k : Nat) : (ByteArray.mk l.toArray).extract k l.length = ⟨(l.drop k).toArray⟩ := by
  apply ByteArray.ext
  simp [ByteArray.data_extract]
  exact List.take_of_length_le (by rw [List.length_drop]; exact Nat.le_refl _)
theorem C_hp {l p : List UInt8} {b : Bool} (h : p.isPrefixOf l = b) (w : World) : Calls Tryd.prog 55 #[S l, S p] w fun e w' => e = .returned (.bool b) ∧ w = w' :=
  (Tryd.strings_HasPrefix ⟨l.toArray⟩ ⟨p.toArray⟩ w).mono fun _ _ ⟨he, hw⟩ => ⟨by rw [he, ← h]; rfl, hw.symm⟩
set_option maxRecDepth 100000 in
set_option maxHeartbeats 800000 in
theorem firstWidth_any (l : List UInt8) (w : World) :
    Calls Tryd.prog 50 #[S l] w fun e w' => e = .returned (iz (Lay.fw l : Nat)) ∧ w = w' := by
  rcases h1 : ([89, 89, 89, 89] : List UInt8).isPrefixOf l
  · have H1 := Lib.hid (C_hp h1 w)
    rcases h2 : ([77, 77] : List UInt8).isPrefixOf l
    · have H2 := Lib.hid (C_hp h2 w)
      rcases h3 : ([68, 68] : List UInt8).isPrefixOf l
      · have H3 := Lib.hid (C_hp h3 w)
        have HF := Lib.hid (show Lay.fw l = 1 by unfold Lay.fw; rw [h1, h2, h3]; rfl)
        clear h1 h2 h3
        go_enter Tryd.func50, Tryd.ntmps50
        go_wp2_with fail
        with_reducible refine H1.out.mono ?_
        rintro e w' ⟨rfl, rfl⟩
        go_wp2_with fail
        with_reducible refine H2.out.mono ?_
        rintro e w' ⟨rfl, rfl⟩
        go_wp2_with fail
        with_reducible refine H3.out.mono ?_
        rintro e w' ⟨rfl, rfl⟩
        go_wp2_with fail
        go_ret
        exact ⟨by rw [HF.out]; rfl, rfl⟩
      · have H3 := Lib.hid (C_hp h3 w)
        have HF := Lib.hid (show Lay.fw l = 2 by unfold Lay.fw; rw [h1, h2, h3]; rfl)
        clear h1 h2 h3
        go_enter Tryd.func50, Tryd.ntmps50
        go_wp2_with fail
        with_reducible refine H1.out.mono ?_
        rintro e w' ⟨rfl, rfl⟩
        go_wp2_with fail
        with_reducible refine H2.out.mono ?_
        rintro e w' ⟨rfl, rfl⟩
        go_wp2_with fail
        with_reducible refine H3.out.mono ?_
        rintro e w' ⟨rfl, rfl⟩
        go_wp2_with fail
        go_ret
        exact ⟨by rw [HF.out]; rfl, rfl⟩
    · have H2 := Lib.hid (C_hp h2 w)
      have HF := Lib.hid (show Lay.fw l = 2 by unfold Lay.fw; rw [h1, h2]; rfl)
      clear h1 h2
      go_enter Tryd.func50, Tryd.ntmps50
      go_wp2_with fail
      with_reducible refine H1.out.mono ?_
      rintro e w' ⟨rfl, rfl⟩
      go_wp2_with fail
      with_reducible refine H2.out.mono ?_
      rintro e w' ⟨rfl, rfl⟩
      go_wp2_with fail
      go_ret
      exact ⟨by rw [HF.out]; rfl, rfl⟩
  · have H1 := Lib.hid (C_hp h1 w)
    have HF := Lib.hid (show Lay.fw l = 4 by unfold Lay.fw; rw [h1]; rfl)
    clear h1
    go_enter Tryd.func50, Tryd.ntmps50
    go_wp2_with fail
    with_reducible refine H1.out.mono ?_
    rintro e w' ⟨rfl, rfl⟩
    go_wp2_with fail
    go_ret
    exact ⟨by rw [HF.out]; rfl, rfl⟩
/-- A part, with what is known of it. -/
abbrev Pt := { p : List UInt8 // Lay.Ok p }
abbrev raw (ps : List Pt) : List (List UInt8) := ps.map (·.1)
def KpC (b : Nat) (W W' : World) : Prop := W'.cell? ⟨b, 0, none⟩ = W.cell? ⟨b, 0, none⟩
set_option maxRecDepth 100000 in
set_option maxHeartbeats 2000000 in
theorem parts_in (F : Fence) (n : Nat) (h6 : F.fn 49) (h7 : F.fn 50) (hro : F.round = none) (hn : 2 ≤ n) (l Bn : Nat) (L : List UInt8) (J Jx : List Pt → World → Prop) (hL : L.length ≤ 1000)
    (hfw : ∀ s W, CallsIn F (n - 1) Tryd.prog 50 #[S s] W fun e w' => e = .returned (iz (Lay.fw s : Nat)) ∧ W = w')
    (hY : ∀ pre x W, J pre W → pre.length < (Lay.parts L).length → YieldAt F (n - 1) Tryd.prog l #[S x.1] W fun e W' =>
      (e = .returned (.bool true) ∧ J (pre ++ [x]) W' ∧ KpC Bn W W') ∨ (e = .returned (.bool false) ∧ Jx (pre ++ [x]) W'))
    (W : World) (hBn : W.cell? ⟨Bn, 0, none⟩ = some (S L)) (h0 : J [] W) :
    CallsIn F n Tryd.prog 49 #[.func (.yield l) #[] #[], .pointer (some ⟨Bn, 0, none⟩)] W fun e W' => (∃ v, e = .returned v) ∧
      ((∃ ys, raw ys = Lay.parts L ∧ J ys W') ∨ (∃ pre, raw pre <+: Lay.parts L ∧ Jx pre W')) := by
  have HB := Lib.hid hfw; clear hfw
  have HY := Lib.hid hY; clear hY
  have h1 : 1 ≤ n := by omega
  obtain ⟨PS, hPS⟩ : ∃ PS, Lay.parts L = PS := ⟨_, rfl⟩
  rw [hPS] at HY ⊢
  have HPS := Lib.hid hPS; clear hPS
  refine callsIn_of_wp Tryd.func49 rfl h6 ?_ hro
  simp only [Tryd.ntmps49, List.size_toArray, List.length_cons, List.length_nil, Nat.reduceAdd, Nat.reduceSub, Array.replicate_succ, Array.replicate_zero, List.push_toArray, List.append_toArray, List.nil_append, List.cons_append]
  gi_wp2
  gi_loopw [3] (fun i wr => ∃ (r : List UInt8) (pre : List Pt), r.length ≤ L.length ∧ i = S r ∧ raw pre ++ Lay.parts r = PS ∧ wr.cell? ⟨Bn, 0, none⟩ = some (S L) ∧ J pre wr)
    (fun i _ => strLen i)
  case atStart => exact ⟨L, [], Nat.le_refl _, rfl, HPS.out, hBn, h0⟩
  case round =>
    clear hBn h0
    obtain ⟨r, pre, hr, rfl, hpre, hcell, hJ⟩ := hrel
    have HPRE := Lib.hid hpre; clear hpre
    have HJ := Lib.hid hJ; clear hJ
    by_cases hne : r = []
    · subst hne
      gi_wp2
      go_end0
      exact ⟨⟨_, rfl⟩, .inl ⟨pre, by have := HPRE.out; rwa [Lay.parts_nil, List.append_nil] at this, HJ.out⟩⟩
    · have hcons := Lay.parts_cons hne
      have hfl := Lay.fw_len hne
      have hfp := Lay.fw_pos r
      have hok := Lay.first_ok hne
      have H1 := Lib.hid (HB.out r wr)
      obtain ⟨k, hk⟩ : ∃ k, Lay.fw r = k := ⟨_, rfl⟩
      rw [hk] at hcons hfl hfp hok H1
      have hpl : pre.length < PS.length := by
        have := congrArg List.length HPRE.out
        rw [hcons] at this
        simp at this
        omega
      obtain ⟨x, hx⟩ : ∃ x, r.take k = x := ⟨_, rfl⟩
      obtain ⟨t, htt⟩ : ∃ t, r.drop k = t := ⟨_, rfl⟩
      have e1 := dext_take r k
      have e2 := dext_drop r k
      rw [hx] at hok e1 hcons
      rw [htt] at e2 hcons
      have hround := HY.out pre ⟨x, hok⟩ wr HJ.out hpl
      have htl : t.length < r.length := by rw [← htt, List.length_drop]; have : 0 < r.length := List.length_pos_iff.2 hne; omega
      have HC := Lib.hid hcons
      have hbe : (r == []) = false := by simpa using hne
      have hbn : (r != []) = true := by simpa using hne
      clear hcons hk hx htt
      obtain ⟨fn, tmps, assign, body, hy, hR⟩ := hround
      gi_wp2_with (gi_at_call 50; with_reducible refine H1.out.mono ?_; rintro e w' ⟨rfl, rfl⟩)
      refine hR.mono ?_
      rintro e W3 (⟨rfl, hJ3, hk3⟩ | ⟨rfl, hJx3⟩)
      · have hc3 : W3.cell? ⟨Bn, 0, none⟩ = some (S L) := by unfold KpC at hk3; rw [hk3]; exact hcell
        have HJ3 := Lib.hid hJ3
        clear hy hJ3
        gi_wp2
        go_roundw
        case rel =>
          refine ⟨t, pre ++ [⟨x, hok⟩], by omega, rfl, ?_, hc3, HJ3.out⟩
          rw [← HPRE.out, HC.out]
          simp [raw]
        case measure =>
          show (ByteArray.mk t.toArray).size < (ByteArray.mk r.toArray).size
          simp [ByteArray.size]
          exact htl
      · have HJ3 := Lib.hid hJx3
        clear hy hJx3
        gi_wp2
        refine bodyPost_ret (results_none rfl _ _ _) rfl ?_
        refine ⟨⟨_, rfl⟩, .inr ⟨_, ⟨Lay.parts t, ?_⟩, HJ3.out⟩⟩
        rw [← HPRE.out, HC.out]
        simp [raw]
end Go.Proofs.YtehgkpbjbkeoeaaDoor
