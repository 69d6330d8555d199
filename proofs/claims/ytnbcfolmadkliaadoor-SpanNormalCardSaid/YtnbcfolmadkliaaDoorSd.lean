/- Package span: Has, and the reference's Has. -/
import Derived.Test.YtnbcfolmadkliaaDoorSc
namespace Go.Proofs.YtnbcfolmadkliaaDoor
open Go.RowKit
set_option maxRecDepth 100000 in
set_option maxHeartbeats 1600000 in
theorem index_func (d : Int) (B : Nat) (w : World) (p : Option Addr) (n cap : Nat) (l : List Spn.Sp) (hv : Rd spc 2 w p n l) (hn : n ≤ 1000000000) (hB : w.cell? ⟨B, 0, none⟩ = some (iz d)) (hlt : B < w.heap.size) :
    Calls Tryd.prog 38 #[.slice p n cap, .func (.func 26) #[] #[.pointer (some ⟨B, 0, none⟩)]] w fun e w' => ∃ i : Int, e = .returned (iz i) ∧ (0 ≤ i ↔ Spn.has l d = true) ∧ Ch w.heap.size none1 w w' := by
  have HV := Lib.hid hv
  have HBB := Lib.hid hB
  clear hv hB
  go_enter Tryd.func38, Tryd.ntmps38
  go_wp2_with fail
  go_loopw [8] (fun i wr => ∃ k : Nat, k ≤ n ∧ i = .int .i64 k ∧ Ch w.heap.size none1 w wr ∧ Spn.has (l.take k) d = false) (fun i _ => n - (intOf i).toNat)
  case atStart => exact ⟨0, Nat.zero_le _, rfl, Ch.refl _ _ _, rfl⟩
  case round =>
    obtain ⟨k, hk, rfl, hC, hno⟩ := hrel
    have HN := Lib.hid hno
    have HC := Lib.hid hC
    clear hno hC
    by_cases hlt2 : k < n
    · obtain ⟨g, o, rfl, hg⟩ := HV.out.addr (by omega)
      obtain ⟨⟨a, b⟩, ht⟩ : ∃ t, l[k]? = some t := ⟨l[k]'(by rw [HV.out.len]; exact hlt2), List.getElem?_eq_getElem _⟩
      obtain ⟨c0, c1⟩ := (HV.out.ch HC.out).sp ht
      have H1 := Lib.hid (has1_any a b d B wr (by rw [HC.out.cell (p := ⟨B, 0, none⟩) hlt (fun q => q)]; exact HBB.out) (by have := HC.out.size; omega))
      have hnx : Spn.has (l.take (k + 1)) d = (Spn.has (l.take k) d || Spn.inn (a, b) d) := by
        rw [List.take_add_one, ht, Spn.has_append]
        show (_ || Spn.has [(a, b)] d) = _
        rw [Spn.has_cons, Spn.has_nil, Bool.or_false]
      rw [HN.out, Bool.false_or] at hnx
      have HX := Lib.hid hnx
      have HT := Lib.hid (List.mem_of_getElem? ht)
      clear ht hnx
      rcases hi : Spn.inn (a, b) d
      · rw [hi] at H1 HX
        clear hi
        go_wp2_with fail
        refine H1.out.mono ?_
        rintro e w' ⟨rfl, hC2⟩
        have HC2 := Lib.hid hC2
        clear hC2 c0 c1
        go_wp2_with fail
        go_roundw
        case rel => exact ⟨k + 1, by omega, by go_num, HC.out.step0 HC2.out (Nat.le_refl _), HX.out⟩
        case measure => simp [intOf]; omega
      · have HI := Lib.hid hi
        rw [hi] at H1
        clear hi
        go_wp2_with fail
        refine H1.out.mono ?_
        rintro e w' ⟨rfl, hC2⟩
        have HC2 := Lib.hid hC2
        clear hC2 c0 c1
        go_wp2_with fail
        go_ret
        exact ⟨_, rfl, ⟨fun _ => by unfold Spn.has; rw [List.any_eq_true]; exact ⟨_, HT.out, HI.out⟩, fun _ => by omega⟩, HC.out.step0 HC2.out (Nat.le_refl _)⟩
    · obtain rfl : k = n := by omega
      have HF := Lib.hid (show Spn.has l d = false by have := HN.out; rwa [← HV.out.len, List.take_length] at this)
      go_wp2_with fail
      go_ret
      exact ⟨_, rfl, ⟨fun h => by omega, fun h => by rw [HF.out] at h; cases h⟩, HC.out⟩
set_option maxRecDepth 100000 in
set_option maxHeartbeats 1600000 in
theorem contains_func (d : Int) (B : Nat) (w : World) (p : Option Addr) (n cap : Nat) (l : List Spn.Sp) (hv : Rd spc 2 w p n l) (hn : n ≤ 1000000000) (hB : w.cell? ⟨B, 0, none⟩ = some (iz d)) (hlt : B < w.heap.size) :
    Calls Tryd.prog 25 #[.slice p n cap, .func (.func 26) #[] #[.pointer (some ⟨B, 0, none⟩)]] w (Ya w (.bool (Spn.has l d))) := by
  have H1 := Lib.hid (index_func d B w p n cap l hv hn hB hlt)
  clear hv hB
  go_enter Tryd.func25, Tryd.ntmps25
  go_wp2_with fail
  refine H1.out.mono ?_
  rintro e w' ⟨i, rfl, hi, hC⟩
  have HI := Lib.hid hi
  have HC := Lib.hid hC
  clear hi hC
  go_wp2_with fail
  go_ret
  refine ⟨ret_bool ?_, HC.out⟩
  rw [Bool.eq_iff_iff, decide_eq_true_eq]
  exact HI.out
set_option maxRecDepth 100000 in
set_option maxHeartbeats 1600000 in
theorem Has_any (d : Int) (w : World) (p : Option Addr) (n cap : Nat) (l : List Spn.Sp) (hv : Rd spc 2 w p n l) (hn : n ≤ 1000000000) :
    Calls Tryd.prog 10 #[.slice p n cap, iz d] w (Ya w (.bool (Spn.has l d))) := by
  have hC := (Ch.refl w.heap.size none1 w).alloc (Nat.le_refl _) (.cells #[iz d] 3)
  have H1 := Lib.hid (contains_func d w.heap.size (w.alloc (.cells #[iz d] 3)) p n cap l (hv.ch hC) hn ((Blk.new w #[iz d] 3).cell 0) (by simp))
  have HC := Lib.hid hC
  clear hv hC
  go_enter Tryd.func10, Tryd.ntmps10
  go_wp2_with fail
  refine H1.out.mono ?_
  rintro e w' ⟨rfl, hC2⟩
  have HC2 := Lib.hid hC2
  clear hC2
  go_wp2_with fail
  go_ret
  exact ⟨rfl, HC.out.step0 HC2.out (Nat.le_refl _)⟩
end Go.Proofs.YtnbcfolmadkliaaDoor
