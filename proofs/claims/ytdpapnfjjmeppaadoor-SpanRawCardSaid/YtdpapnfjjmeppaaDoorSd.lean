/- Package span: Has, and the reference's Has. -/
import Derived.Test.YtdpapnfjjmeppaaDoorSc
namespace Go.Proofs.YtdpapnfjjmeppaaDoor
open Go.RowKit
set_option maxRecDepth 100000 in
set_option maxHeartbeats 1600000 in
theorem index_func (d : Int) (B : Nat) (w : World) (p : Option Addr) (n cap : Nat) (l : List Spn.Sp) (hv : Rd spc 2 w p n l) (hn : n ≤ 1000000000) (hB : w.cell? ⟨B, 0, none⟩ = some (iz d)) (hlt : B < w.heap.size) :
    Calls Tryd.prog 56 #[.slice p n cap, .func (.func 46) #[] #[.pointer (some ⟨B, 0, none⟩)]] w fun e w' => ∃ i : Int, e = .returned (iz i) ∧ (0 ≤ i ↔ Spn.has l d = true) ∧ Ch w.heap.size none1 w w' := by
  have HV := Lib.hid hv
  have HBB := Lib.hid hB
  clear hv hB
  go_enter Tryd.func56, Tryd.ntmps56
  go_wp2_with fail
  go_loopw [8] (fun i wr => ∃ k : Nat, k ≤ n ∧ i = .int .i64 k ∧ Ch w.heap.size none1 w wr ∧ Spn.has (l.take k) d = false) (fun i _ => n - (intOf i).toNat)
  case atStart => exact ⟨0, Nat.zero_le _, rfl, Ch.refl _ _ _, rfl⟩
  case round =>
    obtain ⟨k, hk, rfl, hC, hno⟩ := hrel
    have HN := Lib.hid hno
    have HC := Lib.hid hC
    clear hno hC
    by_cases hlt2 : k < n
    · obtain ⟨g, o, rfl, hg⟩ := HV.out.addr (by omega)
      obtain ⟨⟨a, b⟩, ht⟩ : ∃ t, l[k]? = some t := ⟨l[k]'(by rw [HV.out.len]; exact hlt2), List.getElem?_eq_getElem _⟩
      obtain ⟨c0, c1⟩ := (HV.out.ch HC.out).sp ht
      have H1 := Lib.hid (has1_any a b d B wr (by rw [HC.out.cell (p := ⟨B, 0, none⟩) hlt (fun q => q)]; exact HBB.out) (by have := HC.out.size; omega))
      have hnx : Spn.has (l.take (k + 1)) d = (Spn.has (l.take k) d || Spn.inn (a, b) d) := by
        rw [List.take_add_one, ht, Spn.has_append]
        show (_ || Spn.has [(a, b)] d) = _
        rw [Spn.has_cons, Spn.has_nil, Bool.or_false]
      rw [HN.out, Bool.false_or] at hnx
      have HX := Lib.hid hnx
      have HT := Lib.hid (List.mem_of_getElem? ht)
      clear ht hnx
      rcases hi : Spn.inn (a, b) d
      · rw [hi] at H1 HX
        clear hi
        go_wp2_with fail
        refine H1.out.mono ?_
        rintro e w' ⟨rfl, hC2⟩
        have HC2 := Lib.hid hC2
        clear hC2 c0 c1
        go_wp2_with fail
        go_roundw
        case rel => exact ⟨k + 1, by omega, by go_num, HC.out.step0 HC2.out (Nat.le_refl _), HX.out⟩
        case measure => simp [intOf]; omega
      · have HI := Lib.hid hi
        rw [hi] at H1
        clear hi
        go_wp2_with fail
        refine H1.out.mono ?_
        rintro e w' ⟨rfl, hC2⟩
        have HC2 := Lib.hid hC2
        clear hC2 c0 c1
        go_wp2_with fail
        go_ret
        exact ⟨_, rfl, ⟨fun _ => by unfold Spn.has; rw [List.any_eq_true]; exact ⟨_, HT.out, HI.out⟩, fun _ => by omega⟩, HC.out.step0 HC2.out (Nat.le_refl _)⟩
    · obtain rfl : k = n := by omega
      have HF := Lib.hid (show Spn.has l d = false by have := HN.out; rwa [← HV.out.len, List.take_length] at this)
      go_wp2_with fail
      go_ret
      exact ⟨_, rfl, ⟨fun h => by omega, fun h => by rw [HF.out] at h; cases h⟩, HC.out⟩
set_option maxRecDepth 100000 in
set_option maxHeartbeats 1600000 in
theorem contains_func (d : Int) (B : Nat) (w : World) (p : Option Addr) (n cap : Nat) (l : List Spn.Sp) (hv : Rd spc 2 w p n l) (hn : n ≤ 1000000000) (hB : w.cell? ⟨B, 0, none⟩ = some (iz d)) (hlt : B < w.heap.size) :
    Calls Tryd.prog 45 #[.slice p n cap, .func (.func 46) #[] #[.pointer (some ⟨B, 0, none⟩)]] w (Ya w (.bool (Spn.has l d))) := by
  have H1 := Lib.hid (index_func d B w p n cap l hv hn hB hlt)
  clear hv hB
  go_enter Tryd.func45, Tryd.ntmps45
  go_wp2_with fail
  refine H1.out.mono ?_
  rintro e w' ⟨i, rfl, hi, hC⟩
  have HI := Lib.hid hi
  have HC := Lib.hid hC
  clear hi hC
  go_wp2_with fail
  go_ret
  refine ⟨ret_bool ?_, HC.out⟩
  rw [Bool.eq_iff_iff, decide_eq_true_eq]
  exact HI.out
set_option maxRecDepth 100000 in
set_option maxHeartbeats 1600000 in
theorem Has_any (d : Int) (w : World) (p : Option Addr) (n cap : Nat) (l : List Spn.Sp) (hv : Rd spc 2 w p n l) (hn : n ≤ 1000000000) :
    Calls Tryd.prog 28 #[.slice p n cap, iz d] w (Ya w (.bool (Spn.has l d))) := by
  have hC := (Ch.refl w.heap.size none1 w).alloc (Nat.le_refl _) (.cells #[iz d] 3)
  have H1 := Lib.hid (contains_func d w.heap.size (w.alloc (.cells #[iz d] 3)) p n cap l (hv.ch hC) hn ((Blk.new w #[iz d] 3).cell 0) (by simp))
  have HC := Lib.hid hC
  clear hv hC
  go_enter Tryd.func28, Tryd.ntmps28
  go_wp2_with fail
  refine H1.out.mono ?_
  rintro e w' ⟨rfl, hC2⟩
  have HC2 := Lib.hid hC2
  clear hC2
  go_wp2_with fail
  go_ret
  exact ⟨rfl, HC.out.step0 HC2.out (Nat.le_refl _)⟩
set_option maxRecDepth 100000 in
set_option maxHeartbeats 3200000 in
theorem refHas_any (d : Int) (w : World) (p : Option Addr) (n cap : Nat) (l : List Spn.Sp) (hv : Rd spc 2 w p n l) (hn : n ≤ 1000000000) :
    Calls Tryd.prog 29 #[.slice p n cap, iz d] w (Ya w (.bool (Spn.has l d))) := by
  have HV := Lib.hid hv
  clear hv
  go_enter Tryd.func29, Tryd.ntmps29
  go_wp2_with fail
  go_loopw [5] (fun i wr => ∃ k : Nat, k ≤ n ∧ i = .int .i64 k ∧ Ch w.heap.size none1 w wr ∧ Spn.has (l.take k) d = false) (fun i _ => n - (intOf i).toNat)
  case atStart => exact ⟨0, Nat.zero_le _, rfl, Ch.refl _ _ _, rfl⟩
  case round =>
    obtain ⟨k, hk, rfl, hC, hno⟩ := hrel
    have HN := Lib.hid hno
    have HC := Lib.hid hC
    clear hno hC
    by_cases hlt2 : k < n
    · obtain ⟨g, o, rfl, hg⟩ := HV.out.addr (by omega)
      obtain ⟨⟨a, b⟩, ht⟩ : ∃ t, l[k]? = some t := ⟨l[k]'(by rw [HV.out.len]; exact hlt2), List.getElem?_eq_getElem _⟩
      have hr := (HV.out.ch HC.out)
      obtain ⟨c0, c1⟩ := hr.sp ht
      have hcb := (Ch.refl wr.heap.size none1 wr).alloc (Nat.le_refl _) (.cells #[iz a, iz b] 33)
      obtain ⟨d0, d1⟩ := (hr.ch hcb).sp ht
      have HCB := Lib.hid hcb
      have H1 := fun W => refRight_any a b W
      have hnx : Spn.has (l.take (k + 1)) d = (Spn.has (l.take k) d || Spn.inn (a, b) d) := by
        rw [List.take_add_one, ht, Spn.has_append]
        show (_ || Spn.has [(a, b)] d) = _
        rw [Spn.has_cons, Spn.has_nil, Bool.or_false]
      rw [HN.out, Bool.false_or] at hnx
      obtain ⟨r, hr'⟩ : ∃ r, Spn.rt (a, b) = r := ⟨_, rfl⟩
      rw [inn_parts (d := d) hr'] at hnx
      rw [hr'] at H1
      have H2 := Lib.hid H1
      have HX := Lib.hid hnx
      have HT := Lib.hid (show r = true → a ≤ d → d < b → Spn.has l d = true from fun h1 h2 h3 => by
        unfold Spn.has; rw [List.any_eq_true]; exact ⟨_, List.mem_of_getElem? ht, by rw [inn_parts (d := d) hr', h1]; simp [h2, h3]⟩)
      clear ht hnx hr hcb H1 hr'
      cases r with
      | false =>
        go_wp2_with fail
        refine (H2.out _).mono ?_
        rintro e w' ⟨rfl, rfl⟩
        go_wp2_with fail
        go_roundw
        case rel => exact ⟨k + 1, by omega, by go_num, HC.out.step0 HCB.out (Nat.le_refl _), HX.out⟩
        case measure => simp [intOf]; omega
      | true =>
        by_cases h1 : a ≤ d
        · by_cases h2 : d < b
          · go_wp2_with fail
            refine (H2.out _).mono ?_
            rintro e w' ⟨rfl, rfl⟩
            go_wp2_with fail
            go_ret
            exact ⟨ret_bool (HT.out (by first | rfl | trivial) h1 h2).symm, HC.out.step0 HCB.out (Nat.le_refl _)⟩
          · go_wp2_with fail
            refine (H2.out _).mono ?_
            rintro e w' ⟨rfl, rfl⟩
            go_wp2_with fail
            go_roundw
            case rel => exact ⟨k + 1, by omega, by go_num, HC.out.step0 HCB.out (Nat.le_refl _), by rw [HX.out, decide_eq_false (show ¬ d < b by omega)]; simp⟩
            case measure => simp [intOf]; omega
        · go_wp2_with fail
          refine (H2.out _).mono ?_
          rintro e w' ⟨rfl, rfl⟩
          go_wp2_with fail
          go_roundw
          case rel => exact ⟨k + 1, by omega, by go_num, HC.out.step0 HCB.out (Nat.le_refl _), by rw [HX.out, decide_eq_false (show ¬ a ≤ d by omega)]; simp⟩
          case measure => simp [intOf]; omega
    · obtain rfl : k = n := by omega
      have HF := Lib.hid (show Spn.has l d = false by have := HN.out; rwa [← HV.out.len, List.take_length] at this)
      go_wp2_with fail
      go_ret
      exact ⟨ret_bool HF.out.symm, HC.out⟩
end Go.Proofs.YtdpapnfjjmeppaaDoor
