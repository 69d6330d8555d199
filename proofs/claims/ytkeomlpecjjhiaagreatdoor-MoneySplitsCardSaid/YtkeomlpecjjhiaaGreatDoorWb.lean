/- The reference of layer 4: shares. -/
import Derived.Test.YtkeomlpecjjhiaaGreatDoorWs
import Derived.Test.YtkeomlpecjjhiaaGreatDoorAu
namespace Go.Proofs.YtkeomlpecjjhiaaGreatDoor
open Go.RowKit
def shB (l : List T3) : Bool := !l.isEmpty && (okW l && decide (0 < sgr (sumQ l)))
theorem okW_all {l : List T3} (h : ∀ t ∈ l, rightR t.1 t.2.1 t.2.2 = true ∧ t.1 = false) : okW l = true := by
 unfold okW bad negs
 have h1 : (l.any fun t => !rightR t.1 t.2.1 t.2.2) = false := by
  rw [List.any_eq_false]
  intro t ht
  rw [(h t ht).1]
  simp
 have h2 : (l.any fun t => t.1) = false := by
  rw [List.any_eq_false]
  intro t ht
  rw [(h t ht).2]
  simp
 rw [h1, h2]
 rfl
theorem okW_bad {l : List T3} {t : T3} (ht : t ∈ l) (h : rightR t.1 t.2.1 t.2.2 = false ∨ t.1 = true) : okW l = false := by
 unfold okW bad negs
 rcases h with h | h
 ·have h1 : (l.any fun t => !rightR t.1 t.2.1 t.2.2) = true := List.any_eq_true.2 ⟨t, ht, by rw [h]; rfl⟩
  rw [h1]
  rfl
 ·have h2 : (l.any fun t => t.1) = true := List.any_eq_true.2 ⟨t, ht, h⟩
  rw [h2, Bool.or_true]
  rfl
set_option maxRecDepth 100000 in
set_option maxHeartbeats 6400000 in
theorem shares_any {K n c : Nat} {p : Option Addr} {l : List T3} {W : World} (hr : Rs W p n l) (hK : 1 ≤ K) (hK2 : K ≤ 300) (hz : ∀ t ∈ l, t.2.1.length ≤ K ∧ t.2.2.length ≤ K) (hb : 1 + n * (K + 1) ≤ 400) (hn : n ≤ 100) :
  Calls Tryz.prog 61 #[.slice p n c] W (Yld W (.bool (shB l))) := by
 have HRS := Lib.hid hr
 have hN := hr.len
 have HN := Lib.hid hN
 have hnn : 0 ≤ (n : Int) := by omega
 have hn4 : n < 400 := by omega
 by_cases h0 : n = 0
 ·subst h0
  have he : shB l = false := by
   rw [List.length_eq_zero_iff.1 hN]
   rfl
  rw [he]
  clear hr hz hb hN
  go_enter Tryz.func61, Tryz.ntmps61
  go_wp2_with fail
  go_ret
  exact ⟨rfl, Ch.refl _ _ _⟩
 ·have q1 : ¬ (n : Int) < 1 := by omega
  have q2 : ¬ 100 < (n : Int) := by omega
  have hS := rSum_any (c := c) hr hK hz hb
  have hsize := sumQ_size hK l hz n (by rw [hN]; exact Nat.le_refl _)
  rw [List.take_of_length_le (by rw [hN]; exact Nat.le_refl _)] at hsize
  have is := pt_is (sumQ l)
  have HSM := Lib.hid (fun (V : World) (hC : Ch W.heap.size none1 W V) => rSum_any (c := c) (hr.ch hC) hK hz hb)
  obtain ⟨⟨ss, ns, ds⟩, hps⟩ : ∃ t, pt (sumQ l) = t := ⟨_, rfl⟩
  rw [hps] at is HSM
  simp only at is
  obtain ⟨l5, l6⟩ := hsize.len is
  obtain ⟨z, hzz⟩ : ∃ z, sgr (sumQ l) = z := ⟨_, rfl⟩
  have HSG := Lib.hid (C_rSign (s := ss) (n := ns) (d := ds) (by omega) (by omega) (ratOf_is is) hzz)
  have hne : l.isEmpty = false := by
   cases l with
   | nil => exact absurd hN.symm h0
   | cons a t => rfl
  have HB := Lib.hid (show shB l = (okW l && decide (0 < z)) by unfold shB; rw [hne, hzz]; rfl)
  have HZ := Lib.hid hz
  clear hr hS hsize is hps l5 l6 hzz hne hz hb h0 hN
  go_enter Tryz.func61, Tryz.ntmps61
  go_wp2_with fail
  go_loopw [3] (fun x wr => ∃ k : Nat, k ≤ n ∧ x = .int .i64 k ∧ Ch W.heap.size none1 W wr ∧ ∀ t ∈ l.take k, rightR t.1 t.2.1 t.2.2 = true ∧ t.1 = false) (fun x _ => n - (intOf x).toNat)
  case atStart => exact ⟨0, Nat.zero_le _, rfl, Ch.refl _ _ _, fun t ht => by simp at ht⟩
  case round =>
   obtain ⟨k, hk, rfl, hC, hall⟩ := hrel
   have HC := Lib.hid hC
   have HA := Lib.hid hall
   clear hC hall
   have hk0 : 0 ≤ (k : Int) := by omega
   by_cases hlt : k < n
   ·obtain ⟨⟨s, m, d⟩, ht⟩ : ∃ t, l[k]? = some t := ⟨l[k]'(by rw [HN.out]; exact hlt), List.getElem?_eq_getElem _⟩
    have hm := HZ.out _ (List.mem_of_getElem? ht)
    simp only at hm
    obtain ⟨g, o, rfl⟩ := HRS.out.addr (by omega)
    obtain ⟨r, hrr⟩ : ∃ r, rightR s m d = r := ⟨_, rfl⟩
    have H1 := Lib.hid (C_rRight (s := s) (n := m) (d := d) (by omega) (by omega) hrr)
    have HX := Lib.hid (fun (V : World) (hC : Ch W.heap.size none1 W V) => (HRS.out.ch hC).get ht)
    have hkl : (k : Int) < (n : Int) := by omega
    have hkd : decide ((k : Int) < (n : Int)) = true := decide_eq_true hkl
    have HTK := Lib.hid (show l.take (k + 1) = l.take k ++ [(s, m, d)] by rw [List.take_add_one, ht]; rfl)
    have HMB := Lib.hid (List.mem_of_getElem? ht)
    have HR := Lib.hid hrr
    obtain ⟨c0, c1, c2⟩ := HX.out _ HC.out
    try simp only at c0 c1 c2
    clear ht hm hrr
    go_wp2_with fail
    refine (H1.out _).mono ?_
    rintro e wq ⟨rfl, hCq⟩
    have HC2 := Lib.hid (HC.out.step0 hCq (Nat.le_refl _))
    clear hCq c0 c1 c2
    obtain ⟨c0, c1, c2⟩ := HX.out _ HC2.out
    try simp only at c0 c1 c2
    rcases r with _ | _
    ·have HF := Lib.hid (okW_bad HMB.out (.inl HR.out))
     go_wp2_with fail
     go_ret
     exact ⟨ret_bool (by rw [HB.out, HF.out]; rfl), HC2.out⟩
    ·rcases s with _ | _
     ·go_wp2_with fail
      go_roundw
      case rel =>
       refine ⟨k + 1, by omega, by go_num, HC2.out, fun t ht => ?_⟩
       rw [HTK.out] at ht
       rcases List.mem_append.1 ht with ht | ht
       ·exact HA.out t ht
       ·obtain rfl := List.mem_singleton.1 ht
        exact ⟨HR.out, rfl⟩
      case measure => simp [intOf]; omega
     ·have HF := Lib.hid (okW_bad HMB.out (.inr rfl))
      go_wp2_with fail
      go_ret
      exact ⟨ret_bool (by rw [HB.out, HF.out]; rfl), HC2.out⟩
   ·obtain rfl : k = n := by omega
    have HF := Lib.hid (okW_all (l := l) (fun t ht => HA.out t (by rw [List.take_of_length_le (by rw [HN.out]; exact Nat.le_refl _)]; exact ht)))
    have hkd : decide ((k : Int) < (k : Int)) = false := decide_eq_false (Int.lt_irrefl _)
    go_wp2_with fail
    refine (HSM.out _ HC.out).mono ?_
    rintro e w1 ⟨rfl, hC1⟩
    have HC1 := Lib.hid (HC.out.step0 hC1 (Nat.le_refl _))
    clear hC1
    go_wp2_with fail
    refine (HSG.out _).mono ?_
    rintro e w2 ⟨rfl, hC2⟩
    have HC2 := Lib.hid (HC1.out.step0 hC2 (Nat.le_refl _))
    clear hC2
    go_wp2_with fail
    go_ret
    exact ⟨ret_bool (by rw [HB.out, HF.out]; rfl), HC2.out⟩
end Go.Proofs.YtkeomlpecjjhiaaGreatDoor
