/- Package span: Union, Meet, Less, Norm, Days. -/
import Derived.Test.YtnbcfolmadkliaaDoorSj
namespace Go.Proofs.YtnbcfolmadkliaaDoor
open Go.RowKit Go.Shelf
def dUnion (a b : List Spn.Sp) : Int → Bool := fun d => Spn.has a d || Spn.has b d
def dMeet (a b : List Spn.Sp) : Int → Bool := fun d => Spn.has a d && Spn.has b d
def dLess (a b : List Spn.Sp) : Int → Bool := fun d => Spn.has a d && !Spn.has b d
theorem dom_union (a b : List Spn.Sp) : Spn.Dom (dUnion a b) := fun d h => by
  unfold dUnion at h
  rw [Bool.or_eq_true] at h
  rcases h with h | h <;> exact Spn.has_dom h
theorem dom_meet (a b : List Spn.Sp) : Spn.Dom (dMeet a b) := fun d h => by
  unfold dMeet at h
  rw [Bool.and_eq_true] at h
  exact Spn.has_dom h.1
theorem dom_less (a b : List Spn.Sp) : Spn.Dom (dLess a b) := fun d h => by
  unfold dLess at h
  rw [Bool.and_eq_true] at h
  exact Spn.has_dom h.1
set_option maxRecDepth 100000 in
set_option maxHeartbeats 1600000 in
theorem Union_any (a b : List Spn.Sp) (pa pb : Option Addr) (na nb ca cb : Nat) (w : World) (ha : Rd spc 2 w pa na a) (hb : Rd spc 2 w pb nb b) (hna : na ≤ 4000000) (hnb : nb ≤ 4000000) :
    Calls Tryd.prog 12 #[.slice pa na ca, .slice pb nb cb] w (Ys w (Spn.nf (dUnion a b))) := by
  have hC := (Ch.refl w.heap.size none1 w).alloc (Nat.le_refl _) (.cells #[.slice pa na ca, .slice pb nb cb] 24)
  have H1 := Lib.hid (combined_any 28 kUnion union_keeps rfl (enters_of Tryd.func28 (by kernel_rfl) rfl) a b pa pb na nb ca cb w.heap.size 24 (w.alloc (.cells #[.slice pa na ca, .slice pb nb cb] 24)) (Blk.new w _ _) (ha.ch hC) (hb.ch hC) hna hnb)
  have HC := Lib.hid hC
  clear ha hb hC
  go_enter Tryd.func12, Tryd.ntmps12
  go_wp2_with fail
  refine H1.out.mono ?_
  rintro e w' ⟨p, m, c, rfl, hr, hC2⟩
  have HR := Lib.hid hr
  have HC2 := Lib.hid hC2
  clear hr hC2
  go_wp2_with fail
  go_ret
  exact ⟨p, m, c, rfl, HR.out, HC.out.step0 HC2.out (Nat.le_refl _)⟩
set_option maxRecDepth 100000 in
set_option maxHeartbeats 1600000 in
theorem Meet_any (a b : List Spn.Sp) (pa pb : Option Addr) (na nb ca cb : Nat) (w : World) (ha : Rd spc 2 w pa na a) (hb : Rd spc 2 w pb nb b) (hna : na ≤ 4000000) (hnb : nb ≤ 4000000) :
    Calls Tryd.prog 13 #[.slice pa na ca, .slice pb nb cb] w (Ys w (Spn.nf (dMeet a b))) := by
  have hC := (Ch.refl w.heap.size none1 w).alloc (Nat.le_refl _) (.cells #[.slice pa na ca, .slice pb nb cb] 24)
  have H1 := Lib.hid (combined_any 30 kMeet meet_keeps rfl (enters_of Tryd.func30 (by kernel_rfl) rfl) a b pa pb na nb ca cb w.heap.size 24 (w.alloc (.cells #[.slice pa na ca, .slice pb nb cb] 24)) (Blk.new w _ _) (ha.ch hC) (hb.ch hC) hna hnb)
  have HC := Lib.hid hC
  clear ha hb hC
  go_enter Tryd.func13, Tryd.ntmps13
  go_wp2_with fail
  refine H1.out.mono ?_
  rintro e w' ⟨p, m, c, rfl, hr, hC2⟩
  have HR := Lib.hid hr
  have HC2 := Lib.hid hC2
  clear hr hC2
  go_wp2_with fail
  go_ret
  exact ⟨p, m, c, rfl, HR.out, HC.out.step0 HC2.out (Nat.le_refl _)⟩
set_option maxRecDepth 100000 in
set_option maxHeartbeats 1600000 in
theorem Less_any (a b : List Spn.Sp) (pa pb : Option Addr) (na nb ca cb : Nat) (w : World) (ha : Rd spc 2 w pa na a) (hb : Rd spc 2 w pb nb b) (hna : na ≤ 4000000) (hnb : nb ≤ 4000000) :
    Calls Tryd.prog 14 #[.slice pa na ca, .slice pb nb cb] w (Ys w (Spn.nf (dLess a b))) := by
  have hC := (Ch.refl w.heap.size none1 w).alloc (Nat.le_refl _) (.cells #[.slice pa na ca, .slice pb nb cb] 24)
  have H1 := Lib.hid (combined_any 31 kLess less_keeps rfl (enters_of Tryd.func31 (by kernel_rfl) rfl) a b pa pb na nb ca cb w.heap.size 24 (w.alloc (.cells #[.slice pa na ca, .slice pb nb cb] 24)) (Blk.new w _ _) (ha.ch hC) (hb.ch hC) hna hnb)
  have HC := Lib.hid hC
  clear ha hb hC
  go_enter Tryd.func14, Tryd.ntmps14
  go_wp2_with fail
  refine H1.out.mono ?_
  rintro e w' ⟨p, m, c, rfl, hr, hC2⟩
  have HR := Lib.hid hr
  have HC2 := Lib.hid hC2
  clear hr hC2
  go_wp2_with fail
  go_ret
  exact ⟨p, m, c, rfl, HR.out, HC.out.step0 HC2.out (Nat.le_refl _)⟩
set_option maxRecDepth 100000 in
set_option maxHeartbeats 1600000 in
theorem Norm_any (a : List Spn.Sp) (pa : Option Addr) (na ca : Nat) (w : World) (ha : Rd spc 2 w pa na a) (hna : na ≤ 4000000) :
    Calls Tryd.prog 11 #[.slice pa na ca] w (Ys w (Spn.nf (Spn.has a))) := by
  have h := Union_any a [] pa none na 0 ca 0 w ha (Rd.none w) hna (by omega)
  rw [show dUnion a [] = Spn.has a from funext fun d => by unfold dUnion; rw [Spn.has_nil, Bool.or_false]] at h
  have H1 := Lib.hid h
  clear h ha
  go_enter Tryd.func11, Tryd.ntmps11
  go_wp2_with fail
  refine H1.out.mono ?_
  rintro e w' ⟨p, m, c, rfl, hr, hC2⟩
  have HR := Lib.hid hr
  have HC2 := Lib.hid hC2
  clear hr hC2
  go_wp2_with fail
  go_ret
  exact ⟨p, m, c, rfl, HR.out, HC2.out⟩
theorem nf_len {p : Int → Bool} (h : Spn.Dom p) : (Spn.nf p).length ≤ 4000000 := by have := (Spn.nf_spec h).1.len; omega
theorem days_take {l : List Spn.Sp} {k : Nat} {s : Spn.Sp} (h : l[k]? = some s) : Spn.days (l.take (k + 1)) = Spn.days (l.take k) + (s.2 - s.1) := by
  rw [List.take_add_one, h]
  exact Spn.days_snoc s _
theorem Spn.Nrm.take {l : List Spn.Sp} (h : Spn.Nrm l) (k : Nat) : Spn.Nrm (l.take k) := by
  have e : l = l.take k ++ l.drop k := (List.take_append_drop k l).symm
  rw [e] at h
  exact h.front
set_option maxRecDepth 100000 in
set_option maxHeartbeats 3200000 in
theorem Days_any (a : List Spn.Sp) (pa : Option Addr) (na ca : Nat) (w : World) (ha : Rd spc 2 w pa na a) (hna : na ≤ 4000000) :
    Calls Tryd.prog 24 #[.slice pa na ca] w (Ya w (iz (Spn.days (Spn.nf (Spn.has a))))) := by
  have H1 := Lib.hid (Norm_any a pa na ca w ha hna)
  have HN := Lib.hid (Spn.nf_spec (Spn.dom_has a)).1
  obtain ⟨L, hL⟩ : ∃ L, Spn.nf (Spn.has a) = L := ⟨_, rfl⟩
  rw [hL] at H1 HN ⊢
  have HL := Lib.hid (show L.length ≤ 4000000 by rw [← hL]; exact nf_len (Spn.dom_has a))
  clear ha hL
  go_enter Tryd.func24, Tryd.ntmps24
  go_wp2_with fail
  refine H1.out.mono ?_
  rintro e w1 ⟨p, m, c, rfl, hr, hC⟩
  have HR := Lib.hid hr
  have HC := Lib.hid hC
  have hm : m ≤ 4000000 := by rw [← hr.len]; exact HL.out
  clear hr hC
  go_wp2_with fail
  go_loopw [3, 9] (fun v i wr => ∃ k : Nat, k ≤ m ∧ i = .int .i64 k ∧ v = iz (Spn.days (L.take k)) ∧ Ch w1.heap.size none1 w1 wr) (fun _ i _ => m - (intOf i).toNat)
  case atStart => exact ⟨0, Nat.zero_le _, rfl, rfl, Ch.refl _ _ _⟩
  case round =>
    obtain ⟨k, hk, rfl, rfl, hC2⟩ := hrel
    have HC2 := Lib.hid hC2
    clear hC2
    by_cases hlt : k < m
    · obtain ⟨g, o, rfl, hg⟩ := HR.out.addr (by omega)
      obtain ⟨⟨x, y⟩, ht⟩ : ∃ t, L[k]? = some t := ⟨L[k]'(by rw [HR.out.len]; exact hlt), List.getElem?_eq_getElem _⟩
      obtain ⟨c0, c1⟩ := (HR.out.ch HC2.out).sp ht
      have HD := Lib.hid (days_take ht)
      have hb := Spn.days_range (HN.out.take k)
      have hr := Spn.rt_iff.1 (HN.out.1 _ (List.mem_of_getElem? ht))
      simp only at hr
      obtain ⟨r0, r1, r2⟩ := hr
      obtain ⟨D, hD⟩ : ∃ D, Spn.days (L.take k) = D := ⟨_, rfl⟩
      rw [hD] at HD hb ⊢
      have hbb := Blk.new wr #[iz x, iz y] 35
      have e0 := hbb.cell 0
      have e1 := hbb.cell 1
      simp only [List.getElem?_cons_zero, List.getElem?_cons_succ] at e0 e1
      clear ht hD hbb
      go_wp2_with fail
      go_roundw
      case rel => exact ⟨k + 1, by omega, by go_num, by rw [HD.out], HC2.out.alloc (by have := HC2.out.size; omega) _⟩
      case measure => simp [intOf]; omega
    · obtain rfl : k = m := by omega
      have HF := Lib.hid (show L.take k = L by rw [← HR.out.len, List.take_length])
      go_wp2_with fail
      go_ret
      exact ⟨by rw [HF.out]; rfl, HC.out.step0 HC2.out (Nat.le_refl _)⟩
end Go.Proofs.YtnbcfolmadkliaaDoor
