/- Package span: Count. -/
import Derived.Test.YtnbcfolmadkliaaDoorSk
namespace Go.Proofs.YtnbcfolmadkliaaDoor
open Go.RowKit Go.Shelf
/-- What Count answers. -/
noncomputable def cen (p : Int → Bool) (s n : Int) : Option Int := if 0 ≤ s then Spn.endOf p s n else none
noncomputable def cenV (p : Int → Bool) (s n : Int) : Value := .tuple #[iz ((cen p s n).getD 0), .bool (cen p s n).isSome]
theorem cenV_some {p : Int → Bool} {s n d : Int} (h0 : 0 ≤ s) (h : Spn.Ends p s n d) : cenV p s n = .tuple #[iz d, .bool true] := by
  unfold cenV cen
  rw [if_pos h0, Spn.endOf_some h]
  rfl
theorem cenV_none {p : Int → Bool} {s n : Int} (h : 0 ≤ s → ∀ d, ¬ Spn.Ends p s n d) : cenV p s n = .tuple #[iz 0, .bool false] := by
  unfold cenV cen
  split
  · rw [Spn.endOf_none (h (by assumption))]; rfl
  · rfl
theorem less_free (a : List Spn.Sp) (s : Int) : dLess [(s, 3652058)] a = Spn.free (Spn.has a) s := funext fun d => by
  unfold dLess Spn.free
  rw [Spn.has_cons, Spn.has_nil, Bool.or_false]
theorem take_split {l : List Spn.Sp} {k : Nat} {s : Spn.Sp} (h : l[k]? = some s) : l = l.take k ++ s :: l.drop (k + 1) := by
  obtain ⟨h1, h2⟩ := List.getElem?_eq_some_iff.1 h
  rw [← h2]
  simp
set_option maxRecDepth 100000 in
set_option maxHeartbeats 6400000 in
theorem Count_any (a : List Spn.Sp) (pa : Option Addr) (na ca : Nat) (s n : Int) (w : World) (ha : Rd spc 2 w pa na a) (hna : na ≤ 4000000) (hs : -9223372036854775808 ≤ s ∧ s ≤ 9223372036854775807) (hn : -9223372036854775808 ≤ n ∧ n ≤ 9223372036854775807) :
    Calls Tryd.prog 17 #[.slice pa na ca, iz s, iz n] w (Ya w (cenV (Spn.has a) s n)) := by
  obtain ⟨V, hV⟩ : ∃ V, cenV (Spn.has a) s n = V := ⟨_, rfl⟩
  rw [hV]
  have HV := Lib.hid hV
  have HA := Lib.hid ha
  obtain ⟨s0, s1⟩ := hs
  obtain ⟨n0, n1⟩ := hn
  clear hV ha
  by_cases h1 : 0 ≤ s
  rotate_left
  · have HE := Lib.hid (show V = .tuple #[iz 0, .bool false] by rw [← HV.out]; exact cenV_none fun h => absurd h h1)
    go_enter Tryd.func17, Tryd.ntmps17
    go_wp2_with fail
    go_ret2
    exact ⟨by rw [HE.out]; rfl, Ch.refl _ _ _⟩
  by_cases h2 : s ≤ 3652058
  rotate_left
  · have HE := Lib.hid (show V = .tuple #[iz 0, .bool false] by rw [← HV.out]; exact cenV_none fun h => Spn.ends_late (by omega))
    go_enter Tryd.func17, Tryd.ntmps17
    go_wp2_with fail
    go_ret2
    exact ⟨by rw [HE.out]; rfl, Ch.refl _ _ _⟩
  by_cases h3 : 0 ≤ n
  rotate_left
  · have HE := Lib.hid (show V = .tuple #[iz 0, .bool false] by rw [← HV.out]; exact cenV_none fun h => Spn.ends_neg (by omega))
    go_enter Tryd.func17, Tryd.ntmps17
    go_wp2_with fail
    go_ret2
    exact ⟨by rw [HE.out]; rfl, Ch.refl _ _ _⟩
  by_cases h4 : n = 0
  · subst h4
    have HE := Lib.hid (show V = .tuple #[iz s, .bool true] by rw [← HV.out]; exact cenV_some h1 (Spn.ends_zero h2))
    go_enter Tryd.func17, Tryd.ntmps17
    go_wp2_with fail
    go_ret2
    exact ⟨by rw [HE.out]; rfl, Ch.refl _ _ _⟩
  have hn0 : (n == 0) = false := beq_eq_false_iff_ne.2 h4
  have hC := (Ch.refl w.heap.size none1 w).alloc (Nat.le_refl _) (.cells #[iz s, iz 3652058] 35)
  have hl := Less_any [(s, 3652058)] a (some ⟨w.heap.size, 0, none⟩) pa 1 na 1 ca (w.alloc (.cells #[iz s, iz 3652058] 35)) (Rd.blk0 (l := [(s, 3652058)]) spc_len (Blk.new w #[iz s, iz 3652058] 35) rfl) (HA.out.ch hC) (by omega) hna
  rw [less_free] at hl
  have HN := Lib.hid (Spn.nf_spec (Spn.dom_free (Spn.has a) s)).1
  have hm0 := nf_len (Spn.dom_free (Spn.has a) s)
  obtain ⟨L, hL⟩ : ∃ L, Spn.nf (Spn.free (Spn.has a) s) = L := ⟨_, rfl⟩
  rw [hL] at hl HN hm0
  have H1 := Lib.hid hl
  have HL := Lib.hid hL
  have HC := Lib.hid hC
  have H4 := Lib.hid (show 0 < n by omega)
  clear hl hL hC h4
  go_enter Tryd.func17, Tryd.ntmps17
  go_wp2_with fail
  refine H1.out.mono ?_
  rintro e w1 ⟨p, m, c, rfl, hr, hC⟩
  have HR := Lib.hid hr
  have HC1 := Lib.hid (HC.out.step0 hC (Nat.le_refl _))
  have hm : m ≤ 4000000 := by rw [← hr.len]; exact hm0
  clear hr hC hm0 H1 HC
  go_wp2_with fail
  go_loopw [2, 30] (fun v i wr => ∃ (k : Nat) (r : Int), k ≤ m ∧ i = .int .i64 k ∧ v = iz r ∧ r + Spn.days (L.take k) = n ∧ 0 < r ∧ Ch w1.heap.size none1 w1 wr) (fun _ i _ => m - (intOf i).toNat)
  case atStart => exact ⟨0, n, Nat.zero_le _, rfl, rfl, by rw [List.take_zero, Spn.days_nil]; omega, H4.out, Ch.refl _ _ _⟩
  case round =>
    obtain ⟨k, r, hk, rfl, rfl, hrd, hr0, hC2⟩ := hrel
    have HC2 := Lib.hid hC2
    have HRD := Lib.hid hrd
    clear hC2
    have hb := Spn.days_range (HN.out.take k)
    have hrn : r ≤ 9223372036854775807 := by omega
    clear hrd hb
    by_cases hlt : k < m
    · obtain ⟨g, o, rfl, hg⟩ := HR.out.addr (by omega)
      obtain ⟨⟨x, y⟩, ht⟩ : ∃ t, L[k]? = some t := ⟨L[k]'(by rw [HR.out.len]; exact hlt), List.getElem?_eq_getElem _⟩
      obtain ⟨c0, c1⟩ := (HR.out.ch HC2.out).sp ht
      have HD := Lib.hid (days_take ht)
      have HT := Lib.hid ht
      have hr := Spn.rt_iff.1 (HN.out.1 _ (List.mem_of_getElem? ht))
      simp only at hr
      obtain ⟨r0, r1, r2⟩ := hr
      have hbb := Blk.new wr #[iz x, iz y] 35
      have e0 := hbb.cell 0
      have e1 := hbb.cell 1
      simp only [List.getElem?_cons_zero, List.getElem?_cons_succ] at e0 e1
      clear ht hbb
      by_cases hle : r ≤ y - x
      · have HE := Lib.hid (show V = .tuple #[iz (x + r), .bool true] by
          rw [← HV.out]
          exact cenV_some h1 (Spn.free_hit (x := (x, y)) (pre := L.take k) (post := L.drop (k + 1)) h1 (by rw [HL.out]; exact take_split HT.out) HRD.out hr0 hle))
        go_wp2_with fail
        go_ret2
        exact ⟨by rw [HE.out]; rfl, HC1.out.step0 (HC2.out.alloc (by have := HC2.out.size; omega) _) (Nat.le_refl _)⟩
      · go_wp2_with fail
        go_roundw
        case rel => exact ⟨k + 1, r - (y - x), by omega, by go_num, rfl, by rw [HD.out, ← HRD.out]; omega, by omega, HC2.out.alloc (by have := HC2.out.size; omega) _⟩
        case measure => simp [intOf]; omega
    · obtain rfl : k = m := by omega
      have HF := Lib.hid (show L.take k = L by rw [← HR.out.len, List.take_length])
      have HE := Lib.hid (show V = .tuple #[iz 0, .bool false] by
        rw [← HV.out]
        refine cenV_none fun h => Spn.free_miss h1 h2 (m := r) ?_ hr0
        rw [HL.out, ← HRD.out, HF.out])
      clear hk
      go_wp2_with fail
      go_ret2
      exact ⟨by rw [HE.out]; rfl, HC1.out.step0 HC2.out (Nat.le_refl _)⟩
end Go.Proofs.YtnbcfolmadkliaaDoor
