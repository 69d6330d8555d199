/- Package tithingref05: Mod, Same, Made. -/
import Derived.Test.YtnbcfolmadkliaaDoorSh
import Derived.Test.YtnbcfolmadkliaaDoorSj
import Derived.BigQuiet
namespace Go.Proofs.YtnbcfolmadkliaaDoor
open Go.RowKit
theorem tmod_cases (a m : Int) (hm : 0 < m) : -m < Int.tmod a m ∧ Int.tmod a m < m ∧ (Int.tmod a m < 0 → Int.tmod a m + m = a % m) ∧ (¬ Int.tmod a m < 0 → Int.tmod a m = a % m) := by
  have h1 : (Int.tmod a m).natAbs = a.natAbs % m.natAbs := Int.natAbs_tmod a m
  have h2 : a.natAbs % m.natAbs < m.natAbs := Nat.mod_lt _ (by omega)
  have h3 : Int.tmod a m + m * Int.tdiv a m = a := Int.tmod_add_mul_tdiv a m
  have h4 : a % m = Int.tmod a m % m := by
    conv => lhs; rw [← h3]
    rw [Int.add_mul_emod_self_left]
  refine ⟨by omega, by omega, fun h => ?_, fun h => ?_⟩
  · rw [h4, ← Int.add_emod_right, Int.emod_eq_of_lt (by omega) (by omega)]
  · rw [h4, Int.emod_eq_of_lt (by omega) (by omega)]
set_option maxRecDepth 100000 in
set_option maxHeartbeats 1600000 in
theorem Mod_any (a m : Int) (hm : 0 < m) (hm2 : m ≤ 1000000) (w : World) : Calls Tryd.prog 9 #[iz a, iz m] w fun e w' => e = .returned (iz (a % m)) ∧ w = w' := by
  obtain ⟨t1, t2, t3, t4⟩ := tmod_cases a m hm
  obtain ⟨t, ht⟩ : ∃ t, Int.tmod a m = t := ⟨_, rfl⟩
  obtain ⟨r, hr⟩ : ∃ r, a % m = r := ⟨_, rfl⟩
  rw [ht] at t1 t2 t3 t4
  rw [hr] at t3 t4 ⊢
  have T3 := Lib.hid t3
  have T4 := Lib.hid t4
  have hm0 : (m == 0) = false := beq_eq_false_iff_ne.2 (by omega)
  have hmn : ¬ m = 0 := by omega
  clear t3 t4 hr
  by_cases h : t < 0
  · go_enter Tryd.func9, Tryd.ntmps9
    go_wp2_with fail
    go_ret
    exact ⟨ret_int (T3.out h), rfl⟩
  · go_enter Tryd.func9, Tryd.ntmps9
    go_wp2_with fail
    go_ret
    exact ⟨ret_int (T4.out h), rfl⟩
set_option maxRecDepth 100000 in
set_option maxHeartbeats 3200000 in
theorem Same_eq (l : List Spn.Sp) (p p' : Option Addr) (n n' c c' : Nat) (w : World) (h : Rd spc 2 w p n l) (h' : Rd spc 2 w p' n' l) (hn : n ≤ 100000000) :
    Calls Tryd.prog 16 #[.slice p n c, .slice p' n' c'] w fun e w' => e = .returned (.bool true) ∧ ∃ q, w' = w.drewN q := by
  obtain rfl : n' = n := by rw [← h.len, ← h'.len]
  have HA := Lib.hid h
  have HB := Lib.hid h'
  clear h h'
  go_enter Tryd.func16, Tryd.ntmps16
  go_wp2_with fail
  go_loopw [5] (fun i wr => ∃ (k q : Nat), k ≤ n' ∧ i = .int .i64 k ∧ wr = w.drewN q) (fun i _ => n' - (intOf i).toNat)
  case atStart => exact ⟨0, 0, Nat.zero_le _, rfl, rfl⟩
  case round =>
    obtain ⟨k, q, hk, rfl, rfl⟩ := hrel
    by_cases hlt : k < n'
    · obtain ⟨g, o, rfl, hg⟩ := HA.out.addr (by omega)
      obtain ⟨g2, o2, rfl, hg2⟩ := HB.out.addr (by omega)
      obtain ⟨⟨x, y⟩, ht⟩ : ∃ t, l[k]? = some t := ⟨l[k]'(by rw [HA.out.len]; exact hlt), List.getElem?_eq_getElem _⟩
      obtain ⟨c0, c1⟩ := HA.out.sp ht
      obtain ⟨d0, d1⟩ := HB.out.sp ht
      clear ht
      go_wp2_with fail
      go_quiet (fail)
      go_wp2_with fail
      go_roundw
      case rel => exact ⟨k + 1, q + nq, by omega, by go_num, rfl⟩
      case measure => simp [intOf]; omega
    · obtain rfl : k = n' := by omega
      clear hk
      go_wp2_with fail
      go_ret
      exact ⟨rfl, q, rfl⟩
/-- A slice that comes in: if it has elements, they can be read. -/
structure Ra (w : World) (p : Option Addr) (n : Nat) (l : List (Int × Int)) : Prop where
  len : l.length = n
  rd : 0 < n → Rd spc 2 w p n l
theorem Ra.ch {w w' : World} {p : Option Addr} {n : Nat} {l : List (Int × Int)} (h : Ra w p n l) (hC : Ch w.heap.size none1 w w') : Ra w' p n l := ⟨h.len, fun q => (h.rd q).ch hC⟩
/-- A pair of numbers as a span. -/
def mk (x : Int × Int) : Spn.Sp := let f := if x.1 < 0 then 3652058 - x.1 % 20 else x.1 % 60; (f, f + x.2 % 12)
def made (x : List (Int × Int)) : List Spn.Sp := (x.take 8).map mk
theorem made_len (x : List (Int × Int)) : (made x).length ≤ 8 := by unfold made; rw [List.length_map, List.length_take]; omega
set_option maxRecDepth 100000 in
set_option maxHeartbeats 6400000 in
theorem Made_any (xs : List (Int × Int)) (p : Option Addr) (n c : Nat) (w : World) (h : Ra w p n xs) (hn : n ≤ 9223372036854775807) :
    Calls Tryd.prog 8 #[.slice p n c] w (Ys w (made xs)) := by
  have HX := Lib.hid h
  clear h
  obtain ⟨i0, hi0, hz0, hz1, hz2⟩ := info_parts sp_info
  obtain ⟨G, hG⟩ : ∃ G, w.heap.size = G := ⟨_, rfl⟩
  have HG := Lib.hid hG
  clear hG
  go_enter Tryd.func8, Tryd.ntmps8
  go_wp2_with fail
  go_loopw [3, 4] (fun v b wr => ∃ (k : Nat) (l : List Spn.Sp), (k ≤ n ∧ k ≤ 8) ∧ b = .int .i64 k ∧ wr.ownsRow G 35 2 v l.length (l.flatMap spc) ∧ Ch G none1 w wr ∧ (xs.take k).map mk = l) (fun _ b _ => 8 - (intOf b).toNat)
  case atStart => exact ⟨0, [], ⟨Nat.zero_le _, Nat.zero_le _⟩, rfl, own_nil _ _ _ _, Ch.refl _ _ _, rfl⟩
  case round =>
    obtain ⟨k, l, ⟨hk, hk8⟩, rfl, hown, hC, hl⟩ := hrel
    have HO := Lib.hid hown
    have HC := Lib.hid hC
    have HL := Lib.hid hl
    have HWS := Lib.hid (show G ≤ wr.heap.size by have := hC.size; rw [HG.out] at this; exact this)
    have hll : l.length ≤ 8 := by rw [← hl, List.length_map, List.length_take]; omega
    clear hown hC hl
    by_cases hlt : k < n
    · by_cases hlt8 : k < 8
      · have HRX := Lib.hid (HX.out.rd (by omega))
        obtain ⟨g, o, rfl, hg⟩ := HRX.out.addr (by omega)
        obtain ⟨⟨x, y⟩, ht⟩ : ∃ t, xs[k]? = some t := ⟨xs[k]'(by rw [HX.out.len]; exact hlt), List.getElem?_eq_getElem _⟩
        obtain ⟨c0, c1⟩ := (HRX.out.chB HC.out (by intro a ha; cases ha; rw [← HG.out]; exact hg)).sp ht
        have hmd : (xs.take (k + 1)).map mk = (xs.take k).map mk ++ [mk (x, y)] := by rw [List.take_add_one, ht]; simp
        have H60 := Lib.hid (fun W => Mod_any x 60 (by omega) (by omega) W)
        have H20 := Lib.hid (fun W => Mod_any x 20 (by omega) (by omega) W)
        have H12 := Lib.hid (fun W => Mod_any y 12 (by omega) (by omega) W)
        have r60 : 0 ≤ x % 60 ∧ x % 60 < 60 := by omega
        have r20 : 0 ≤ x % 20 ∧ x % 20 < 20 := by omega
        have r12 : 0 ≤ y % 12 ∧ y % 12 < 12 := by omega
        by_cases hx0 : x < 0
        · have hmk : mk (x, y) = (3652058 - x % 20, 3652058 - x % 20 + y % 12) := by unfold mk; simp only [if_pos hx0]
          rw [hmk] at hmd
          have HMD := Lib.hid hmd
          obtain ⟨r, hr⟩ : ∃ r, x % 60 = r := ⟨_, rfl⟩
          obtain ⟨s, hs⟩ : ∃ s, x % 20 = s := ⟨_, rfl⟩
          obtain ⟨u, hu⟩ : ∃ u, y % 12 = u := ⟨_, rfl⟩
          rw [hr] at H60 r60
          rw [hs] at H20 r20 HMD
          rw [hu] at H12 r12 HMD
          obtain ⟨f, hf⟩ : ∃ f, 3652058 - s = f := ⟨_, rfl⟩
          have hfr : 3652038 ≤ f ∧ f ≤ 3652058 := by omega
          rw [hf] at HMD
          clear hr hs hu hmd hmk ht
          go_wp2_with (first | (go_at_call 9; (with_reducible refine (H20.out _).mono ?_); rintro e wq ⟨rfl, rfl⟩) | (go_at_call 9; (with_reducible refine (H12.out _).mono ?_); rintro e wq ⟨rfl, rfl⟩) | (go_at_call 9; (with_reducible refine (H60.out _).mono ?_); rintro e wq ⟨rfl, rfl⟩) | (at_builtin; refine wpList_append_own _ rfl _ _ 24 rfl G 35 i0 (.agg #[iz 0, iz 0]) 2 16 Tryd.underlying24 hi0 hz0 hz1 hz2 rfl (by decide) u3 l.length (l.flatMap spc) rfl (own_ch HO.out ((Ch.refl _ _ _).alloc (Nat.le_refl _) _) (Nat.le_refl _)) ⟨wr.heap.size, 0, none⟩ 1 1 [iz f, iz (f + u)] rfl rfl (sp_news wr f (f + u)) (two_one f (f + u)) (by unfold maxLen; omega) (by omega) (by have := HWS.out; simp; omega) ?_; intro v' w1 hown' hgr hnil))
          have HO1 := Lib.hid hown'
          have HC1 := Lib.hid ((HC.out.alloc HWS.out (.cells #[iz f, iz (f + u)] 35)).trans (ch_own (by have := HWS.out; simp; omega) (own_ch HO.out ((Ch.refl _ _ _).alloc (Nat.le_refl _) _) (Nat.le_refl _)) hgr))
          clear hown' hgr hnil
          go_wp2_with fail
          go_roundw
          case rel =>
            refine ⟨k + 1, l ++ [(f, f + u)], by omega, by go_num, ?_, HC1.out, by rw [HMD.out, HL.out]⟩
            rw [List.length_append, List.flatMap_append]
            exact HO1.out
          case measure => simp [intOf]; omega
        · have hmk : mk (x, y) = (x % 60, x % 60 + y % 12) := by unfold mk; simp only [if_neg hx0]
          rw [hmk] at hmd
          have HMD := Lib.hid hmd
          obtain ⟨r, hr⟩ : ∃ r, x % 60 = r := ⟨_, rfl⟩
          obtain ⟨u, hu⟩ : ∃ u, y % 12 = u := ⟨_, rfl⟩
          rw [hr] at H60 r60 HMD
          rw [hu] at H12 r12 HMD
          clear hr hu hmd hmk ht r20
          go_wp2_with (first | (go_at_call 9; (with_reducible refine (H12.out _).mono ?_); rintro e wq ⟨rfl, rfl⟩) | (go_at_call 9; (with_reducible refine (H60.out _).mono ?_); rintro e wq ⟨rfl, rfl⟩) | (at_builtin; refine wpList_append_own _ rfl _ _ 24 rfl G 35 i0 (.agg #[iz 0, iz 0]) 2 16 Tryd.underlying24 hi0 hz0 hz1 hz2 rfl (by decide) u3 l.length (l.flatMap spc) rfl (own_ch HO.out ((Ch.refl _ _ _).alloc (Nat.le_refl _) _) (Nat.le_refl _)) ⟨wr.heap.size, 0, none⟩ 1 1 [iz r, iz (r + u)] rfl rfl (sp_news wr r (r + u)) (two_one r (r + u)) (by unfold maxLen; omega) (by omega) (by have := HWS.out; simp; omega) ?_; intro v' w1 hown' hgr hnil))
          have HO1 := Lib.hid hown'
          have HC1 := Lib.hid ((HC.out.alloc HWS.out (.cells #[iz r, iz (r + u)] 35)).trans (ch_own (by have := HWS.out; simp; omega) (own_ch HO.out ((Ch.refl _ _ _).alloc (Nat.le_refl _) _) (Nat.le_refl _)) hgr))
          clear hown' hgr hnil
          go_wp2_with fail
          go_roundw
          case rel =>
            refine ⟨k + 1, l ++ [(r, r + u)], by omega, by go_num, ?_, HC1.out, by rw [HMD.out, HL.out]⟩
            rw [List.length_append, List.flatMap_append]
            exact HO1.out
          case measure => simp [intOf]; omega
      · obtain rfl : k = 8 := by omega
        have HF := Lib.hid (show l = made xs from HL.out.symm)
        obtain ⟨pp, cc, rfl⟩ := own_val HO.out
        have HRD := Lib.hid (Rd.own spc_len HO.out rfl).2
        go_wp2_with fail
        go_ret
        exact ⟨pp, _, cc, rfl, by rw [← HF.out]; exact HRD.out, by rw [HG.out]; exact HC.out⟩
    · obtain rfl : k = n := by omega
      have HF := Lib.hid (show l = made xs by rw [← HL.out]; unfold made; rw [List.take_of_length_le (by rw [HX.out.len]; exact Nat.le_refl _), List.take_of_length_le (by rw [HX.out.len]; exact hk8)])
      obtain ⟨pp, cc, rfl⟩ := own_val HO.out
      have HRD := Lib.hid (Rd.own spc_len HO.out rfl).2
      clear hk
      go_wp2_with fail
      go_ret
      exact ⟨pp, _, cc, rfl, by rw [← HF.out]; exact HRD.out, by rw [HG.out]; exact HC.out⟩
end Go.Proofs.YtnbcfolmadkliaaDoor
