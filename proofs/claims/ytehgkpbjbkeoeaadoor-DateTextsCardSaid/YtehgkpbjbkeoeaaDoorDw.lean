/- The reference's Format of layer 3. -/
import Derived.Test.YtehgkpbjbkeoeaaDoorDv
namespace Go.Proofs.YtehgkpbjbkeoeaaDoor
open Go.RowKit Go.Shelf
attribute [local go_sem] Oper.semAt_some
theorem flat_len {y m d : Int} (hd : Dat y m d) : ∀ (ps : List (List UInt8)), (∀ p ∈ ps, Lay.Ok p) → (ps.flatMap (Lay.wr y m d)).length ≤ ps.length * 100010
  | [], _ => Nat.le_refl _
  | p :: ps, h => by
    have h1 := Lay.wr_len hd (h p (List.mem_cons_self ..))
    have h2 := flat_len hd ps (fun q hq => h q (List.mem_cons_of_mem _ hq))
    rw [List.flatMap_cons, List.length_append, List.length_cons]
    omega
theorem drop_at {ps : List (List UInt8)} {k : Nat} {p : List UInt8} (h : k < ps.length) (hp : ps[k] = p) : ps.drop k = p :: ps.drop (k + 1) := by
  rw [List.drop_eq_getElem_cons h, hp]
set_option maxRecDepth 100000 in
set_option maxHeartbeats 4000000 in
theorem refFormat_yes {L : List UInt8} {n : Int} (hr : Cal.right n = true) (hl : Lay.right L = true) (w : World) :
    Calls Tryd.prog 14 #[S L, iz n] w (Yd w (.tuple #[S (Lay.fmt L (Cal.cy n) (Cal.cm n) (Cal.cd n)), .bool true])) := by
  have HV := Lib.hid (refCivil_yes n w hr)
  have hL := right_len hl
  have HR := Lib.hid (R_Right (L := L) (by omega) hl w)
  have hD := dat_of (Cal.civ_spec hr).1
  obtain ⟨y0, y1, m0, m1, d0, d1⟩ := Lay.vld_bd (Cal.civ_spec hr).1
  obtain ⟨y, hy⟩ : ∃ y, Cal.cy n = y := ⟨_, rfl⟩
  obtain ⟨m, hm⟩ : ∃ m, Cal.cm n = m := ⟨_, rfl⟩
  obtain ⟨d, hd⟩ : ∃ d, Cal.cd n = d := ⟨_, rfl⟩
  rw [hy, hm, hd] at HV hD ⊢
  rw [hy] at y0 y1
  rw [hm] at m0 m1
  rw [hd] at d0 d1
  clear hy hm hd hr hl
  have hpl : (Lay.parts L).length ≤ 40 := Nat.le_trans (Lay.parts_len L) hL
  have hpo := Lay.parts_ok L
  have hfl := flat_len hD _ hpo
  have HPA := Lib.hid (fun w' => Parts_any L hL w')
  unfold Lay.fmt
  obtain ⟨ps, hps⟩ : ∃ ps, Lay.parts L = ps := ⟨_, rfl⟩
  rw [hps] at hpl hpo HPA hfl ⊢
  obtain ⟨T, hT⟩ : ∃ T, ps.flatMap (Lay.wr y m d) = T := ⟨_, rfl⟩
  rw [hT] at hfl ⊢
  have htl : T.length ≤ 5000000 := by omega
  have HT := Lib.hid hT
  have HPO := Lib.hid hpo
  clear hfl hT hpo hps hD
  go_enter Tryd.func14, Tryd.ntmps14
  go_wp2_with (go_at_call 22; with_reducible refine HV.out.mono ?_; rintro e w' ⟨rfl, rfl⟩)
  with_reducible refine HR.out.mono ?_
  rintro e w0 ⟨rfl, hC⟩
  have HC00 := Lib.hid hC
  clear hC
  go_wp2_with fail
  refine (HPA.out _).mono ?_
  rintro e w1 ⟨⟨v, rfl, hsl⟩, hC⟩
  obtain ⟨p, cap, rfl, hcell⟩ := hsl.out
  have HC0 := Lib.hid (HC00.out.trans (hC.mono HC00.out.size (fun _ _ q => q)))
  have HCE := Lib.hid hcell
  clear hsl hC hcell
  obtain ⟨n', hn⟩ : ∃ n, ps.length = n := ⟨_, rfl⟩
  rw [hn] at hpl ⊢
  have HN := Lib.hid hn
  clear hn
  go_wp2_with fail
  go_loopw [11, 13] (fun a b wr => ∃ (k : Nat) (s : List UInt8), k ≤ n' ∧ a = S s ∧ b = .int .i64 (k : Int) ∧ s ++ (ps.drop k).flatMap (Lay.wr y m d) = T ∧ Ch w1.heap.size none1 w1 wr) (fun _ b _ => n' - (intOf b).toNat)
  case atStart => exact ⟨0, [], Nat.zero_le _, rfl, rfl, HT.out, Ch.refl _ _ _⟩
  case round =>
    obtain ⟨k, s, hk, rfl, rfl, hs, hch⟩ := hrel
    have hsl : s.length ≤ 5000000 := by have := congrArg List.length hs; rw [List.length_append] at this; omega
    have HS := Lib.hid hs
    have HCH := Lib.hid hch
    clear hs hch
    by_cases hlt : k < n'
    · obtain ⟨q, hq⟩ : ∃ q, ps[k]'(by rw [HN.out]; exact hlt) = q := ⟨_, rfl⟩
      obtain ⟨g, rfl, ⟨_, hgs⟩, hcl⟩ := HCE.out k (by rw [HN.out]; exact hlt)
      rw [hq] at hcl
      have hcw : wr.cell? ⟨g, 0 + k, none⟩ = some (S q) := by
        rw [HCH.out.cell (p := ⟨g, 0 + k, none⟩) hgs (fun q => q)]
        exact hcl
      have hcw' : wr.cell? ⟨g, k, none⟩ = some (S q) := by rw [Nat.zero_add] at hcw; exact hcw
      have hqo := HPO.out q (hq ▸ List.getElem_mem _)
      have HDR := Lib.hid (show s ++ Lay.wr y m d q ++ (ps.drop (k + 1)).flatMap (Lay.wr y m d) = T by
        rw [← HS.out, drop_at (by rw [HN.out]; exact hlt) hq, List.flatMap_cons, List.append_assoc])
      clear hq hcl hgs
      cases hqo with
      | y =>
        obtain ⟨t, ht⟩ : ∃ t, Lay.pad 4 y = t := ⟨_, rfl⟩
        have HG := Lib.hid (fun w' => digits_of (K := 4) (k := 4) rfl y0 (by omega) (by omega) (by omega) ht w')
        have hwl := Lay.padl (k := 4) (n := y.toNat) (by omega) (by omega)
        rw [Int.toNat_of_nonneg y0, ht] at hwl
        have HD2 := Lib.hid (show (s ++ t) ++ (ps.drop (k + 1)).flatMap (Lay.wr y m d) = T by rw [← HDR.out, ← ht]; rfl)
        clear ht
        go_wp2_with fail
        with_reducible refine (HG.out _).mono ?_
        rintro e w2 ⟨rfl, hC2⟩
        have HC2 := Lib.hid (HCH.out.trans (hC2.mono HCH.out.size (fun _ _ q => q)))
        clear hC2
        go_wp2_with fail
        go_roundw
        case rel => exact ⟨k + 1, s ++ t, hlt, app_S rfl, by go_num, HD2.out, HC2.out⟩
        case measure => simp [intOf]; omega
      | mm =>
        obtain ⟨t, ht⟩ : ∃ t, Lay.pad 2 m = t := ⟨_, rfl⟩
        have HG := Lib.hid (fun w' => digits_of (K := 2) (k := 2) rfl m0 (by omega) (by omega) (by omega) ht w')
        have hwl := Lay.padl (k := 2) (n := m.toNat) (by omega) (by omega)
        rw [Int.toNat_of_nonneg m0, ht] at hwl
        have HD2 := Lib.hid (show (s ++ t) ++ (ps.drop (k + 1)).flatMap (Lay.wr y m d) = T by rw [← HDR.out, ← ht]; rfl)
        clear ht
        go_wp2_with fail
        with_reducible refine (HG.out _).mono ?_
        rintro e w2 ⟨rfl, hC2⟩
        have HC2 := Lib.hid (HCH.out.trans (hC2.mono HCH.out.size (fun _ _ q => q)))
        clear hC2
        go_wp2_with fail
        go_roundw
        case rel => exact ⟨k + 1, s ++ t, hlt, app_S rfl, by go_num, HD2.out, HC2.out⟩
        case measure => simp [intOf]; omega
      | m =>
        obtain ⟨t, ht⟩ : ∃ t, Lay.pad 1 m = t := ⟨_, rfl⟩
        have HG := Lib.hid (fun w' => digits_of (K := 1) (k := 1) rfl m0 (by omega) (by omega) (by omega) ht w')
        have hwl := Lay.padl (k := 1) (n := m.toNat) (by omega) (by omega)
        rw [Int.toNat_of_nonneg m0, ht] at hwl
        have HD2 := Lib.hid (show (s ++ t) ++ (ps.drop (k + 1)).flatMap (Lay.wr y m d) = T by rw [← HDR.out, ← ht]; rfl)
        clear ht
        go_wp2_with fail
        with_reducible refine (HG.out _).mono ?_
        rintro e w2 ⟨rfl, hC2⟩
        have HC2 := Lib.hid (HCH.out.trans (hC2.mono HCH.out.size (fun _ _ q => q)))
        clear hC2
        go_wp2_with fail
        go_roundw
        case rel => exact ⟨k + 1, s ++ t, hlt, app_S rfl, by go_num, HD2.out, HC2.out⟩
        case measure => simp [intOf]; omega
      | dd =>
        obtain ⟨t, ht⟩ : ∃ t, Lay.pad 2 d = t := ⟨_, rfl⟩
        have HG := Lib.hid (fun w' => digits_of (K := 2) (k := 2) rfl d0 (by omega) (by omega) (by omega) ht w')
        have hwl := Lay.padl (k := 2) (n := d.toNat) (by omega) (by omega)
        rw [Int.toNat_of_nonneg d0, ht] at hwl
        have HD2 := Lib.hid (show (s ++ t) ++ (ps.drop (k + 1)).flatMap (Lay.wr y m d) = T by rw [← HDR.out, ← ht]; rfl)
        clear ht
        go_wp2_with fail
        with_reducible refine (HG.out _).mono ?_
        rintro e w2 ⟨rfl, hC2⟩
        have HC2 := Lib.hid (HCH.out.trans (hC2.mono HCH.out.size (fun _ _ q => q)))
        clear hC2
        go_wp2_with fail
        go_roundw
        case rel => exact ⟨k + 1, s ++ t, hlt, app_S rfl, by go_num, HD2.out, HC2.out⟩
        case measure => simp [intOf]; omega
      | d =>
        obtain ⟨t, ht⟩ : ∃ t, Lay.pad 1 d = t := ⟨_, rfl⟩
        have HG := Lib.hid (fun w' => digits_of (K := 1) (k := 1) rfl d0 (by omega) (by omega) (by omega) ht w')
        have hwl := Lay.padl (k := 1) (n := d.toNat) (by omega) (by omega)
        rw [Int.toNat_of_nonneg d0, ht] at hwl
        have HD2 := Lib.hid (show (s ++ t) ++ (ps.drop (k + 1)).flatMap (Lay.wr y m d) = T by rw [← HDR.out, ← ht]; rfl)
        clear ht
        go_wp2_with fail
        with_reducible refine (HG.out _).mono ?_
        rintro e w2 ⟨rfl, hC2⟩
        have HC2 := Lib.hid (HCH.out.trans (hC2.mono HCH.out.size (fun _ _ q => q)))
        clear hC2
        go_wp2_with fail
        go_roundw
        case rel => exact ⟨k + 1, s ++ t, hlt, app_S rfl, by go_num, HD2.out, HC2.out⟩
        case measure => simp [intOf]; omega
      | one c h1 h2 =>
        have e1 : (c == 77) = false := by simpa using h1
        have e2 : (c == 68) = false := by simpa using h2
        have HD2 := Lib.hid (show (s ++ [c]) ++ (ps.drop (k + 1)).flatMap (Lay.wr y m d) = T by rw [← HDR.out, Lay.wr_one y m d h1 h2])
        go_wp2_with fail
        go_roundw
        case rel => exact ⟨k + 1, s ++ [c], hlt, app_S rfl, by go_num, HD2.out, HCH.out⟩
        case measure => simp [intOf]; omega
    · obtain rfl : k = n' := by omega
      have HF := Lib.hid (show s = T by have := HS.out; rw [List.drop_of_length_le (by rw [HN.out]; exact Nat.le_refl _), List.flatMap_nil, List.append_nil] at this; exact this)
      go_wp2_with fail
      go_ret2
      exact ⟨by rw [HF.out]; rfl, HC0.out.trans (HCH.out.mono HC0.out.size (fun _ _ q => q))⟩
set_option maxRecDepth 100000 in
set_option maxHeartbeats 1600000 in
theorem refFormat_no {L : List UInt8} {n : Int} (hL : L.length ≤ 9223372036854775807) (h : (Cal.right n && Lay.right L) = false) (w : World) :
    Calls Tryd.prog 14 #[S L, iz n] w (Yd w (.tuple #[S [], .bool false])) := by
  obtain ⟨b, hb⟩ : ∃ b, Lay.right L = b := ⟨_, rfl⟩
  have HR := Lib.hid (fun w' => R_Right hL hb w')
  rw [hb] at h
  clear hb
  rcases hr : Cal.right n
  · have HV := Lib.hid (refCivil_no n w hr)
    clear h hr
    go_enter Tryd.func14, Tryd.ntmps14
    go_wp2_with (go_at_call 22; with_reducible refine HV.out.mono ?_; rintro e w' ⟨rfl, rfl⟩)
    with_reducible refine (HR.out _).mono ?_
    rintro e w0 ⟨rfl, hC⟩
    have HC := Lib.hid hC
    clear hC
    go_wp2_with fail
    go_ret2
    exact ⟨rfl, HC.out⟩
  · have HV := Lib.hid (refCivil_yes n w hr)
    rw [hr, Bool.true_and] at h
    subst h
    clear hr
    go_enter Tryd.func14, Tryd.ntmps14
    go_wp2_with (go_at_call 22; with_reducible refine HV.out.mono ?_; rintro e w' ⟨rfl, rfl⟩)
    with_reducible refine (HR.out _).mono ?_
    rintro e w0 ⟨rfl, hC⟩
    have HC := Lib.hid hC
    clear hC
    go_wp2_with fail
    go_ret2
    exact ⟨rfl, HC.out⟩
/-- The reference's Format, as the code's. -/
theorem R_Format {L f : List UInt8} {n : Int} {b : Bool} (hL : L.length ≤ 9223372036854775807) (hb : (Cal.right n && Lay.right L) = b) (hf : (if b then Lay.fmt L (Cal.cy n) (Cal.cm n) (Cal.cd n) else []) = f) : AnsW 14 #[S L, iz n] (.tuple #[S f, .bool b]) := fun w _ => by
  subst hf
  subst hb
  rcases h : (Cal.right n && Lay.right L)
  · exact refFormat_no hL h w
  · rw [Bool.and_eq_true] at h
    exact refFormat_yes h.1 h.2 w
end Go.Proofs.YtehgkpbjbkeoeaaDoor
