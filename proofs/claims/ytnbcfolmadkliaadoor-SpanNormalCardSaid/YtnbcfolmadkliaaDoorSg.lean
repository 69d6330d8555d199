/- Package span: the bounds of two lists. -/
import Derived.Test.YtnbcfolmadkliaaDoorSf
namespace Go.Proofs.YtnbcfolmadkliaaDoor
open Go.RowKit
/-- The bounds of the first k lists. -/
def fk (a b : List Spn.Sp) (k : Nat) : List Spn.Bd := if k = 0 then [] else if k = 1 then Spn.bnds 0 a else Spn.bnd2 a b
theorem bd_info : (Tryd.prog.info? 70).map (fun i => (i.zero, i.size, i.bytes)) = some (some (.agg #[iz 0, iz 0, iz 0]), 3, 24) := by kernel_rfl
theorem bd_news (W : World) (a b c x y z : Int) : ∀ (j : Nat) (u : Value), [iz a, iz b, iz c, iz x, iz y, iz z][j]? = some u → (W.alloc (.cells #[iz a, iz b, iz c, iz x, iz y, iz z] 70 (0, 0))).cell? ((⟨W.heap.size, 0, none⟩ : Addr).add j) = some u := by
  intro j u h
  exact (Blk.new W #[iz a, iz b, iz c, iz x, iz y, iz z] 70).adds j u h
theorem iz_one {l : List Int} : ∀ u ∈ l.map iz, u.oneCell' = true := fun u hu => by
  obtain ⟨x, _, rfl⟩ := List.mem_map.1 hu
  rfl
theorem six_one (a b c x y z : Int) : ∀ u ∈ [iz a, iz b, iz c, iz x, iz y, iz z], u.oneCell' = true := iz_one (l := [a, b, c, x, y, z])
/-- The loop over one list: what lies behind k of its spans. -/
theorem bnds_step {i : Int} {l : List Spn.Sp} {j : Nat} {s : Spn.Sp} (h : l[j]? = some s) : Spn.bnds i (l.take (j + 1)) = Spn.bnds i (l.take j) ++ (if Spn.rt s then [(s.1, i, 1), (s.2, i, -1)] else []) := by
  rw [List.take_add_one, h]
  exact Spn.bnds_snoc i s _
set_option maxRecDepth 100000 in
set_option maxHeartbeats 6400000 in
theorem bounds_any (a b : List Spn.Sp) (pa pb : Option Addr) (na nb ca cb gL : Nat) (tL : TypeId) (w : World) (ha : Rd spc 2 w pa na a) (hb : Rd spc 2 w pb nb b) (hL : Blk w gL tL [.slice pa na ca, .slice pb nb cb]) (hna : na ≤ 4000000) (hnb : nb ≤ 4000000) :
    Calls Tryd.prog 47 #[.slice (some ⟨gL, 0, none⟩) 2 2] w fun e w' => ∃ p m c B, e = .returned (.slice p m c) ∧ Spn.Srt a b B ∧ Rd bdc 3 w' p m B ∧ m ≤ 16000000 ∧ Ch w.heap.size none1 w w' ∧ ∀ x, p = some x → w.heap.size ≤ x.block := by
  have HA := Lib.hid ha
  have HB := Lib.hid hb
  have HL := Lib.hid hL
  clear ha hb hL
  obtain ⟨G, hG⟩ : ∃ G, w.heap.size = G := ⟨_, rfl⟩
  have HG := Lib.hid hG
  clear hG
  obtain ⟨i0, hi, hz0, hz1, hz2⟩ := info_parts bd_info
  go_enter Tryd.func47, Tryd.ntmps47
  go_wp2_with fail
  go_loopw [3, 10] (fun v i wr => ∃ k : Nat, k ≤ 2 ∧ i = .int .i64 k ∧ wr.ownsRow G 70 3 v (fk a b k).length ((fk a b k).flatMap bdc) ∧ Ch G none1 w wr ∧ (fk a b k).length ≤ 8000000 * k) (fun _ i _ => 2 - (intOf i).toNat)
  case atStart => exact ⟨0, Nat.zero_le _, rfl, own_nil _ _ _ _, Ch.refl _ _ _, Nat.le_refl _⟩
  case round =>
    obtain ⟨k, hk, rfl, hown, hC, hlen⟩ := hrel
    have HO := Lib.hid hown
    have HC := Lib.hid hC
    have HLN := Lib.hid hlen
    clear hown hC hlen
    by_cases hlt : k < 2
    · obtain ⟨p, n, c, l, hcell, hrd, hpl, hn, hF, hFl⟩ : ∃ p n c l, wr.cell? ⟨gL, k, none⟩ = some (.slice p n c) ∧ Rd spc 2 w p n l ∧ (∀ x, p = some x → x.block < G) ∧ n ≤ 4000000 ∧ fk a b (k + 1) = fk a b k ++ Spn.bnds (k : Int) l ∧ l.length = n := by
        have hgl := HL.out.lt
        have hLr := HC.out.blk HL.out (by rw [← HG.out]; exact hgl) (fun q => q)
        rcases (show k = 0 ∨ k = 1 by omega) with rfl | rfl
        · exact ⟨pa, na, ca, a, hLr.cell 0, HA.out, by rw [← HG.out]; exact HA.out.lt, hna, by simp [fk], HA.out.len⟩
        · exact ⟨pb, nb, cb, b, hLr.cell 1, HB.out, by rw [← HG.out]; exact HB.out.lt, hnb, by simp [fk, Spn.bnd2], HB.out.len⟩
      have HR := Lib.hid hrd
      have HF := Lib.hid hF
      have HFl := Lib.hid hFl
      have HPL := Lib.hid hpl
      clear hrd hF hFl hpl
      have HK := Lib.hid hk
      have hd2 : decide ((k : Int) < 2) = true := decide_eq_true (by omega)
      clear hk
      go_wp2_with fail
      go_loopw [3, 17] (fun v' i' wx => ∃ j : Nat, j ≤ n ∧ i' = .int .i64 j ∧ wx.ownsRow G 70 3 v' (fk a b k ++ Spn.bnds (k : Int) (l.take j)).length ((fk a b k ++ Spn.bnds (k : Int) (l.take j)).flatMap bdc) ∧ Ch G none1 w wx) (fun _ i' _ => n - (intOf i').toNat)
      case atStart =>
        refine ⟨0, Nat.zero_le _, rfl, ?_, HC.out⟩
        rw [List.take_zero, Spn.bnds_nil, List.append_nil]
        exact HO.out
      case round =>
        clear hcell
        obtain ⟨j, hj, rfl, hown2, hC2⟩ := hrel
        have HO2 := Lib.hid hown2
        have HC2 := Lib.hid hC2
        have HR2 := Lib.hid (HR.out.chB hC2 HPL.out)
        clear hown2 hC2
        by_cases hjn : j < n
        · obtain ⟨g, o, rfl, hg⟩ := HR2.out.addr (by omega)
          obtain ⟨⟨x, y⟩, ht⟩ : ∃ t, l[j]? = some t := ⟨l[j]'(by rw [HFl.out]; exact hjn), List.getElem?_eq_getElem _⟩
          obtain ⟨c0, c1⟩ := HR2.out.sp ht
          have hst := bnds_step (i := (k : Int)) ht
          have H1 := fun W => Right_any x y W
          obtain ⟨r, hr⟩ : ∃ r, Spn.rt (x, y) = r := ⟨_, rfl⟩
          rw [hr] at hst H1
          have HS := Lib.hid hst
          have H2 := Lib.hid H1
          clear hst H1 hr ht
          have b0 := Blk.new wr #[iz x, iz y] 35
          have e0 := b0.cell 0
          have e1 := b0.cell 1
          simp only [List.getElem?_cons_zero, List.getElem?_cons_succ] at e0 e1
          have u0 : ∀ o', ((wr.alloc (.cells #[iz x, iz y] 35)).alloc o').cell? ⟨wr.heap.size, 0, none⟩ = some (iz x) := fun o' => (b0.alloc o').cell 0
          have u1 : ∀ o', ((wr.alloc (.cells #[iz x, iz y] 35)).alloc o').cell? ⟨wr.heap.size, 1, none⟩ = some (iz y) := fun o' => (b0.alloc o').cell 1
          have HWS := Lib.hid (show G ≤ wr.heap.size by have := HC2.out.size; rw [HG.out] at this; exact this)
          clear b0
          cases r with
          | false =>
            have hst2 : Spn.bnds (k : Int) (l.take (j + 1)) = Spn.bnds (k : Int) (l.take j) := by rw [HS.out]; simp
            have HS2 := Lib.hid hst2
            clear hst2
            go_wp2_with fail
            refine (H2.out _).mono ?_
            rintro e w' ⟨rfl, rfl⟩
            have HCC := Lib.hid ((Ch.refl wr.heap.size none1 wr).alloc (Nat.le_refl _) (.cells #[iz x, iz y] 35))
            have HCC2 := Lib.hid (HCC.out.alloc (by simp) (.cells #[iz x, iz y] 35))
            go_wp2_with fail
            go_roundw
            case rel =>
              refine ⟨j + 1, by omega, by go_num, ?_, HC2.out.trans (HCC2.out.mono HWS.out (fun _ _ q => q))⟩
              rw [HS2.out]
              exact own_ch HO2.out HCC2.out (Nat.le_refl _)
            case measure => simp [intOf]; omega
          | true =>
            have hst2 : fk a b k ++ Spn.bnds (k : Int) (l.take (j + 1)) = (fk a b k ++ Spn.bnds (k : Int) (l.take j)) ++ [(x, (k : Int), 1), (y, (k : Int), -1)] := by rw [HS.out]; simp
            have HS2 := Lib.hid hst2
            clear hst2
            have hbl := Spn.bnds_len (k : Int) (l.take j)
            rw [List.length_take, HFl.out] at hbl
            have hln : (fk a b k ++ Spn.bnds (k : Int) (l.take j)).length ≤ 16000000 := by
              have := HLN.out
              rw [List.length_append]; omega
            obtain ⟨X, hX⟩ : ∃ X, fk a b k ++ Spn.bnds (k : Int) (l.take j) = X := ⟨_, rfl⟩
            rw [hX] at HO2 HS2 hln
            clear hX hbl
            have HCC := Lib.hid ((Ch.refl wr.heap.size none1 wr).alloc (Nat.le_refl _) (.cells #[iz x, iz y] 35))
            have HCC2 := Lib.hid (HCC.out.alloc (by simp) (.cells #[iz x, iz y] 35))
            have HO3 := Lib.hid (own_ch HO2.out HCC2.out (Nat.le_refl _))
            go_wp2_with fail
            refine (H2.out _).mono ?_
            rintro e w' ⟨rfl, rfl⟩
            go_wp2_with (at_builtin; go_loud (refine wpList_append_own _ rfl _ _ 67 rfl G 70 i0 (.agg #[iz 0, iz 0, iz 0]) 3 24 Tryd.underlying67 hi hz0 hz1 hz2 rfl (by decide) u3 X.length (X.flatMap bdc) rfl (own_ch HO3.out ((Ch.refl _ _ _).alloc (Nat.le_refl _) _) (Nat.le_refl _)) ⟨wr.heap.size + 1 + 1, 0, none⟩ 2 2 [iz x, iz k, iz 1, iz y, iz k, iz (-1)] rfl rfl (by have := bd_news ((wr.alloc (.cells #[iz x, iz y] 35)).alloc (.cells #[iz x, iz y] 35)) x k 1 y k (-1); simpa using this) (six_one _ _ _ _ _ _) (by unfold maxLen; omega) (by omega) (by have := HWS.out; simp; omega) ?_; intro v' w1 hown' hgr hnil))
            have HO1 := Lib.hid hown'
            have HC3 := Lib.hid ((HCC2.out.alloc (by simp; omega) (.cells #[iz x, iz k, iz 1, iz y, iz k, iz (-1)] 70)).mono HWS.out (fun _ _ q => q))
            have HC4 := Lib.hid (ch_own (by have := HWS.out; simp; omega) (own_ch HO3.out ((Ch.refl _ _ _).alloc (Nat.le_refl _) _) (Nat.le_refl _)) hgr)
            clear hown' hgr hnil
            go_wp2_with fail
            go_roundw
            case rel =>
              refine ⟨j + 1, by omega, by go_num, ?_, (HC2.out.trans HC3.out).trans HC4.out⟩
              rw [HS2.out, List.length_append, List.flatMap_append]
              exact HO1.out
            case measure => simp [intOf]; omega
        · obtain rfl : j = n := by omega
          go_wp2_with fail
          go_roundw
          case rel =>
            refine ⟨k + 1, by omega, by go_num, ?_, HC2.out, ?_⟩
            · have := HO2.out
              rw [← HFl.out, List.take_length] at this
              rw [HF.out]; exact this
            · have := HLN.out
              have h2 := Spn.bnds_len (k : Int) l
              have h3 := HFl.out
              rw [HF.out, List.length_append]
              omega
          case measure => simp [intOf]; omega
    · obtain rfl : k = 2 := by omega
      have hF2 : fk a b 2 = Spn.bnd2 a b := by simp [fk]
      rw [hF2] at HO
      have hbl := Spn.bnds_len 0 a
      have hbl2 := Spn.bnds_len 1 b
      have hlen2 : (Spn.bnd2 a b).length ≤ 16000000 := by
        have h1 := HA.out.len
        have h2 := HB.out.len
        unfold Spn.bnd2
        rw [List.length_append]
        omega
      have HLN2 := Lib.hid hlen2
      clear hF2 hbl hbl2 hlen2
      obtain ⟨hl0, ⟨hv, h0⟩ | ⟨g, cap, cur, hv, hb, hg, hlt2, hm, hs, ht⟩⟩ := HO.out
      · subst hv
        have HE := Lib.hid (List.length_eq_zero_iff.1 h0)
        clear h0
        go_wp2_with fail
        refine (sort_none _ _ _ _).mono ?_
        rintro e w' ⟨rfl, rfl⟩
        go_wp2_with fail
        go_ret
        refine ⟨none, 0, 0, [], rfl, ⟨by rw [HE.out], .nil⟩, Rd.none _, Nat.zero_le _, HC.out.mono (by rw [HG.out]; exact Nat.le_refl _) (fun _ _ q => q), fun x q => by cases q⟩
      · clear hl0
        subst hv
        obtain ⟨_, hrd⟩ := Rd.own bdc_len HO.out rfl
        have hB : Blk wr g 70 cur.toList := by unfold Blk; simpa using hg
        have H1 := Lib.hid (sort_bd g cap 70 cur.toList (Spn.bnd2 a b) wr hB hrd (by have := HLN2.out; omega))
        have HB2 := Lib.hid hb
        clear hg hs ht hrd hB hlt2 hm hb
        go_wp2_with fail
        refine H1.out.mono ?_
        rintro e w' ⟨rfl, B, hp, hs, hr, hC2⟩
        have HP := Lib.hid hp
        have HS := Lib.hid hs
        have HR := Lib.hid hr
        have HC2 := Lib.hid hC2
        clear hp hs hr hC2
        go_wp2_with fail
        go_ret
        refine ⟨_, _, _, B, rfl, ⟨HP.out, HS.out⟩, HR.out, HLN2.out, ?_, fun x q => by cases q; rw [HG.out]; exact HB2.out⟩
        have h3 := HC.out.size
        have h4 := HG.out
        have h5 := HB2.out
        rw [HG.out]
        exact HC.out.step HC2.out (by omega) (fun k hk q => by omega)
end Go.Proofs.YtnbcfolmadkliaaDoor
