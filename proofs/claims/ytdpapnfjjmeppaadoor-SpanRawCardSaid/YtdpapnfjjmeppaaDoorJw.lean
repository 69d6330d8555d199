/- SpanRaw: the walk. -/
import Derived.Test.YtdpapnfjjmeppaaDoorJc
import Derived.Test.YtdpapnfjjmeppaaDoorSx
import Derived.Test.YtdpapnfjjmeppaaDoorSy
namespace Go.Proofs.YtdpapnfjjmeppaaDoor
open Go.RowKit Go.Shelf
theorem cenV_parts (p : Int → Bool) (s n : Int) : ∃ d b, cenV p s n = .tuple #[iz d, .bool b] := ⟨_, _, rfl⟩
theorem CountV {a : List Spn.Sp} {pa : Option Addr} {na ca : Nat} {s n : Int} {w : World} {V : Value} (ha : Rd spc 2 w pa na a) (hna : na ≤ 8) (hs : -9223372036854775808 ≤ s ∧ s ≤ 9223372036854775807) (hn : -9223372036854775808 ≤ n ∧ n ≤ 9223372036854775807) (h : cenV (Spn.has a) s n = V) :
    Calls Tryd.prog 26 #[.slice pa na ca, iz s, iz n] w (Ya w V) := by
  have := Count_any a pa na ca s n w ha (by omega) hs hn
  rwa [h] at this
theorem refCountV {a : List Spn.Sp} {pa : Option Addr} {na ca : Nat} {s n : Int} {w : World} {V : Value} (ha : Rd spc 2 w pa na a) (hna : na ≤ 8) (hs : -9223372036854775808 ≤ s ∧ s ≤ 9223372036854775807) (hn : -9223372036854775808 ≤ n ∧ n ≤ 9223372036854775807) (h : cenV (Spn.has a) s n = V) :
    Calls Tryd.prog 27 #[.slice pa na ca, iz s, iz n] w (Ya w V) := by
  have := refCount_any a pa na ca s n w ha (by omega) hs hn
  rwa [h] at this
theorem refHas_as {d : Int} {w : World} {p : Option Addr} {n cap : Nat} {l : List Spn.Sp} {b : Bool} (hv : Rd spc 2 w p n l) (hn : n ≤ 8) (h : Spn.has l d = b) :
    Calls Tryd.prog 29 #[.slice p n cap, iz d] w (Ya w (.bool b)) := by
  have := refHas_any d w p n cap l hv (by omega)
  rwa [h] at this
theorem refDays_as {a : List Spn.Sp} {pa : Option Addr} {na ca : Nat} {w : World} {d : Int} (ha : Rd spc 2 w pa na a) (hna : na ≤ 8) (h : Spn.days (Spn.nf (Spn.has a)) = d) :
    Calls Tryd.prog 31 #[.slice pa na ca] w (Ya w (iz d)) := by
  have := sdays_any a pa na ca w ha (by omega)
  rwa [h] at this
theorem Right_as {x y : Int} {b : Bool} (w : World) (h : Spn.rt (x, y) = b) : Calls Tryd.prog 24 #[SpV x y] w (Ya w (.bool b)) := by
  refine (Right_any x y w).mono ?_
  rintro e w' ⟨rfl, rfl⟩
  exact ⟨by rw [h], (Ch.refl _ _ w).alloc (Nat.le_refl _) _⟩
theorem refRight_as {x y : Int} {b : Bool} (w : World) (h : Spn.rt (x, y) = b) : Calls Tryd.prog 25 #[SpV x y] w (Ya w (.bool b)) := by
  refine (refRight_any x y w).mono ?_
  rintro e w' ⟨rfl, rfl⟩
  exact ⟨by rw [h], (Ch.refl _ _ w).alloc (Nat.le_refl _) _⟩
set_option maxRecDepth 100000 in
set_option maxHeartbeats 8000000 in
theorem raw_core (xs ys : List Spn.Sp) (px py : Option Addr) (nx ny cx cy : Nat) (q0 q1 : Int) (w : World) (hx : Ra w px nx xs) (hy : Ra w py ny ys) (hnx : nx ≤ 9223372036854775807) (hny : ny ≤ 9223372036854775807) (hcx : nx ≤ cx) (hcy : ny ≤ cy) (hq0 : -9223372036854775808 ≤ q0 ∧ q0 ≤ 9223372036854775807) (hq1 : -9223372036854775808 ≤ q1 ∧ q1 ≤ 9223372036854775807) (ht : LenIs w) :
    Calls Tryd.prog 4 #[.slice px nx cx, .slice py ny cy, .agg #[iz q0, iz q1]] w (Ya w (.bool true)) := by
  have HX := Lib.hid hx
  have HY := Lib.hid hy
  clear hx hy
  have HT := Lib.hid ht
  have HK := Lib.hid (Kr.nil w)
  clear ht
  go_enter Tryd.func4, Tryd.ntmps4
  go_wp2_with fail
  have HK2 := Lib.hid (show Kr w (w.alloc (.cells #[iz q0, iz q1] 30 (0, 0))) ((some ⟨w.heap.size, 0, none⟩, 1, [(q0, q1)]) :: _) from HK.out.new [(q0, q1)] 30)
  obtain ⟨w1, hW⟩ : ∃ W, w.alloc (.cells #[iz q0, iz q1] 30 (0, 0)) = W := ⟨_, rfl⟩
  rw [hW] at HK2 ⊢
  obtain ⟨g1, hA⟩ : ∃ A, w.heap.size = A := ⟨_, rfl⟩
  rw [hA] at HK2 ⊢
  clear hA hW HK
  have HK := HK2
  clear HK2
  refine (sanity_any _ (len_ch HT.out HK.out.ch)).mono ?_
  rintro e w2 ⟨rfl, hC⟩
  have HK2 := Lib.hid (HK.out.on hC)
  clear hC HK
  have HK := HK2
  clear HK2
  obtain ⟨y0, y1⟩ := HK.out.cells (g := g1) (x := q0) (y := q1) (.head _)
  go_wp2_with fail
  refine (few_any xs _ _ _ _ (HX.out.ch HK.out.ch) hnx hcx).mono ?_
  rintro e w3 ⟨p3, n3, c3, rfl, hr, hC⟩
  have HK2 := Lib.hid (HK.out.res hC hr)
  clear hC hr HK
  have HK := HK2
  clear HK2
  go_wp2_with fail
  have ha : n3 ≤ 8 := by rw [← (show Rd spc 2 w3 (p3) n3 (xs.take 8) from HK.out.rd (p3, n3, (xs.take 8)) (.head _)).len, List.length_take]; omega
  refine (few_any ys _ _ _ _ (HY.out.ch HK.out.ch) hny hcy).mono ?_
  rintro e w4 ⟨p4, n4, c4, rfl, hr, hC⟩
  have HK2 := Lib.hid (HK.out.res hC hr)
  clear hC hr HK
  have HK := HK2
  clear HK2
  go_wp2_with fail
  have hb : n4 ≤ 8 := by rw [← (show Rd spc 2 w4 (p4) n4 (ys.take 8) from HK.out.rd (p4, n4, (ys.take 8)) (.head _)).len, List.length_take]; omega
  clear y0 y1
  go_loopw [10] (fun i wr => ∃ k : Nat, k ≤ n3 ∧ i = .int .i64 k ∧ Kr w wr [(p4, n4, (ys.take 8)), (p3, n3, (xs.take 8)), (some ⟨g1, 0, none⟩, 1, [(q0, q1)])]) (fun i _ => n3 - (intOf i).toNat)
  case atStart => exact ⟨0, Nat.zero_le _, rfl, HK.out⟩
  case round =>
    clear HK
    obtain ⟨k, hk, rfl, hK⟩ := hrel
    have HK := Lib.hid hK
    clear hK
    by_cases hlt : k < n3
    · obtain ⟨g, o, rfl, hg⟩ := (show Rd spc 2 wr (p3) n3 (xs.take 8) from HK.out.rd (p3, n3, (xs.take 8)) (.tail _ (.head _))).addr (by omega)
      obtain ⟨⟨x, y⟩, ht⟩ : ∃ t, (xs.take 8)[k]? = some t := ⟨(xs.take 8)[k]'(by rw [(HK.out.rd (some ⟨g, o, none⟩, n3, (xs.take 8)) (.tail _ (.head _))).len]; exact hlt), List.getElem?_eq_getElem _⟩
      have HF := Lib.hid (show ∀ W, Kr w W [(p4, n4, (ys.take 8)), (some ⟨g, o, none⟩, n3, (xs.take 8)), (some ⟨g1, 0, none⟩, 1, [(q0, q1)])] → W.cell? ⟨g, o + k * 2, none⟩ = some (iz x) ∧ W.cell? ⟨g, o + k * 2 + 1, none⟩ = some (iz y) from fun W h => (h.rd (some ⟨g, o, none⟩, n3, (xs.take 8)) (.tail _ (.head _))).sp ht)
      clear ht
      obtain ⟨b, hb⟩ : ∃ b, Spn.rt (x, y) = b := ⟨_, rfl⟩
      have H1 := Lib.hid (fun W => Right_as W hb)
      have H2 := Lib.hid (fun W => refRight_as W hb)
      clear hb
      have hki : 0 ≤ (k : Int) ∧ (k : Int) < (n3 : Int) := by omega
      go_wp2_with fail
      have HKD := Lib.hid HK.out.drew
      clear HK
      have HK := HKD
      clear HKD
      go_region_held3 (fun w' => w'.cell? ⟨g, o + k * 2, none⟩ = some (iz x) ∧ w'.cell? ⟨g, o + k * 2 + 1, none⟩ = some (iz y))
        (first
          | (with_reducible exact HF.out _ HK.out)
          | go_keep)
        (first
          | (go_at_call 24; (with_reducible refine (H1.out _).mono ?_); rintro e wq ⟨rfl, hCq⟩; have HK2 := Lib.hid (HK.out.on hCq); clear hCq HK; have HK := HK2; clear HK2)
          | (go_at_call 25; (with_reducible refine (H2.out _).mono ?_); rintro e wq ⟨rfl, hCq⟩; have HK2 := Lib.hid (HK.out.on hCq); clear hCq HK; have HK := HK2; clear HK2))
      go_wp2_with fail
      go_roundw
      case rel => exact ⟨k + 1, by omega, by go_num, HK.out⟩
      case measure => simp [intOf] <;> omega
    · obtain rfl : k = n3 := by omega
      obtain ⟨cd, cb, hcv⟩ := cenV_parts (Spn.has (xs.take 8)) q0 q1
      have HCV := Lib.hid hcv
      obtain ⟨hh, hhb⟩ : ∃ b, Spn.has (xs.take 8) q0 = b := ⟨_, rfl⟩
      have HHB := Lib.hid hhb
      obtain ⟨dd, hdd⟩ : ∃ d, Spn.days (Spn.nf (Spn.has (xs.take 8))) = d := ⟨_, rfl⟩
      have HDD := Lib.hid hdd
      clear hcv hhb hdd
      go_wp2_with fail
      refine (CountV (show Rd spc 2 wr (p3) k (xs.take 8) from HK.out.rd (p3, k, (xs.take 8)) (.tail _ (.head _))) ha hq0 hq1 HCV.out).mono ?_
      rintro e w25 ⟨rfl, hC⟩
      have HK2 := Lib.hid (HK.out.on hC)
      clear hC HK
      have HK := HK2
      clear HK2
      go_wp2_with fail
      refine (refCountV (show Rd spc 2 w25 (p3) k (xs.take 8) from HK.out.rd (p3, k, (xs.take 8)) (.tail _ (.head _))) ha hq0 hq1 HCV.out).mono ?_
      rintro e w26 ⟨rfl, hC⟩
      have HK2 := Lib.hid (HK.out.on hC)
      clear hC HK
      have HK := HK2
      clear HK2
      go_wp2_with fail
      refine (Norm_any _ _ _ _ _ (show Rd spc 2 w26 (p3) k (xs.take 8) from HK.out.rd (p3, k, (xs.take 8)) (.tail _ (.head _))) (by omega)).mono ?_
      rintro e w27 ⟨p27, n27, c27, rfl, hr, hC⟩
      have HK2 := Lib.hid (HK.out.res hC hr)
      clear hC hr HK
      have HK := HK2
      clear HK2
      go_wp2_with fail
      refine (refNorm_any _ _ _ _ _ (show Rd spc 2 w27 (p3) k (xs.take 8) from HK.out.rd (p3, k, (xs.take 8)) (.tail _ (.tail _ (.head _)))) (by omega)).mono ?_
      rintro e w28 ⟨p28, n28, c28, rfl, hr, hC⟩
      have HK2 := Lib.hid (HK.out.res hC hr)
      clear hC hr HK
      have HK := HK2
      clear HK2
      go_wp2_with fail
      have hn : n27 ≤ 4000000 := by rw [← (show Rd spc 2 w28 (p27) n27 (Spn.nf (Spn.has (xs.take 8))) from HK.out.rd (p27, n27, (Spn.nf (Spn.has (xs.take 8)))) (.tail _ (.head _))).len]; exact nf_len (Spn.dom_has (xs.take 8))
      have HS := Lib.hid (fun cx cy => Same_eq _ _ _ _ _ cx cy w28 (show Rd spc 2 w28 (p27) n27 (Spn.nf (Spn.has (xs.take 8))) from HK.out.rd (p27, n27, (Spn.nf (Spn.has (xs.take 8)))) (.tail _ (.head _))) (show Rd spc 2 w28 (p28) n28 (Spn.nf (Spn.has (xs.take 8))) from HK.out.rd (p28, n28, (Spn.nf (Spn.has (xs.take 8)))) (.head _)) (by omega))
      refine (HS.out _ _).mono ?_
      rintro e w29 ⟨rfl, q, hW⟩
      have HK2 := Lib.hid (show Kr w w29 _ by rw [hW]; exact HK.out.drewN q)
      clear HK hW hn HS q
      have HK := HK2
      clear HK2
      go_wp2_with fail
      refine (Union_any _ _ _ _ _ _ _ _ _ (show Rd spc 2 w29 (p3) k (xs.take 8) from HK.out.rd (p3, k, (xs.take 8)) (.tail _ (.tail _ (.tail _ (.head _))))) (show Rd spc 2 w29 (p4) n4 (ys.take 8) from HK.out.rd (p4, n4, (ys.take 8)) (.tail _ (.tail _ (.head _)))) (by omega) (by omega)).mono ?_
      rintro e w30 ⟨p30, n30, c30, rfl, hr, hC⟩
      have HK2 := Lib.hid (HK.out.res hC hr)
      clear hC hr HK
      have HK := HK2
      clear HK2
      go_wp2_with fail
      refine (refUnion_any _ _ _ _ _ _ _ _ _ (show Rd spc 2 w30 (p3) k (xs.take 8) from HK.out.rd (p3, k, (xs.take 8)) (.tail _ (.tail _ (.tail _ (.tail _ (.head _)))))) (show Rd spc 2 w30 (p4) n4 (ys.take 8) from HK.out.rd (p4, n4, (ys.take 8)) (.tail _ (.tail _ (.tail _ (.head _))))) (by omega) (by omega)).mono ?_
      rintro e w31 ⟨p31, n31, c31, rfl, hr, hC⟩
      have HK2 := Lib.hid (HK.out.res hC hr)
      clear hC hr HK
      have HK := HK2
      clear HK2
      go_wp2_with fail
      have hn : n30 ≤ 4000000 := by rw [← (show Rd spc 2 w31 (p30) n30 (Spn.nf (dUnion (xs.take 8) (ys.take 8))) from HK.out.rd (p30, n30, (Spn.nf (dUnion (xs.take 8) (ys.take 8)))) (.tail _ (.head _))).len]; exact nf_len (dom_union (xs.take 8) (ys.take 8))
      have HS := Lib.hid (fun cx cy => Same_eq _ _ _ _ _ cx cy w31 (show Rd spc 2 w31 (p30) n30 (Spn.nf (dUnion (xs.take 8) (ys.take 8))) from HK.out.rd (p30, n30, (Spn.nf (dUnion (xs.take 8) (ys.take 8)))) (.tail _ (.head _))) (show Rd spc 2 w31 (p31) n31 (Spn.nf (dUnion (xs.take 8) (ys.take 8))) from HK.out.rd (p31, n31, (Spn.nf (dUnion (xs.take 8) (ys.take 8)))) (.head _)) (by omega))
      refine (HS.out _ _).mono ?_
      rintro e w32 ⟨rfl, q, hW⟩
      have HK2 := Lib.hid (show Kr w w32 _ by rw [hW]; exact HK.out.drewN q)
      clear HK hW hn HS q
      have HK := HK2
      clear HK2
      go_wp2_with fail
      refine (Meet_any _ _ _ _ _ _ _ _ _ (show Rd spc 2 w32 (p3) k (xs.take 8) from HK.out.rd (p3, k, (xs.take 8)) (.tail _ (.tail _ (.tail _ (.tail _ (.tail _ (.head _))))))) (show Rd spc 2 w32 (p4) n4 (ys.take 8) from HK.out.rd (p4, n4, (ys.take 8)) (.tail _ (.tail _ (.tail _ (.tail _ (.head _)))))) (by omega) (by omega)).mono ?_
      rintro e w33 ⟨p33, n33, c33, rfl, hr, hC⟩
      have HK2 := Lib.hid (HK.out.res hC hr)
      clear hC hr HK
      have HK := HK2
      clear HK2
      go_wp2_with fail
      refine (refMeet_any _ _ _ _ _ _ _ _ _ (show Rd spc 2 w33 (p3) k (xs.take 8) from HK.out.rd (p3, k, (xs.take 8)) (.tail _ (.tail _ (.tail _ (.tail _ (.tail _ (.tail _ (.head _)))))))) (show Rd spc 2 w33 (p4) n4 (ys.take 8) from HK.out.rd (p4, n4, (ys.take 8)) (.tail _ (.tail _ (.tail _ (.tail _ (.tail _ (.head _))))))) (by omega) (by omega)).mono ?_
      rintro e w34 ⟨p34, n34, c34, rfl, hr, hC⟩
      have HK2 := Lib.hid (HK.out.res hC hr)
      clear hC hr HK
      have HK := HK2
      clear HK2
      go_wp2_with fail
      have hn : n33 ≤ 4000000 := by rw [← (show Rd spc 2 w34 (p33) n33 (Spn.nf (dMeet (xs.take 8) (ys.take 8))) from HK.out.rd (p33, n33, (Spn.nf (dMeet (xs.take 8) (ys.take 8)))) (.tail _ (.head _))).len]; exact nf_len (dom_meet (xs.take 8) (ys.take 8))
      have HS := Lib.hid (fun cx cy => Same_eq _ _ _ _ _ cx cy w34 (show Rd spc 2 w34 (p33) n33 (Spn.nf (dMeet (xs.take 8) (ys.take 8))) from HK.out.rd (p33, n33, (Spn.nf (dMeet (xs.take 8) (ys.take 8)))) (.tail _ (.head _))) (show Rd spc 2 w34 (p34) n34 (Spn.nf (dMeet (xs.take 8) (ys.take 8))) from HK.out.rd (p34, n34, (Spn.nf (dMeet (xs.take 8) (ys.take 8)))) (.head _)) (by omega))
      refine (HS.out _ _).mono ?_
      rintro e w35 ⟨rfl, q, hW⟩
      have HK2 := Lib.hid (show Kr w w35 _ by rw [hW]; exact HK.out.drewN q)
      clear HK hW hn HS q
      have HK := HK2
      clear HK2
      go_wp2_with fail
      refine (Less_any _ _ _ _ _ _ _ _ _ (show Rd spc 2 w35 (p3) k (xs.take 8) from HK.out.rd (p3, k, (xs.take 8)) (.tail _ (.tail _ (.tail _ (.tail _ (.tail _ (.tail _ (.tail _ (.head _))))))))) (show Rd spc 2 w35 (p4) n4 (ys.take 8) from HK.out.rd (p4, n4, (ys.take 8)) (.tail _ (.tail _ (.tail _ (.tail _ (.tail _ (.tail _ (.head _)))))))) (by omega) (by omega)).mono ?_
      rintro e w36 ⟨p36, n36, c36, rfl, hr, hC⟩
      have HK2 := Lib.hid (HK.out.res hC hr)
      clear hC hr HK
      have HK := HK2
      clear HK2
      go_wp2_with fail
      refine (refLess_any _ _ _ _ _ _ _ _ _ (show Rd spc 2 w36 (p3) k (xs.take 8) from HK.out.rd (p3, k, (xs.take 8)) (.tail _ (.tail _ (.tail _ (.tail _ (.tail _ (.tail _ (.tail _ (.tail _ (.head _)))))))))) (show Rd spc 2 w36 (p4) n4 (ys.take 8) from HK.out.rd (p4, n4, (ys.take 8)) (.tail _ (.tail _ (.tail _ (.tail _ (.tail _ (.tail _ (.tail _ (.head _))))))))) (by omega) (by omega)).mono ?_
      rintro e w37 ⟨p37, n37, c37, rfl, hr, hC⟩
      have HK2 := Lib.hid (HK.out.res hC hr)
      clear hC hr HK
      have HK := HK2
      clear HK2
      go_wp2_with fail
      have hn : n36 ≤ 4000000 := by rw [← (show Rd spc 2 w37 (p36) n36 (Spn.nf (dLess (xs.take 8) (ys.take 8))) from HK.out.rd (p36, n36, (Spn.nf (dLess (xs.take 8) (ys.take 8)))) (.tail _ (.head _))).len]; exact nf_len (dom_less (xs.take 8) (ys.take 8))
      have HS := Lib.hid (fun cx cy => Same_eq _ _ _ _ _ cx cy w37 (show Rd spc 2 w37 (p36) n36 (Spn.nf (dLess (xs.take 8) (ys.take 8))) from HK.out.rd (p36, n36, (Spn.nf (dLess (xs.take 8) (ys.take 8)))) (.tail _ (.head _))) (show Rd spc 2 w37 (p37) n37 (Spn.nf (dLess (xs.take 8) (ys.take 8))) from HK.out.rd (p37, n37, (Spn.nf (dLess (xs.take 8) (ys.take 8)))) (.head _)) (by omega))
      refine (HS.out _ _).mono ?_
      rintro e w38 ⟨rfl, q, hW⟩
      have HK2 := Lib.hid (show Kr w w38 _ by rw [hW]; exact HK.out.drewN q)
      clear HK hW hn HS q
      have HK := HK2
      clear HK2
      go_wp2_with fail
      refine (Has_as (show Rd spc 2 w38 (p3) k (xs.take 8) from HK.out.rd (p3, k, (xs.take 8)) (.tail _ (.tail _ (.tail _ (.tail _ (.tail _ (.tail _ (.tail _ (.tail _ (.tail _ (.head _))))))))))) (by omega) HHB.out).mono ?_
      rintro e w39 ⟨rfl, hC⟩
      have HK2 := Lib.hid (HK.out.on hC)
      clear hC HK
      have HK := HK2
      clear HK2
      go_wp2_with fail
      refine (refHas_as (show Rd spc 2 w39 (p3) k (xs.take 8) from HK.out.rd (p3, k, (xs.take 8)) (.tail _ (.tail _ (.tail _ (.tail _ (.tail _ (.tail _ (.tail _ (.tail _ (.tail _ (.head _))))))))))) ha HHB.out).mono ?_
      rintro e w40 ⟨rfl, hC⟩
      have HK2 := Lib.hid (HK.out.on hC)
      clear hC HK
      have HK := HK2
      clear HK2
      go_wp2_with fail
      refine (Days_as (show Rd spc 2 w40 (p3) k (xs.take 8) from HK.out.rd (p3, k, (xs.take 8)) (.tail _ (.tail _ (.tail _ (.tail _ (.tail _ (.tail _ (.tail _ (.tail _ (.tail _ (.head _))))))))))) (by omega) HDD.out).mono ?_
      rintro e w41 ⟨rfl, hC⟩
      have HK2 := Lib.hid (HK.out.on hC)
      clear hC HK
      have HK := HK2
      clear HK2
      go_wp2_with fail
      refine (refDays_as (show Rd spc 2 w41 (p3) k (xs.take 8) from HK.out.rd (p3, k, (xs.take 8)) (.tail _ (.tail _ (.tail _ (.tail _ (.tail _ (.tail _ (.tail _ (.tail _ (.tail _ (.head _))))))))))) ha HDD.out).mono ?_
      rintro e w42 ⟨rfl, hC⟩
      have HK2 := Lib.hid (HK.out.on hC)
      clear hC HK
      have HK := HK2
      clear HK2
      go_wp2_with fail
      go_ret
      exact ⟨by simp, HK.out.ch⟩
end Go.Proofs.YtdpapnfjjmeppaaDoor
