/- SpanRules: mathematics and the walk. -/
import Derived.Test.YtdpapnfjjmeppaaDoorSt
namespace Go.Proofs.YtdpapnfjjmeppaaDoor
open Go.RowKit Go.Shelf
theorem has_rev (l : List Spn.Sp) (d : Int) : Spn.has l.reverse d = Spn.has l d := by unfold Spn.has; rw [List.any_reverse]
theorem has_u (A B : List Spn.Sp) (d : Int) : Spn.has (Spn.nf (dUnion A B)) d = (Spn.has A d || Spn.has B d) := (Spn.nf_spec (dom_union A B)).2 d
theorem has_m (A B : List Spn.Sp) (d : Int) : Spn.has (Spn.nf (dMeet A B)) d = (Spn.has A d && Spn.has B d) := (Spn.nf_spec (dom_meet A B)).2 d
theorem has_l (A B : List Spn.Sp) (d : Int) : Spn.has (Spn.nf (dLess A B)) d = (Spn.has A d && !Spn.has B d) := (Spn.nf_spec (dom_less A B)).2 d
theorem rl1 (A B : List Spn.Sp) : Spn.nf (dUnion B A.reverse) = Spn.nf (dUnion A B) := congrArg Spn.nf (funext fun d => by
  show (Spn.has B d || Spn.has A.reverse d) = (Spn.has A d || Spn.has B d)
  rw [has_rev, Bool.or_comm])
theorem rl2 (A B : List Spn.Sp) : Spn.nf (dMeet B A.reverse) = Spn.nf (dMeet A B) := congrArg Spn.nf (funext fun d => by
  show (Spn.has B d && Spn.has A.reverse d) = (Spn.has A d && Spn.has B d)
  rw [has_rev, Bool.and_comm])
theorem rl3 (A B : List Spn.Sp) : Spn.nf (dUnion (Spn.nf (dUnion A B)) A) = Spn.nf (dUnion A B) := congrArg Spn.nf (funext fun d => by
  show (Spn.has (Spn.nf (dUnion A B)) d || Spn.has A d) = (Spn.has A d || Spn.has B d)
  rw [has_u]
  cases Spn.has A d <;> cases Spn.has B d <;> rfl)
theorem rl4 (A B : List Spn.Sp) : Spn.nf (dMeet (Spn.nf (dMeet A B)) B) = Spn.nf (dMeet A B) := congrArg Spn.nf (funext fun d => by
  show (Spn.has (Spn.nf (dMeet A B)) d && Spn.has B d) = (Spn.has A d && Spn.has B d)
  rw [has_m]
  cases Spn.has A d <;> cases Spn.has B d <;> rfl)
theorem rl5 (A B : List Spn.Sp) : Spn.nf (dMeet (Spn.nf (dMeet A B)) (Spn.nf (dLess A B))) = [] := Spn.nf_eq Spn.Nrm.nil fun d => by
  show false = (Spn.has (Spn.nf (dMeet A B)) d && Spn.has (Spn.nf (dLess A B)) d)
  rw [has_m, has_l]
  cases Spn.has A d <;> cases Spn.has B d <;> rfl
theorem rl6 (A B : List Spn.Sp) : Spn.nf (dUnion (Spn.nf (dMeet A B)) (Spn.nf (dLess A B))) = Spn.nf (Spn.has A) := congrArg Spn.nf (funext fun d => by
  show (Spn.has (Spn.nf (dMeet A B)) d || Spn.has (Spn.nf (dLess A B)) d) = Spn.has A d
  rw [has_m, has_l]
  cases Spn.has A d <;> cases Spn.has B d <;> rfl)
theorem rl7 (A B : List Spn.Sp) : Spn.nf (dLess A.reverse B) = Spn.nf (dLess A B) := congrArg Spn.nf (funext fun d => by
  show (Spn.has A.reverse d && !Spn.has B d) = (Spn.has A d && !Spn.has B d)
  rw [has_rev])
theorem Union_as {a b L : List Spn.Sp} {pa pb : Option Addr} {na nb ca cb : Nat} {w : World} (ha : Rd spc 2 w pa na a) (hb : Rd spc 2 w pb nb b) (hna : na ≤ 4000000) (hnb : nb ≤ 4000000) (h : Spn.nf (dUnion a b) = L) :
    Calls Tryd.prog 17 #[.slice pa na ca, .slice pb nb cb] w (Ys w L) := by
  have := Union_any a b pa pb na nb ca cb w ha hb hna hnb
  rwa [h] at this
theorem Meet_as {a b L : List Spn.Sp} {pa pb : Option Addr} {na nb ca cb : Nat} {w : World} (ha : Rd spc 2 w pa na a) (hb : Rd spc 2 w pb nb b) (hna : na ≤ 4000000) (hnb : nb ≤ 4000000) (h : Spn.nf (dMeet a b) = L) :
    Calls Tryd.prog 19 #[.slice pa na ca, .slice pb nb cb] w (Ys w L) := by
  have := Meet_any a b pa pb na nb ca cb w ha hb hna hnb
  rwa [h] at this
theorem Less_as {a b L : List Spn.Sp} {pa pb : Option Addr} {na nb ca cb : Nat} {w : World} (ha : Rd spc 2 w pa na a) (hb : Rd spc 2 w pb nb b) (hna : na ≤ 4000000) (hnb : nb ≤ 4000000) (h : Spn.nf (dLess a b) = L) :
    Calls Tryd.prog 21 #[.slice pa na ca, .slice pb nb cb] w (Ys w L) := by
  have := Less_any a b pa pb na nb ca cb w ha hb hna hnb
  rwa [h] at this
set_option maxRecDepth 100000 in
set_option maxHeartbeats 8000000 in
theorem rules_core (xs ys : List (Int × Int)) (px py : Option Addr) (nx ny cx cy : Nat) (w : World) (hx : Ra w px nx xs) (hy : Ra w py ny ys) (hnx : nx ≤ 9223372036854775807) (hny : ny ≤ 9223372036854775807) (ht : LenIs w) :
    Calls Tryd.prog 7 #[.slice px nx cx, .slice py ny cy] w (Ya w (.bool true)) := by
  have HX := Lib.hid hx
  have HY := Lib.hid hy
  clear hx hy
  have HT := Lib.hid ht
  have HK := Lib.hid (Kr.nil w)
  clear ht
  go_enter Tryd.func7, Tryd.ntmps7
  go_wp2_with fail
  refine (sanity_any _ (len_ch HT.out HK.out.ch)).mono ?_
  rintro e w1 ⟨rfl, hC⟩
  have HK2 := Lib.hid (HK.out.on hC)
  clear hC HK
  have HK := HK2
  clear HK2
  go_wp2_with fail
  refine (Made_any xs _ _ _ _ (HX.out.ch HK.out.ch) hnx).mono ?_
  rintro e w2 ⟨p2, n2, c2, rfl, hr, hC⟩
  have HK2 := Lib.hid (HK.out.res hC hr)
  clear hC hr HK
  have HK := HK2
  clear HK2
  go_wp2_with fail
  have ha : n2 ≤ 8 := by have h1 := (show Rd spc 2 w2 (p2) n2 (made xs) from HK.out.rd (p2, n2, (made xs)) (.head _)).len; have h2 := made_len xs; omega
  refine (Made_any ys _ _ _ _ (HY.out.ch HK.out.ch) hny).mono ?_
  rintro e w3 ⟨p3, n3, c3, rfl, hr, hC⟩
  have HK2 := Lib.hid (HK.out.res hC hr)
  clear hC hr HK
  have HK := HK2
  clear HK2
  go_wp2_with fail
  have hb : n3 ≤ 8 := by have h1 := (show Rd spc 2 w3 (p3) n3 (made ys) from HK.out.rd (p3, n3, (made ys)) (.head _)).len; have h2 := made_len ys; omega
  have HRA := Lib.hid (show Rd spc 2 w3 (p2) n2 (made xs) from HK.out.rd (p2, n2, (made xs)) (.tail _ (.head _)))
  obtain ⟨i0, hi0, hz0, hz1, hz2⟩ := info_parts sp_info
  obtain ⟨G, hG⟩ : ∃ G, w3.heap.size = G := ⟨_, rfl⟩
  have HG := Lib.hid hG
  clear hG
  go_loopw [8, 9] (fun v i wr => ∃ (k : Nat) (l : List Spn.Sp), k ≤ n2 ∧ i = .int .i64 ((k : Int) - 1) ∧ wr.ownsRow G 33 2 v l.length (l.flatMap spc) ∧ Ch G none1 w3 wr ∧ ((made xs).drop k).reverse = l) (fun _ i _ => (intOf i + 1).toNat)
  case atStart => exact ⟨n2, [], Nat.le_refl _, by go_num, own_nil _ _ _ _, Ch.refl _ _ _, by rw [List.drop_of_length_le (by rw [HRA.out.len]; exact Nat.le_refl _)]; rfl⟩
  case round =>
    obtain ⟨k, l, hk, rfl, hown, hC, hl⟩ := hrel
    have HO := Lib.hid hown
    have HC := Lib.hid hC
    have HL := Lib.hid hl
    have HWS := Lib.hid (show G ≤ wr.heap.size by have := hC.size; rw [HG.out] at this; exact this)
    have hll : l.length ≤ 8 := by rw [← hl, List.length_reverse, List.length_drop]; have := made_len xs; omega
    clear hown hC hl
    rcases k with _ | j
    · have e0 : ((0 : Nat) : Int) - 1 = -1 := by omega
      rw [e0]
      have hL2 : l = (made xs).reverse := by rw [← HL.out, List.drop_zero]
      obtain ⟨m, hm⟩ : ∃ m, l.length = m := ⟨_, rfl⟩
      have HO1 := HO.out
      rw [hm] at HO1 hll
      obtain ⟨pp, cc, rfl⟩ := own_val HO1
      have HRD := (Rd.own spc_len HO1 hm).2
      rw [hL2] at HRD
      have HK2 := Lib.hid (HK.out.res (by rw [HG.out]; exact HC.out) HRD)
      clear HO1 HRD hL2 hm HO HC HL HWS HG HRA HK hk e0
      have HK := HK2
      clear HK2
      go_wp2_with fail
      have hk : m ≤ 8 := hll
      refine (Union_as (show Rd spc 2 wr (p2) n2 (made xs) from HK.out.rd (p2, n2, (made xs)) (.tail _ (.tail _ (.head _)))) (show Rd spc 2 wr (p3) n3 (made ys) from HK.out.rd (p3, n3, (made ys)) (.tail _ (.head _))) (by omega) (by omega) (rfl)).mono ?_
      rintro e w4 ⟨p4, n4, c4, rfl, hr, hC⟩
      have HK2 := Lib.hid (HK.out.res hC hr)
      clear hC hr HK
      have HK := HK2
      clear HK2
      go_wp2_with fail
      have hqu : n4 ≤ 4000000 := by rw [← (show Rd spc 2 w4 (p4) n4 (Spn.nf (dUnion (made xs) (made ys))) from HK.out.rd (p4, n4, (Spn.nf (dUnion (made xs) (made ys)))) (.head _)).len]; exact nf_len (dom_union _ _)
      refine (Meet_as (show Rd spc 2 w4 (p2) n2 (made xs) from HK.out.rd (p2, n2, (made xs)) (.tail _ (.tail _ (.tail _ (.head _))))) (show Rd spc 2 w4 (p3) n3 (made ys) from HK.out.rd (p3, n3, (made ys)) (.tail _ (.tail _ (.head _)))) (by omega) (by omega) (rfl)).mono ?_
      rintro e w5 ⟨p5, n5, c5, rfl, hr, hC⟩
      have HK2 := Lib.hid (HK.out.res hC hr)
      clear hC hr HK
      have HK := HK2
      clear HK2
      go_wp2_with fail
      have hqm : n5 ≤ 4000000 := by rw [← (show Rd spc 2 w5 (p5) n5 (Spn.nf (dMeet (made xs) (made ys))) from HK.out.rd (p5, n5, (Spn.nf (dMeet (made xs) (made ys)))) (.head _)).len]; exact nf_len (dom_meet _ _)
      refine (Less_as (show Rd spc 2 w5 (p2) n2 (made xs) from HK.out.rd (p2, n2, (made xs)) (.tail _ (.tail _ (.tail _ (.tail _ (.head _)))))) (show Rd spc 2 w5 (p3) n3 (made ys) from HK.out.rd (p3, n3, (made ys)) (.tail _ (.tail _ (.tail _ (.head _))))) (by omega) (by omega) (rfl)).mono ?_
      rintro e w6 ⟨p6, n6, c6, rfl, hr, hC⟩
      have HK2 := Lib.hid (HK.out.res hC hr)
      clear hC hr HK
      have HK := HK2
      clear HK2
      go_wp2_with fail
      have hqr : n6 ≤ 4000000 := by rw [← (show Rd spc 2 w6 (p6) n6 (Spn.nf (dLess (made xs) (made ys))) from HK.out.rd (p6, n6, (Spn.nf (dLess (made xs) (made ys)))) (.head _)).len]; exact nf_len (dom_less _ _)
      refine (Union_as (show Rd spc 2 w6 (p3) n3 (made ys) from HK.out.rd (p3, n3, (made ys)) (.tail _ (.tail _ (.tail _ (.tail _ (.head _)))))) (show Rd spc 2 w6 (pp) m (made xs).reverse from HK.out.rd (pp, m, (made xs).reverse) (.tail _ (.tail _ (.tail _ (.head _))))) (by omega) (by omega) (rl1 _ _)).mono ?_
      rintro e w7 ⟨p7, n7, c7, rfl, hr, hC⟩
      have HK2 := Lib.hid (HK.out.res hC hr)
      clear hC hr HK
      have HK := HK2
      clear HK2
      go_wp2_with fail
      have HS := Lib.hid (fun cx cy => Same_eq _ _ _ _ _ cx cy w7 (show Rd spc 2 w7 (p4) n4 (Spn.nf (dUnion (made xs) (made ys))) from HK.out.rd (p4, n4, (Spn.nf (dUnion (made xs) (made ys)))) (.tail _ (.tail _ (.tail _ (.head _))))) (show Rd spc 2 w7 (p7) n7 (Spn.nf (dUnion (made xs) (made ys))) from HK.out.rd (p7, n7, (Spn.nf (dUnion (made xs) (made ys)))) (.head _)) (by omega))
      refine (HS.out _ _).mono ?_
      rintro e w8 ⟨rfl, q, hW⟩
      have HK2 := Lib.hid (show Kr w w8 _ by rw [hW]; exact HK.out.drewN q)
      clear HK hW HS q
      have HK := HK2
      clear HK2
      go_wp2_with fail
      refine (Meet_as (show Rd spc 2 w8 (p3) n3 (made ys) from HK.out.rd (p3, n3, (made ys)) (.tail _ (.tail _ (.tail _ (.tail _ (.tail _ (.head _))))))) (show Rd spc 2 w8 (pp) m (made xs).reverse from HK.out.rd (pp, m, (made xs).reverse) (.tail _ (.tail _ (.tail _ (.tail _ (.head _)))))) (by omega) (by omega) (rl2 _ _)).mono ?_
      rintro e w9 ⟨p9, n9, c9, rfl, hr, hC⟩
      have HK2 := Lib.hid (HK.out.res hC hr)
      clear hC hr HK
      have HK := HK2
      clear HK2
      go_wp2_with fail
      have HS := Lib.hid (fun cx cy => Same_eq _ _ _ _ _ cx cy w9 (show Rd spc 2 w9 (p5) n5 (Spn.nf (dMeet (made xs) (made ys))) from HK.out.rd (p5, n5, (Spn.nf (dMeet (made xs) (made ys)))) (.tail _ (.tail _ (.tail _ (.head _))))) (show Rd spc 2 w9 (p9) n9 (Spn.nf (dMeet (made xs) (made ys))) from HK.out.rd (p9, n9, (Spn.nf (dMeet (made xs) (made ys)))) (.head _)) (by omega))
      refine (HS.out _ _).mono ?_
      rintro e w10 ⟨rfl, q, hW⟩
      have HK2 := Lib.hid (show Kr w w10 _ by rw [hW]; exact HK.out.drewN q)
      clear HK hW HS q
      have HK := HK2
      clear HK2
      go_wp2_with fail
      refine (Union_as (show Rd spc 2 w10 (p4) n4 (Spn.nf (dUnion (made xs) (made ys))) from HK.out.rd (p4, n4, (Spn.nf (dUnion (made xs) (made ys)))) (.tail _ (.tail _ (.tail _ (.tail _ (.head _)))))) (show Rd spc 2 w10 (p2) n2 (made xs) from HK.out.rd (p2, n2, (made xs)) (.tail _ (.tail _ (.tail _ (.tail _ (.tail _ (.tail _ (.tail _ (.head _))))))))) (by omega) (by omega) (rl3 _ _)).mono ?_
      rintro e w11 ⟨p11, n11, c11, rfl, hr, hC⟩
      have HK2 := Lib.hid (HK.out.res hC hr)
      clear hC hr HK
      have HK := HK2
      clear HK2
      go_wp2_with fail
      have hqu3 : n11 ≤ 4000000 := by rw [← (show Rd spc 2 w11 (p11) n11 (Spn.nf (dUnion (made xs) (made ys))) from HK.out.rd (p11, n11, (Spn.nf (dUnion (made xs) (made ys)))) (.head _)).len]; exact nf_len (dom_union _ _)
      have HS := Lib.hid (fun cx cy => Same_eq _ _ _ _ _ cx cy w11 (show Rd spc 2 w11 (p11) n11 (Spn.nf (dUnion (made xs) (made ys))) from HK.out.rd (p11, n11, (Spn.nf (dUnion (made xs) (made ys)))) (.head _)) (show Rd spc 2 w11 (p4) n4 (Spn.nf (dUnion (made xs) (made ys))) from HK.out.rd (p4, n4, (Spn.nf (dUnion (made xs) (made ys)))) (.tail _ (.tail _ (.tail _ (.tail _ (.tail _ (.head _))))))) (by omega))
      refine (HS.out _ _).mono ?_
      rintro e w12 ⟨rfl, q, hW⟩
      have HK2 := Lib.hid (show Kr w w12 _ by rw [hW]; exact HK.out.drewN q)
      clear HK hW HS q
      have HK := HK2
      clear HK2
      go_wp2_with fail
      refine (Meet_as (show Rd spc 2 w12 (p5) n5 (Spn.nf (dMeet (made xs) (made ys))) from HK.out.rd (p5, n5, (Spn.nf (dMeet (made xs) (made ys)))) (.tail _ (.tail _ (.tail _ (.tail _ (.head _)))))) (show Rd spc 2 w12 (p3) n3 (made ys) from HK.out.rd (p3, n3, (made ys)) (.tail _ (.tail _ (.tail _ (.tail _ (.tail _ (.tail _ (.tail _ (.head _))))))))) (by omega) (by omega) (rl4 _ _)).mono ?_
      rintro e w13 ⟨p13, n13, c13, rfl, hr, hC⟩
      have HK2 := Lib.hid (HK.out.res hC hr)
      clear hC hr HK
      have HK := HK2
      clear HK2
      go_wp2_with fail
      have hqm3 : n13 ≤ 4000000 := by rw [← (show Rd spc 2 w13 (p13) n13 (Spn.nf (dMeet (made xs) (made ys))) from HK.out.rd (p13, n13, (Spn.nf (dMeet (made xs) (made ys)))) (.head _)).len]; exact nf_len (dom_meet _ _)
      have HS := Lib.hid (fun cx cy => Same_eq _ _ _ _ _ cx cy w13 (show Rd spc 2 w13 (p13) n13 (Spn.nf (dMeet (made xs) (made ys))) from HK.out.rd (p13, n13, (Spn.nf (dMeet (made xs) (made ys)))) (.head _)) (show Rd spc 2 w13 (p5) n5 (Spn.nf (dMeet (made xs) (made ys))) from HK.out.rd (p5, n5, (Spn.nf (dMeet (made xs) (made ys)))) (.tail _ (.tail _ (.tail _ (.tail _ (.tail _ (.head _))))))) (by omega))
      refine (HS.out _ _).mono ?_
      rintro e w14 ⟨rfl, q, hW⟩
      have HK2 := Lib.hid (show Kr w w14 _ by rw [hW]; exact HK.out.drewN q)
      clear HK hW HS q
      have HK := HK2
      clear HK2
      go_wp2_with fail
      refine (Meet_as (show Rd spc 2 w14 (p5) n5 (Spn.nf (dMeet (made xs) (made ys))) from HK.out.rd (p5, n5, (Spn.nf (dMeet (made xs) (made ys)))) (.tail _ (.tail _ (.tail _ (.tail _ (.tail _ (.head _))))))) (show Rd spc 2 w14 (p6) n6 (Spn.nf (dLess (made xs) (made ys))) from HK.out.rd (p6, n6, (Spn.nf (dLess (made xs) (made ys)))) (.tail _ (.tail _ (.tail _ (.tail _ (.head _)))))) (by omega) (by omega) (rl5 _ _)).mono ?_
      rintro e w15 ⟨pz, nz, cz, rfl, hr, hC⟩
      obtain rfl : nz = 0 := hr.len.symm
      have HK2 := Lib.hid (HK.out.on hC)
      clear hC hr HK
      have HK := HK2
      clear HK2
      go_wp2_with fail
      refine (Union_as (show Rd spc 2 w15 (p5) n5 (Spn.nf (dMeet (made xs) (made ys))) from HK.out.rd (p5, n5, (Spn.nf (dMeet (made xs) (made ys)))) (.tail _ (.tail _ (.tail _ (.tail _ (.tail _ (.head _))))))) (show Rd spc 2 w15 (p6) n6 (Spn.nf (dLess (made xs) (made ys))) from HK.out.rd (p6, n6, (Spn.nf (dLess (made xs) (made ys)))) (.tail _ (.tail _ (.tail _ (.tail _ (.head _)))))) (by omega) (by omega) (rl6 _ _)).mono ?_
      rintro e w16 ⟨p16, n16, c16, rfl, hr, hC⟩
      have HK2 := Lib.hid (HK.out.res hC hr)
      clear hC hr HK
      have HK := HK2
      clear HK2
      go_wp2_with fail
      have hqn1 : n16 ≤ 4000000 := by rw [← (show Rd spc 2 w16 (p16) n16 (Spn.nf (Spn.has (made xs))) from HK.out.rd (p16, n16, (Spn.nf (Spn.has (made xs)))) (.head _)).len]; exact nf_len (Spn.dom_has _)
      refine (Norm_any _ _ _ _ _ (show Rd spc 2 w16 (p2) n2 (made xs) from HK.out.rd (p2, n2, (made xs)) (.tail _ (.tail _ (.tail _ (.tail _ (.tail _ (.tail _ (.tail _ (.tail _ (.tail _ (.tail _ (.head _)))))))))))) (by omega)).mono ?_
      rintro e w17 ⟨p17, n17, c17, rfl, hr, hC⟩
      have HK2 := Lib.hid (HK.out.res hC hr)
      clear hC hr HK
      have HK := HK2
      clear HK2
      go_wp2_with fail
      have HS := Lib.hid (fun cx cy => Same_eq _ _ _ _ _ cx cy w17 (show Rd spc 2 w17 (p16) n16 (Spn.nf (Spn.has (made xs))) from HK.out.rd (p16, n16, (Spn.nf (Spn.has (made xs)))) (.tail _ (.head _))) (show Rd spc 2 w17 (p17) n17 (Spn.nf (Spn.has (made xs))) from HK.out.rd (p17, n17, (Spn.nf (Spn.has (made xs)))) (.head _)) (by omega))
      refine (HS.out _ _).mono ?_
      rintro e w18 ⟨rfl, q, hW⟩
      have HK2 := Lib.hid (show Kr w w18 _ by rw [hW]; exact HK.out.drewN q)
      clear HK hW HS q
      have HK := HK2
      clear HK2
      go_wp2_with fail
      refine (Less_as (show Rd spc 2 w18 (pp) m (made xs).reverse from HK.out.rd (pp, m, (made xs).reverse) (.tail _ (.tail _ (.tail _ (.tail _ (.tail _ (.tail _ (.tail _ (.tail _ (.tail _ (.head _))))))))))) (show Rd spc 2 w18 (p3) n3 (made ys) from HK.out.rd (p3, n3, (made ys)) (.tail _ (.tail _ (.tail _ (.tail _ (.tail _ (.tail _ (.tail _ (.tail _ (.tail _ (.tail _ (.head _)))))))))))) (by omega) (by omega) (rl7 _ _)).mono ?_
      rintro e w19 ⟨p19, n19, c19, rfl, hr, hC⟩
      have HK2 := Lib.hid (HK.out.res hC hr)
      clear hC hr HK
      have HK := HK2
      clear HK2
      go_wp2_with fail
      have HS := Lib.hid (fun cx cy => Same_eq _ _ _ _ _ cx cy w19 (show Rd spc 2 w19 (p6) n6 (Spn.nf (dLess (made xs) (made ys))) from HK.out.rd (p6, n6, (Spn.nf (dLess (made xs) (made ys)))) (.tail _ (.tail _ (.tail _ (.tail _ (.tail _ (.tail _ (.tail _ (.head _))))))))) (show Rd spc 2 w19 (p19) n19 (Spn.nf (dLess (made xs) (made ys))) from HK.out.rd (p19, n19, (Spn.nf (dLess (made xs) (made ys)))) (.head _)) (by omega))
      refine (HS.out _ _).mono ?_
      rintro e w20 ⟨rfl, q, hW⟩
      have HK2 := Lib.hid (show Kr w w20 _ by rw [hW]; exact HK.out.drewN q)
      clear HK hW HS q
      have HK := HK2
      clear HK2
      go_wp2_with fail
      go_ret
      exact ⟨rfl, HK.out.ch⟩
    · have e0 : ((j + 1 : Nat) : Int) - 1 = (j : Int) := by omega
      rw [e0]
      have hj : j < n2 := by omega
      obtain ⟨g, o, rfl, hg⟩ := HRA.out.addr (by omega)
      obtain ⟨⟨x, y⟩, ht⟩ : ∃ t, (made xs)[j]? = some t := ⟨(made xs)[j]'(by rw [HRA.out.len]; exact hj), List.getElem?_eq_getElem _⟩
      obtain ⟨c0, c1⟩ := (HRA.out.ch (by rw [HG.out]; exact HC.out)).sp ht
      have HMD := Lib.hid (show ((made xs).drop j).reverse = l ++ [(x, y)] by
        obtain ⟨h1, h2⟩ := List.getElem?_eq_some_iff.1 ht
        rw [List.drop_eq_getElem_cons h1, h2, List.reverse_cons, HL.out])
      clear ht hk e0
      go_wp2_with (at_builtin; refine wpList_append_own _ rfl _ _ 24 rfl G 33 i0 (.agg #[iz 0, iz 0]) 2 16 Tryd.underlying24 hi0 hz0 hz1 hz2 rfl (by decide) u8 l.length (l.flatMap spc) rfl (own_ch HO.out ((Ch.refl _ _ _).alloc (Nat.le_refl _) _) (Nat.le_refl _)) ⟨wr.heap.size, 0, none⟩ 1 1 [iz x, iz y] rfl rfl (sp_news wr x y) (two_one x y) (by unfold maxLen; omega) (by omega) (by have := HWS.out; simp; omega) ?_; intro v' w1 hown' hgr hnil)
      have HO1 := Lib.hid hown'
      have HC1 := Lib.hid ((HC.out.alloc HWS.out (.cells #[iz x, iz y] 33)).trans (ch_own (by have := HWS.out; simp; omega) (own_ch HO.out ((Ch.refl _ _ _).alloc (Nat.le_refl _) _) (Nat.le_refl _)) hgr))
      clear hown' hgr hnil
      go_wp2_with fail
      go_roundw
      case rel =>
        refine ⟨j, l ++ [(x, y)], by omega, by go_num, ?_, HC1.out, HMD.out⟩
        rw [List.length_append, List.flatMap_append]
        exact HO1.out
      case measure => simp [intOf]
end Go.Proofs.YtdpapnfjjmeppaaDoor
