/- SpanSets: the walk. -/
import Derived.Test.YtdpapnfjjmeppaaDoorSt
namespace Go.Proofs.YtdpapnfjjmeppaaDoor
open Go.RowKit Go.Shelf
set_option maxRecDepth 100000 in
set_option maxHeartbeats 8000000 in
theorem sets_core (xs ys : List (Int × Int)) (px py : Option Addr) (nx ny cx cy : Nat) (w : World) (hx : Ra w px nx xs) (hy : Ra w py ny ys) (hnx : nx ≤ 9223372036854775807) (hny : ny ≤ 9223372036854775807) (ht : LenIs w) :
    Calls Tryd.prog 3 #[.slice px nx cx, .slice py ny cy] w (Ya w (.bool true)) := by
  have HX := Lib.hid hx
  have HY := Lib.hid hy
  clear hx hy
  have HT := Lib.hid ht
  have HK := Lib.hid (Kr.nil w)
  clear ht
  go_enter Tryd.func3, Tryd.ntmps3
  go_wp2_with fail
  refine (sanity_any _ (len_ch HT.out HK.out.ch)).mono ?_
  rintro e w1 ⟨rfl, hC⟩
  have HK2 := Lib.hid (HK.out.on hC)
  clear hC HK
  have HK := HK2
  clear HK2
  go_wp2_with fail
  refine (Made_any xs _ _ _ _ (HX.out.ch HK.out.ch) hnx).mono ?_
  rintro e w2 ⟨p2, n2, c2, rfl, hr, hC⟩
  have HK2 := Lib.hid (HK.out.res hC hr)
  clear hC hr HK
  have HK := HK2
  clear HK2
  go_wp2_with fail
  have ha : n2 ≤ 8 := by have h1 := (show Rd spc 2 w2 (p2) n2 (made xs) from HK.out.rd (p2, n2, (made xs)) (.head _)).len; have h2 := made_len xs; omega
  refine (Made_any ys _ _ _ _ (HY.out.ch HK.out.ch) hny).mono ?_
  rintro e w3 ⟨p3, n3, c3, rfl, hr, hC⟩
  have HK2 := Lib.hid (HK.out.res hC hr)
  clear hC hr HK
  have HK := HK2
  clear HK2
  go_wp2_with fail
  have hb : n3 ≤ 8 := by have h1 := (show Rd spc 2 w3 (p3) n3 (made ys) from HK.out.rd (p3, n3, (made ys)) (.head _)).len; have h2 := made_len ys; omega
  refine (Norm_any _ _ _ _ _ (show Rd spc 2 w3 (p2) n2 (made xs) from HK.out.rd (p2, n2, (made xs)) (.tail _ (.head _))) (by omega)).mono ?_
  rintro e w4 ⟨p4, n4, c4, rfl, hr, hC⟩
  have HK2 := Lib.hid (HK.out.res hC hr)
  clear hC hr HK
  have HK := HK2
  clear HK2
  go_wp2_with fail
  refine (refNorm_any _ _ _ _ _ (show Rd spc 2 w4 (p2) n2 (made xs) from HK.out.rd (p2, n2, (made xs)) (.tail _ (.tail _ (.head _)))) (by omega)).mono ?_
  rintro e w5 ⟨p5, n5, c5, rfl, hr, hC⟩
  have HK2 := Lib.hid (HK.out.res hC hr)
  clear hC hr HK
  have HK := HK2
  clear HK2
  go_wp2_with fail
  have hn : n4 ≤ 4000000 := by rw [← (show Rd spc 2 w5 (p4) n4 (Spn.nf (Spn.has (made xs))) from HK.out.rd (p4, n4, (Spn.nf (Spn.has (made xs)))) (.tail _ (.head _))).len]; exact nf_len (Spn.dom_has (made xs))
  have HS := Lib.hid (fun cx cy => Same_eq _ _ _ _ _ cx cy w5 (show Rd spc 2 w5 (p4) n4 (Spn.nf (Spn.has (made xs))) from HK.out.rd (p4, n4, (Spn.nf (Spn.has (made xs)))) (.tail _ (.head _))) (show Rd spc 2 w5 (p5) n5 (Spn.nf (Spn.has (made xs))) from HK.out.rd (p5, n5, (Spn.nf (Spn.has (made xs)))) (.head _)) (by omega))
  refine (HS.out _ _).mono ?_
  rintro e w6 ⟨rfl, q, hW⟩
  have HK2 := Lib.hid (show Kr w w6 _ by rw [hW]; exact HK.out.drewN q)
  clear HK hW hn HS q
  have HK := HK2
  clear HK2
  go_wp2_with fail
  refine (Union_any _ _ _ _ _ _ _ _ _ (show Rd spc 2 w6 (p2) n2 (made xs) from HK.out.rd (p2, n2, (made xs)) (.tail _ (.tail _ (.tail _ (.head _))))) (show Rd spc 2 w6 (p3) n3 (made ys) from HK.out.rd (p3, n3, (made ys)) (.tail _ (.tail _ (.head _)))) (by omega) (by omega)).mono ?_
  rintro e w7 ⟨p7, n7, c7, rfl, hr, hC⟩
  have HK2 := Lib.hid (HK.out.res hC hr)
  clear hC hr HK
  have HK := HK2
  clear HK2
  go_wp2_with fail
  refine (refUnion_any _ _ _ _ _ _ _ _ _ (show Rd spc 2 w7 (p2) n2 (made xs) from HK.out.rd (p2, n2, (made xs)) (.tail _ (.tail _ (.tail _ (.tail _ (.head _)))))) (show Rd spc 2 w7 (p3) n3 (made ys) from HK.out.rd (p3, n3, (made ys)) (.tail _ (.tail _ (.tail _ (.head _))))) (by omega) (by omega)).mono ?_
  rintro e w8 ⟨p8, n8, c8, rfl, hr, hC⟩
  have HK2 := Lib.hid (HK.out.res hC hr)
  clear hC hr HK
  have HK := HK2
  clear HK2
  go_wp2_with fail
  have hn : n7 ≤ 4000000 := by rw [← (show Rd spc 2 w8 (p7) n7 (Spn.nf (dUnion (made xs) (made ys))) from HK.out.rd (p7, n7, (Spn.nf (dUnion (made xs) (made ys)))) (.tail _ (.head _))).len]; exact nf_len (dom_union (made xs) (made ys))
  have HS := Lib.hid (fun cx cy => Same_eq _ _ _ _ _ cx cy w8 (show Rd spc 2 w8 (p7) n7 (Spn.nf (dUnion (made xs) (made ys))) from HK.out.rd (p7, n7, (Spn.nf (dUnion (made xs) (made ys)))) (.tail _ (.head _))) (show Rd spc 2 w8 (p8) n8 (Spn.nf (dUnion (made xs) (made ys))) from HK.out.rd (p8, n8, (Spn.nf (dUnion (made xs) (made ys)))) (.head _)) (by omega))
  refine (HS.out _ _).mono ?_
  rintro e w9 ⟨rfl, q, hW⟩
  have HK2 := Lib.hid (show Kr w w9 _ by rw [hW]; exact HK.out.drewN q)
  clear HK hW hn HS q
  have HK := HK2
  clear HK2
  go_wp2_with fail
  refine (Meet_any _ _ _ _ _ _ _ _ _ (show Rd spc 2 w9 (p2) n2 (made xs) from HK.out.rd (p2, n2, (made xs)) (.tail _ (.tail _ (.tail _ (.tail _ (.tail _ (.head _))))))) (show Rd spc 2 w9 (p3) n3 (made ys) from HK.out.rd (p3, n3, (made ys)) (.tail _ (.tail _ (.tail _ (.tail _ (.head _)))))) (by omega) (by omega)).mono ?_
  rintro e w10 ⟨p10, n10, c10, rfl, hr, hC⟩
  have HK2 := Lib.hid (HK.out.res hC hr)
  clear hC hr HK
  have HK := HK2
  clear HK2
  go_wp2_with fail
  refine (refMeet_any _ _ _ _ _ _ _ _ _ (show Rd spc 2 w10 (p2) n2 (made xs) from HK.out.rd (p2, n2, (made xs)) (.tail _ (.tail _ (.tail _ (.tail _ (.tail _ (.tail _ (.head _)))))))) (show Rd spc 2 w10 (p3) n3 (made ys) from HK.out.rd (p3, n3, (made ys)) (.tail _ (.tail _ (.tail _ (.tail _ (.tail _ (.head _))))))) (by omega) (by omega)).mono ?_
  rintro e w11 ⟨p11, n11, c11, rfl, hr, hC⟩
  have HK2 := Lib.hid (HK.out.res hC hr)
  clear hC hr HK
  have HK := HK2
  clear HK2
  go_wp2_with fail
  have hn : n10 ≤ 4000000 := by rw [← (show Rd spc 2 w11 (p10) n10 (Spn.nf (dMeet (made xs) (made ys))) from HK.out.rd (p10, n10, (Spn.nf (dMeet (made xs) (made ys)))) (.tail _ (.head _))).len]; exact nf_len (dom_meet (made xs) (made ys))
  have HS := Lib.hid (fun cx cy => Same_eq _ _ _ _ _ cx cy w11 (show Rd spc 2 w11 (p10) n10 (Spn.nf (dMeet (made xs) (made ys))) from HK.out.rd (p10, n10, (Spn.nf (dMeet (made xs) (made ys)))) (.tail _ (.head _))) (show Rd spc 2 w11 (p11) n11 (Spn.nf (dMeet (made xs) (made ys))) from HK.out.rd (p11, n11, (Spn.nf (dMeet (made xs) (made ys)))) (.head _)) (by omega))
  refine (HS.out _ _).mono ?_
  rintro e w12 ⟨rfl, q, hW⟩
  have HK2 := Lib.hid (show Kr w w12 _ by rw [hW]; exact HK.out.drewN q)
  clear HK hW hn HS q
  have HK := HK2
  clear HK2
  go_wp2_with fail
  refine (Less_any _ _ _ _ _ _ _ _ _ (show Rd spc 2 w12 (p2) n2 (made xs) from HK.out.rd (p2, n2, (made xs)) (.tail _ (.tail _ (.tail _ (.tail _ (.tail _ (.tail _ (.tail _ (.head _))))))))) (show Rd spc 2 w12 (p3) n3 (made ys) from HK.out.rd (p3, n3, (made ys)) (.tail _ (.tail _ (.tail _ (.tail _ (.tail _ (.tail _ (.head _)))))))) (by omega) (by omega)).mono ?_
  rintro e w13 ⟨p13, n13, c13, rfl, hr, hC⟩
  have HK2 := Lib.hid (HK.out.res hC hr)
  clear hC hr HK
  have HK := HK2
  clear HK2
  go_wp2_with fail
  refine (refLess_any _ _ _ _ _ _ _ _ _ (show Rd spc 2 w13 (p2) n2 (made xs) from HK.out.rd (p2, n2, (made xs)) (.tail _ (.tail _ (.tail _ (.tail _ (.tail _ (.tail _ (.tail _ (.tail _ (.head _)))))))))) (show Rd spc 2 w13 (p3) n3 (made ys) from HK.out.rd (p3, n3, (made ys)) (.tail _ (.tail _ (.tail _ (.tail _ (.tail _ (.tail _ (.tail _ (.head _))))))))) (by omega) (by omega)).mono ?_
  rintro e w14 ⟨p14, n14, c14, rfl, hr, hC⟩
  have HK2 := Lib.hid (HK.out.res hC hr)
  clear hC hr HK
  have HK := HK2
  clear HK2
  go_wp2_with fail
  have hn : n13 ≤ 4000000 := by rw [← (show Rd spc 2 w14 (p13) n13 (Spn.nf (dLess (made xs) (made ys))) from HK.out.rd (p13, n13, (Spn.nf (dLess (made xs) (made ys)))) (.tail _ (.head _))).len]; exact nf_len (dom_less (made xs) (made ys))
  have HS := Lib.hid (fun cx cy => Same_eq _ _ _ _ _ cx cy w14 (show Rd spc 2 w14 (p13) n13 (Spn.nf (dLess (made xs) (made ys))) from HK.out.rd (p13, n13, (Spn.nf (dLess (made xs) (made ys)))) (.tail _ (.head _))) (show Rd spc 2 w14 (p14) n14 (Spn.nf (dLess (made xs) (made ys))) from HK.out.rd (p14, n14, (Spn.nf (dLess (made xs) (made ys)))) (.head _)) (by omega))
  refine (HS.out _ _).mono ?_
  rintro e w15 ⟨rfl, q, hW⟩
  have HK2 := Lib.hid (show Kr w w15 _ by rw [hW]; exact HK.out.drewN q)
  clear HK hW hn HS q
  have HK := HK2
  clear HK2
  go_wp2_with fail
  go_ret
  exact ⟨rfl, HK.out.ch⟩
end Go.Proofs.YtdpapnfjjmeppaaDoor
