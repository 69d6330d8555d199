/- The reference of layer 4: Weights; rows of one's own; triples that came in. -/
import Derived.Test.YtkeomlpecjjhiaaGreatDoorWs
import Derived.Laws.OwnMore
import Derived.Deep.Slices
namespace Go.Proofs.YtkeomlpecjjhiaaGreatDoor
open Go.RowKit Go.Shelf
theorem ch_own {w w' : World} {B n size : Nat} {e : TypeId} {v : Value} {xs : List Value} (hB : B ≤ w.heap.size) (ho : w.ownsRow B e size v n xs) (h : w.grownBy w' v.ownBlock) : Ch B none1 w w' :=
 ⟨h.os, h.tape, h.output, h.size, fun k hk _ => h.block k (by omega) (fun q => by
  rcases ho.2 with ⟨hv, _⟩ | ⟨g, cap, cur, hv, hb, _⟩
  ·rw [hv] at q; cases q
  ·rw [hv] at q; simp [Value.ownBlock] at q; omega)⟩
theorem own_keep {w w' : World} {B n size : Nat} {e : TypeId} {v : Value} {xs : List Value} (h : w.ownsRow B e size v n xs) (hk : ∀ g, v.ownBlock = some g → w'.heap[g]? = w.heap[g]?) : w'.ownsRow B e size v n xs := by
 obtain ⟨h1, h2 | ⟨g, cap, cur, hv, hb, hg, hr⟩⟩ := h
 ·exact ⟨h1, .inl h2⟩
 ·exact ⟨h1, .inr ⟨g, cap, cur, hv, hb, by rw [hk g (by rw [hv]; rfl)]; exact hg, hr⟩⟩
theorem own_lt {w : World} {B n size : Nat} {e : TypeId} {v : Value} {xs : List Value} (h : w.ownsRow B e size v n xs) : ∀ g, v.ownBlock = some g → B ≤ g ∧ g < w.heap.size := fun g hg => by
 obtain ⟨_, ⟨hv, _⟩ | ⟨g', cap, cur, hv, hb, hg', _⟩⟩ := h
 ·rw [hv] at hg; cases hg
 ·rw [hv] at hg
  simp [Value.ownBlock] at hg
  subst hg
  exact ⟨hb, (Array.getElem?_eq_some_iff.1 hg').1⟩
theorem own_ch {w w' : World} {B C n size : Nat} {e : TypeId} {v : Value} {xs : List Value} (h : w.ownsRow B e size v n xs) (hC : Ch C none1 w w') (hlt : w.heap.size ≤ C) : w'.ownsRow B e size v n xs :=
 own_keep h fun g hg => hC.block g (by have := (own_lt h g hg).2; omega) (fun q => q)
theorem own_nil (w : World) (B : Nat) (e : TypeId) (size : Nat) : w.ownsRow B e size (.slice none 0 0) 0 [] := ⟨by simp, .inl ⟨rfl, rfl⟩⟩
theorem own_val {w : World} {B n size : Nat} {e : TypeId} {v : Value} {xs : List Value} (h : w.ownsRow B e size v n xs) : ∃ p c, v = .slice p n c := by
 obtain ⟨_, ⟨hv, h0⟩ | ⟨g, cap, cur, hv, _⟩⟩ := h
 ·exact ⟨_, _, by rw [hv, h0]⟩
 ·exact ⟨_, _, hv⟩
theorem Rs.own {w : World} {base n : Nat} {e : TypeId} {p : Option Addr} {m c : Nat} {l : List T3} (h : w.ownsRow base e 3 (.slice p m c) n (rcs l)) (hn : l.length = n) : m = n ∧ Rs w p m l := by
 obtain ⟨_, h | ⟨g, cap, cur, hv, hb, hg, hlt, hm, hs, ht⟩⟩ := h
 ·obtain ⟨hv, h0⟩ := h
  simp only [Value.slice.injEq] at hv
  obtain ⟨rfl, rfl, rfl⟩ := hv
  have : l = [] := List.length_eq_zero_iff.1 (by omega)
  subst this
  exact ⟨by omega, Rs.none w⟩
 ·simp only [Value.slice.injEq] at hv
  obtain ⟨rfl, rfl, rfl⟩ := hv
  have hB : Blk w g e (rcs l ++ cur.toList.drop (m * 3)) := by unfold Blk; rw [← ht, List.take_append_drop]; simpa using hg
  exact ⟨rfl, hn, fun q => by simp at q, fun a ha => by
   obtain rfl := Option.some.inj ha
   exact ⟨rfl, e, [], cur.toList.drop (m * 3), by simpa using hB, rfl⟩⟩
abbrev i64q (x : Int) : Prop := -9223372036854775808 ≤ x ∧ x ≤ 9223372036854775807
structure Ti (w : World) (p : Option Addr) (n : Nat) (l : List (Int × Int × Int)) : Prop where
 len : l.length = n
 bd : ∀ x ∈ l, i64q x.1 ∧ i64q x.2.1 ∧ i64q x.2.2
 rd : 0 < n → ∃ g o, p = some ⟨g, o, none⟩ ∧ g < w.heap.size ∧ ∀ i x, l[i]? = some x → w.cell? ⟨g, o + i * 3, none⟩ = some (.int .i64 x.1) ∧ w.cell? ⟨g, o + i * 3 + 1, none⟩ = some (.int .i64 x.2.1) ∧ w.cell? ⟨g, o + i * 3 + 2, none⟩ = some (.int .i64 x.2.2)
theorem Ti.ch {w w' : World} {p : Option Addr} {n : Nat} {l : List (Int × Int × Int)} (h : Ti w p n l) (hC : Ch w.heap.size none1 w w') : Ti w' p n l :=
 ⟨h.len, h.bd, fun hn => by
  obtain ⟨g, o, rfl, hg, hx⟩ := h.rd hn
  refine ⟨g, o, rfl, Nat.lt_of_lt_of_le hg hC.size, fun i x hi => ?_⟩
  obtain ⟨a, b, c⟩ := hx i x hi
  exact ⟨by rw [hC.cell (p := ⟨g, o + i * 3, none⟩) hg (fun q => q)]; exact a, by rw [hC.cell (p := ⟨g, o + i * 3 + 1, none⟩) hg (fun q => q)]; exact b, by rw [hC.cell (p := ⟨g, o + i * 3 + 2, none⟩) hg (fun q => q)]; exact c⟩⟩
theorem rat_info : (Tryz.prog.info? 26).map (fun i => (i.zero, i.size, i.bytes)) = some (some (.agg #[.bool false, S [], S []]), 3, 40) := by kernel_rfl
theorem rat_news (W : World) (t : T3) : ∀ (j : Nat) (u : Value), (rc t)[j]? = some u → (W.alloc (.cells #[.bool t.1, S t.2.1, S t.2.2] 26 (0, 0))).cell? ((⟨W.heap.size, 0, none⟩ : Addr).add j) = some u := by
 intro j u h
 exact (Blk.new W #[.bool t.1, S t.2.1, S t.2.2] 26).adds j u h
theorem rc_one (t : T3) : ∀ u ∈ rc t, u.oneCell' = true := by
 have := rcs_one [t]
 simpa [rcs] using this
def abq (q : Rat) : Rat := if q < 0 then -q else q
def mkw (x : Int × Int × Int) : T3 := pt (abq (mdq x.1 x.2.1 x.2.2))
def weights3 (l : List (Int × Int × Int)) : List T3 := (l.take 8).map mkw
theorem weights3_len (l : List (Int × Int × Int)) : (weights3 l).length ≤ 8 := by unfold weights3; rw [List.length_map, List.length_take]; omega
def Yw (w : World) (l : List T3) (e : Ending) (w' : World) : Prop := ∃ p n c, e = .returned (.slice p n c) ∧ Rs w' p n l ∧ Ch w.heap.size none1 w w'
set_option maxRecDepth 100000 in
set_option maxHeartbeats 6400000 in
theorem Weights_any (xs : List (Int × Int × Int)) (p : Option Addr) (n c : Nat) (w : World) (h : Ti w p n xs) (hn : n ≤ 9223372036854775807) :
  Calls Tryz.prog 34 #[.slice p n c] w (Yw w (weights3 xs)) := by
 have HX := Lib.hid h
 clear h
 obtain ⟨i0, hi0, hz0, hz1, hz2⟩ := info_parts rat_info
 obtain ⟨G, hG⟩ : ∃ G, w.heap.size = G := ⟨_, rfl⟩
 have HG := Lib.hid hG
 clear hG
 go_enter Tryz.func34, Tryz.ntmps34
 go_wp2_with fail
 go_loopw [3, 4] (fun v b wr => ∃ (k : Nat) (l : List T3), (k ≤ n ∧ k ≤ 8) ∧ b = .int .i64 k ∧ wr.ownsRow G 26 3 v l.length (rcs l) ∧ Ch G none1 w wr ∧ (xs.take k).map mkw = l) (fun _ b _ => 8 - (intOf b).toNat)
 case atStart => exact ⟨0, [], ⟨Nat.zero_le _, Nat.zero_le _⟩, rfl, own_nil _ _ _ _, Ch.refl _ _ _, rfl⟩
 case round =>
  obtain ⟨k, l, ⟨hk, hk8⟩, rfl, hown, hC, hl⟩ := hrel
  have HO := Lib.hid hown
  have HC := Lib.hid hC
  have HL := Lib.hid hl
  have HWS := Lib.hid (show G ≤ wr.heap.size by have := hC.size; rw [HG.out] at this; exact this)
  have hll : l.length ≤ 8 := by rw [← hl, List.length_map, List.length_take]; omega
  clear hown hC hl
  by_cases hlt : k < n
  ·by_cases hlt8 : k < 8
   ·obtain ⟨⟨x, y, z⟩, ht⟩ : ∃ t, xs[k]? = some t := ⟨xs[k]'(by rw [HX.out.len]; exact hlt), List.getElem?_eq_getElem _⟩
    obtain ⟨hbx, hby, hbz⟩ := HX.out.bd _ (List.mem_of_getElem? ht)
    try simp only at hbx hby hbz
    obtain ⟨g, o, rfl, hg, hcs⟩ := (HX.out.ch (by rw [HG.out]; exact HC.out)).rd (by omega)
    obtain ⟨c0, c1, c2⟩ := hcs k _ ht
    try simp only at c0 c1 c2
    have hmd : (xs.take (k + 1)).map mkw = (xs.take k).map mkw ++ [mkw (x, y, z)] := by rw [List.take_add_one, ht]; simp
    have H1 := Lib.hid (fun W => made_any x y z W hbx hby hbz)
    have hsz := mdq_size x y z
    have hab : mkw (x, y, z) = pt (abq (mdq x y z)) := rfl
    rw [hab] at hmd
    obtain ⟨q, hq⟩ : ∃ q, mdq x y z = q := ⟨_, rfl⟩
    rw [hq] at H1 hsz hmd
    have ip := pt_is q
    obtain ⟨⟨s, nn, d⟩, hpq⟩ : ∃ t, pt q = t := ⟨_, rfl⟩
    rw [hpq] at H1 ip
    simp only at H1 ip
    obtain ⟨l1, l2⟩ := hsz.len ip
    rcases s with _ | _
    ·have hnl := nneg_lt ip.sgn
     obtain ⟨r, kk, ff, hr, rfl, rfl⟩ : ∃ r kk ff, r = false ∧ kk = nn ∧ ff = d := ⟨_, _, _, rfl, rfl, rfl⟩
     rw [← hr] at H1
     have hrb : r = false := hr
     have HMD := Lib.hid (show (xs.take (k + 1)).map mkw = l ++ [(r, kk, ff)] by rw [hmd, HL.out, hr, ← hpq]; unfold abq; rw [if_neg hnl])
     clear hq hmd ht hcs hbx hby hbz hab hpq hnl ip l1 l2 hsz hrb
     subst hr
     go_wp2_with fail
     refine (H1.out _).mono ?_
     rintro e wq ⟨rfl, hCq⟩
     have HCQ := Lib.hid (HC.out.trans (hCq.mono HWS.out (fun _ _ q => q)))
     have HOQ := Lib.hid (own_ch HO.out hCq (Nat.le_refl _))
     have HWQ := Lib.hid (Nat.le_trans HWS.out hCq.size)
     clear hCq c0 c1 c2
     go_upto_region 8 with fail
     have HKA := Lib.hid ((Kq.nil wq).new #[.bool false, S kk, S ff] 26)
     obtain ⟨V, hV⟩ : ∃ V, wq.alloc (.cells #[.bool false, S kk, S ff] 26 (0, 0)) = V := ⟨_, rfl⟩
     rw [hV] at HKA ⊢
     obtain ⟨A, hA⟩ : ∃ A, wq.heap.size = A := ⟨_, rfl⟩
     rw [hA] at HKA ⊢
     have HWQ2 := Lib.hid (show G ≤ A by rw [← hA]; exact HWQ.out)
     clear hA hV
     have HOV := Lib.hid (own_ch HOQ.out HKA.out.ch (Nat.le_refl _))
     have HCV := Lib.hid (HCQ.out.trans (HKA.out.ch.mono HWQ.out (fun _ _ q => q)))
     have HWV := Lib.hid (Nat.le_trans HWQ.out HKA.out.ch.size)
     obtain ⟨cA0, cA1, cA2⟩ : V.cell? ⟨A, 0, none⟩ = some (.bool false) ∧ V.cell? ⟨A, 1, none⟩ = some (S kk) ∧ V.cell? ⟨A, 2, none⟩ = some (S ff) := ⟨(HKA.out.row _ mm0).cell 0, (HKA.out.row _ mm0).cell 1, (HKA.out.row _ mm0).cell 2⟩
     clear HKA
     go_wp2_with (at_builtin; refine wpList_append_own _ rfl _ _ 32 rfl G 26 i0 (.agg #[.bool false, S [], S []]) 3 40 Tryz.underlying32 hi0 hz0 hz1 hz2 rfl (by decide) u3 l.length (rcs l) rfl (own_ch HOV.out ((Ch.refl _ _ _).alloc (Nat.le_refl _) _) (Nat.le_refl _)) ⟨V.heap.size, 0, none⟩ 1 1 (rc (false, kk, ff)) rfl rfl (rat_news V (false, kk, ff)) (rc_one (false, kk, ff)) (by unfold maxLen; omega) (by omega) (by have := HWV.out; simp; omega) ?_; intro v' w1 hown' hgr hnil)
     have HO1 := Lib.hid hown'
     have HC1 := Lib.hid ((HCV.out.alloc HWV.out (.cells #[.bool false, S kk, S ff] 26)).trans (ch_own (by have := HWV.out; simp; omega) (own_ch HOV.out ((Ch.refl _ _ _).alloc (Nat.le_refl _) _) (Nat.le_refl _)) hgr))
     clear hown' hgr hnil cA0 cA1 cA2
     go_wp2_with fail
     go_roundw
     case rel =>
      refine ⟨k + 1, l ++ [(false, kk, ff)], by omega, by go_num, ?_, HC1.out, HMD.out⟩
      rw [List.length_append, rcs_append]
      exact HO1.out
     case measure => simp [intOf]; omega
    ·have hnl := neg_lt ip.sgn
     have i2 := pt_is (-q)
     obtain ⟨⟨r, kk, ff⟩, hp2⟩ : ∃ t, pt (-q) = t := ⟨_, rfl⟩
     rw [hp2] at i2
     simp only at i2
     have H2 := Lib.hid (C_rNeg (s := true) (n := nn) (d := d) (by omega) (by omega) (ratOf_is ip) i2)
     have HMD := Lib.hid (show (xs.take (k + 1)).map mkw = l ++ [(r, kk, ff)] by rw [hmd, HL.out, ← hp2]; unfold abq; rw [if_pos hnl])
     clear hq hmd ht hcs hbx hby hbz hab hpq hnl ip l1 l2 hsz i2 hp2
     go_wp2_with fail
     refine (H1.out _).mono ?_
     rintro e wq ⟨rfl, hCq⟩
     have HCQ := Lib.hid (HC.out.trans (hCq.mono HWS.out (fun _ _ q => q)))
     have HOQ := Lib.hid (own_ch HO.out hCq (Nat.le_refl _))
     have HWQ := Lib.hid (Nat.le_trans HWS.out hCq.size)
     clear hCq c0 c1 c2
     go_wp2_with fail
     have HKA := Lib.hid ((Kq.nil wq).new #[.bool true, S nn, S d] 26)
     obtain ⟨A, hA⟩ : ∃ A, wq.heap.size = A := ⟨_, rfl⟩
     rw [hA] at HKA ⊢
     refine (H2.out _).mono ?_
     rintro e wn ⟨rfl, hCn⟩
     have HK2 := Lib.hid (HKA.out.on hCn)
     clear hCn HKA
     have e0 := (HK2.out.row _ mm0).cell 0
     have f0 := (HK2.out.row _ mm0).frozen 0
     have e1 := (HK2.out.row _ mm0).cell 1
     have f1 := (HK2.out.row _ mm0).frozen 1
     have e2 := (HK2.out.row _ mm0).cell 2
     have f2 := (HK2.out.row _ mm0).frozen 2
     simp only [List.getElem?_cons_zero, List.getElem?_cons_succ] at e0 e1 e2
     go_upto_region 8 with fail
     clear e0 e1 e2 f0 f1 f2
     have HKA := Lib.hid (HK2.out.put3 (by rw [hA]; exact Nat.le_refl _) (fun p hp => by cases hp) (.bool r) (S kk) (S ff))
     obtain ⟨V, hV⟩ : ∃ V, (((wn.setCell ⟨A, 0, none⟩ (.bool r)).setCell ⟨A, 1, none⟩ (S kk)).setCell ⟨A, 2, none⟩ (S ff)) = V := ⟨_, rfl⟩
     rw [hV] at HKA ⊢
     clear hA hV HK2
     have HOV := Lib.hid (own_ch HOQ.out HKA.out.ch (Nat.le_refl _))
     have HCV := Lib.hid (HCQ.out.trans (HKA.out.ch.mono HWQ.out (fun _ _ q => q)))
     have HWV := Lib.hid (Nat.le_trans HWQ.out HKA.out.ch.size)
     obtain ⟨cA0, cA1, cA2⟩ : V.cell? ⟨A, 0, none⟩ = some (.bool r) ∧ V.cell? ⟨A, 1, none⟩ = some (S kk) ∧ V.cell? ⟨A, 2, none⟩ = some (S ff) := ⟨(HKA.out.row _ mm0).cell 0, (HKA.out.row _ mm0).cell 1, (HKA.out.row _ mm0).cell 2⟩
     clear HKA
     go_wp2_with (at_builtin; refine wpList_append_own _ rfl _ _ 32 rfl G 26 i0 (.agg #[.bool false, S [], S []]) 3 40 Tryz.underlying32 hi0 hz0 hz1 hz2 rfl (by decide) u3 l.length (rcs l) rfl (own_ch HOV.out ((Ch.refl _ _ _).alloc (Nat.le_refl _) _) (Nat.le_refl _)) ⟨V.heap.size, 0, none⟩ 1 1 (rc (r, kk, ff)) rfl rfl (rat_news V (r, kk, ff)) (rc_one (r, kk, ff)) (by unfold maxLen; omega) (by omega) (by have := HWV.out; simp; omega) ?_; intro v' w1 hown' hgr hnil)
     have HO1 := Lib.hid hown'
     have HC1 := Lib.hid ((HCV.out.alloc HWV.out (.cells #[.bool r, S kk, S ff] 26)).trans (ch_own (by have := HWV.out; simp; omega) (own_ch HOV.out ((Ch.refl _ _ _).alloc (Nat.le_refl _) _) (Nat.le_refl _)) hgr))
     clear hown' hgr hnil cA0 cA1 cA2
     go_wp2_with fail
     go_roundw
     case rel =>
      refine ⟨k + 1, l ++ [(r, kk, ff)], by omega, by go_num, ?_, HC1.out, HMD.out⟩
      rw [List.length_append, rcs_append]
      exact HO1.out
     case measure => simp [intOf]; omega
   ·obtain rfl : k = 8 := by omega
    obtain ⟨pp, cc, rfl⟩ := own_val HO.out
    obtain ⟨_, HR⟩ := Rs.own HO.out rfl
    have HRR := Lib.hid HR
    have HF := Lib.hid (show l = weights3 xs from HL.out.symm)
    clear HR
    go_wp2_with fail
    go_ret
    exact ⟨pp, _, cc, rfl, HF.out ▸ HRR.out, by rw [HG.out]; exact HC.out⟩
  ·obtain rfl : k = n := by omega
   obtain ⟨pp, cc, rfl⟩ := own_val HO.out
   obtain ⟨_, HR⟩ := Rs.own HO.out rfl
   have HRR := Lib.hid HR
   have HF := Lib.hid (show l = weights3 xs by rw [← HL.out]; unfold weights3; rw [List.take_of_length_le (l := xs) (i := 8) (by rw [HX.out.len]; exact hk8), List.take_of_length_le (by rw [HX.out.len]; exact Nat.le_refl _)])
   clear HR
   go_wp2_with fail
   go_ret
   exact ⟨pp, _, cc, rfl, HF.out ▸ HRR.out, by rw [HG.out]; exact HC.out⟩
end Go.Proofs.YtkeomlpecjjhiaaGreatDoor
