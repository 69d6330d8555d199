/- The reference model of layer 2: List; slices of one's own, triples that came in. -/
import Derived.Test.YtbpoghgokkpckaaGreatDoorQx
import Derived.Test.YtbpoghgokkpckaaGreatDoorQw
import Derived.Laws.OwnMore
import Derived.Deep.Slices
namespace Go.Proofs.YtbpoghgokkpckaaGreatDoor
open Go.RowKit Go.Shelf
theorem ch_own {w w' : World} {B n size : Nat} {e : TypeId} {v : Value} {xs : List Value} (hB : B ≤ w.heap.size) (ho : w.ownsRow B e size v n xs) (h : w.grownBy w' v.ownBlock) : Ch B none1 w w' :=
  ⟨h.os, h.tape, h.output, h.size, fun k hk _ => h.block k (by omega) (fun q => by
    rcases ho.2 with ⟨hv, _⟩ | ⟨g, cap, cur, hv, hb, _⟩
    · rw [hv] at q; cases q
    · rw [hv] at q; simp [Value.ownBlock] at q; omega)⟩
theorem own_keep {w w' : World} {B n size : Nat} {e : TypeId} {v : Value} {xs : List Value} (h : w.ownsRow B e size v n xs) (hk : ∀ g, v.ownBlock = some g → w'.heap[g]? = w.heap[g]?) : w'.ownsRow B e size v n xs := by
  obtain ⟨h1, h2 | ⟨g, cap, cur, hv, hb, hg, hr⟩⟩ := h
  · exact ⟨h1, .inl h2⟩
  · exact ⟨h1, .inr ⟨g, cap, cur, hv, hb, by rw [hk g (by rw [hv]; rfl)]; exact hg, hr⟩⟩
theorem own_lt {w : World} {B n size : Nat} {e : TypeId} {v : Value} {xs : List Value} (h : w.ownsRow B e size v n xs) : ∀ g, v.ownBlock = some g → B ≤ g ∧ g < w.heap.size := fun g hg => by
  obtain ⟨_, ⟨hv, _⟩ | ⟨g', cap, cur, hv, hb, hg', _⟩⟩ := h
  · rw [hv] at hg; cases hg
  · rw [hv] at hg
    simp [Value.ownBlock] at hg
    subst hg
    exact ⟨hb, (Array.getElem?_eq_some_iff.1 hg').1⟩
theorem own_ch {w w' : World} {B C n size : Nat} {e : TypeId} {v : Value} {xs : List Value} (h : w.ownsRow B e size v n xs) (hC : Ch C none1 w w') (hlt : w.heap.size ≤ C) : w'.ownsRow B e size v n xs :=
  own_keep h fun g hg => hC.block g (by have := (own_lt h g hg).2; omega) (fun q => q)
theorem own_nil (w : World) (B : Nat) (e : TypeId) (size : Nat) : w.ownsRow B e size (.slice none 0 0) 0 [] := ⟨by simp, .inl ⟨rfl, rfl⟩⟩
theorem own_val {w : World} {B n size : Nat} {e : TypeId} {v : Value} {xs : List Value} (h : w.ownsRow B e size v n xs) : ∃ p c, v = .slice p n c := by
  obtain ⟨_, ⟨hv, h0⟩ | ⟨g, cap, cur, hv, _⟩⟩ := h
  · exact ⟨_, _, by rw [hv, h0]⟩
  · exact ⟨_, _, hv⟩
theorem Rs.own {w : World} {base n : Nat} {e : TypeId} {p : Option Addr} {m c : Nat} {l : List T3} (h : w.ownsRow base e 3 (.slice p m c) n (rcs l)) (hn : l.length = n) : m = n ∧ Rs w p m l := by
  obtain ⟨_, h | ⟨g, cap, cur, hv, hb, hg, hlt, hm, hs, ht⟩⟩ := h
  · obtain ⟨hv, h0⟩ := h
    simp only [Value.slice.injEq] at hv
    obtain ⟨rfl, rfl, rfl⟩ := hv
    have : l = [] := List.length_eq_zero_iff.1 (by omega)
    subst this
    exact ⟨by omega, Rs.none w⟩
  · simp only [Value.slice.injEq] at hv
    obtain ⟨rfl, rfl, rfl⟩ := hv
    have hB : Blk w g e (rcs l ++ cur.toList.drop (m * 3)) := by unfold Blk; rw [← ht, List.take_append_drop]; simpa using hg
    exact ⟨rfl, hn, fun q => by simp at q, fun a ha => by
      obtain rfl := Option.some.inj ha
      exact ⟨rfl, e, [], cur.toList.drop (m * 3), by simpa using hB, rfl⟩⟩
theorem Vs.own {w : World} {base n : Nat} {e : TypeId} {p : Option Addr} {m c : Nat} {l : List Value} (h : w.ownsRow base e 1 (.slice p m c) n l) : m = n ∧ Vs w p m l := by
  obtain ⟨h1, h | ⟨g, cap, cur, hv, hb, hg, hlt, hm, hs, ht⟩⟩ := h
  · obtain ⟨hv, h0⟩ := h
    simp only [Value.slice.injEq] at hv
    obtain ⟨rfl, rfl, rfl⟩ := hv
    have : l = [] := List.length_eq_zero_iff.1 (by omega)
    subst this
    exact ⟨by omega, rfl, fun _ => rfl, fun a ha => by simp at ha⟩
  · simp only [Value.slice.injEq] at hv
    obtain ⟨rfl, rfl, rfl⟩ := hv
    have hB : Blk w g e (l ++ cur.toList.drop (m * 1)) := by unfold Blk; rw [← ht, List.take_append_drop]; simpa using hg
    exact ⟨rfl, by omega, fun q => by simp at q, fun a ha => by
      obtain rfl := Option.some.inj ha
      exact ⟨rfl, e, [], cur.toList.drop (m * 1), by simpa using hB, rfl⟩⟩
abbrev i64q (x : Int) : Prop := -9223372036854775808 ≤ x ∧ x ≤ 9223372036854775807
/-- A slice of triples that comes in. -/
structure Ti (w : World) (p : Option Addr) (n : Nat) (l : List (Int × Int × Int)) : Prop where
  len : l.length = n
  bd : ∀ x ∈ l, i64q x.1 ∧ i64q x.2.1 ∧ i64q x.2.2
  rd : 0 < n → ∃ g o, p = some ⟨g, o, none⟩ ∧ g < w.heap.size ∧ ∀ i x, l[i]? = some x → w.cell? ⟨g, o + i * 3, none⟩ = some (.int .i64 x.1) ∧ w.cell? ⟨g, o + i * 3 + 1, none⟩ = some (.int .i64 x.2.1) ∧ w.cell? ⟨g, o + i * 3 + 2, none⟩ = some (.int .i64 x.2.2)
theorem Ti.ch {w w' : World} {p : Option Addr} {n : Nat} {l : List (Int × Int × Int)} (h : Ti w p n l) (hC : Ch w.heap.size none1 w w') : Ti w' p n l :=
  ⟨h.len, h.bd, fun hn => by
    obtain ⟨g, o, rfl, hg, hx⟩ := h.rd hn
    refine ⟨g, o, rfl, Nat.lt_of_lt_of_le hg hC.size, fun i x hi => ?_⟩
    obtain ⟨a, b, c⟩ := hx i x hi
    exact ⟨by rw [hC.cell (p := ⟨g, o + i * 3, none⟩) hg (fun q => q)]; exact a, by rw [hC.cell (p := ⟨g, o + i * 3 + 1, none⟩) hg (fun q => q)]; exact b, by rw [hC.cell (p := ⟨g, o + i * 3 + 2, none⟩) hg (fun q => q)]; exact c⟩⟩
def mk3 (x : Int × Int × Int) : T3 := pt (mdq x.1 x.2.1 x.2.2)
def made3 (l : List (Int × Int × Int)) : List T3 := (l.take 12).map mk3
theorem made3_len (l : List (Int × Int × Int)) : (made3 l).length ≤ 12 := by unfold made3; rw [List.length_map, List.length_take]; omega
def Yr (w : World) (l : List T3) (e : Ending) (w' : World) : Prop := ∃ p n c, e = .returned (.slice p n c) ∧ Rs w' p n l ∧ Ch w.heap.size none1 w w'
theorem rat_info : (Tryz.prog.info? 25).map (fun i => (i.zero, i.size, i.bytes)) = some (some (.agg #[.bool false, S [], S []]), 3, 40) := by kernel_rfl
theorem nat_info : (Tryz.prog.info? 23).map (fun i => (i.zero, i.size, i.bytes)) = some (some (S []), 1, 16) := by kernel_rfl
theorem rat_news (W : World) (t : T3) : ∀ (j : Nat) (u : Value), (rc t)[j]? = some u → (W.alloc (.cells #[.bool t.1, S t.2.1, S t.2.2] 25 (0, 0))).cell? ((⟨W.heap.size, 0, none⟩ : Addr).add j) = some u := by
  intro j u h
  exact (Blk.new W #[.bool t.1, S t.2.1, S t.2.2] 25).adds j u h
theorem rc_one (t : T3) : ∀ u ∈ rc t, u.oneCell' = true := by
  have := rcs_one [t]
  simpa [rcs] using this
set_option maxRecDepth 100000 in
set_option maxHeartbeats 6400000 in
theorem rList_any (xs : List (Int × Int × Int)) (p : Option Addr) (n c : Nat) (w : World) (h : Ti w p n xs) (hn : n ≤ 9223372036854775807) :
    Calls Tryz.prog 5 #[.slice p n c] w (Yr w (made3 xs)) := by
  have HX := Lib.hid h
  clear h
  obtain ⟨i0, hi0, hz0, hz1, hz2⟩ := info_parts rat_info
  obtain ⟨G, hG⟩ : ∃ G, w.heap.size = G := ⟨_, rfl⟩
  have HG := Lib.hid hG
  clear hG
  go_enter Tryz.func5, Tryz.ntmps5
  go_wp2_with fail
  go_loopw [3, 4] (fun v b wr => ∃ (k : Nat) (l : List T3), (k ≤ n ∧ k ≤ 12) ∧ b = .int .i64 k ∧ wr.ownsRow G 25 3 v l.length (rcs l) ∧ Ch G none1 w wr ∧ (xs.take k).map mk3 = l) (fun _ b _ => 12 - (intOf b).toNat)
  case atStart => exact ⟨0, [], ⟨Nat.zero_le _, Nat.zero_le _⟩, rfl, own_nil _ _ _ _, Ch.refl _ _ _, rfl⟩
  case round =>
    obtain ⟨k, l, ⟨hk, hk8⟩, rfl, hown, hC, hl⟩ := hrel
    have HO := Lib.hid hown
    have HC := Lib.hid hC
    have HL := Lib.hid hl
    have HWS := Lib.hid (show G ≤ wr.heap.size by have := hC.size; rw [HG.out] at this; exact this)
    have hll : l.length ≤ 12 := by rw [← hl, List.length_map, List.length_take]; omega
    clear hown hC hl
    by_cases hlt : k < n
    · by_cases hlt8 : k < 12
      · obtain ⟨⟨x, y, z⟩, ht⟩ : ∃ t, xs[k]? = some t := ⟨xs[k]'(by rw [HX.out.len]; exact hlt), List.getElem?_eq_getElem _⟩
        obtain ⟨hbx, hby, hbz⟩ := HX.out.bd _ (List.mem_of_getElem? ht)
        try simp only at hbx hby hbz
        obtain ⟨g, o, rfl, hg, hcs⟩ := (HX.out.ch (by rw [HG.out]; exact HC.out)).rd (by omega)
        obtain ⟨c0, c1, c2⟩ := hcs k _ ht
        try simp only at c0 c1 c2
        have hmd : (xs.take (k + 1)).map mk3 = (xs.take k).map mk3 ++ [mk3 (x, y, z)] := by rw [List.take_add_one, ht]; simp
        have H1 := Lib.hid (fun W => made_any x y z W hbx hby hbz)
        obtain ⟨t, hte⟩ : ∃ t, pt (mdq x y z) = t := ⟨_, rfl⟩
        rw [hte] at H1
        have HMD := Lib.hid (show (xs.take (k + 1)).map mk3 = l ++ [t] by rw [hmd, HL.out, ← hte]; rfl)
        obtain ⟨s, nn, d⟩ := t
        try simp only at H1
        clear hte hmd ht hcs hbx hby hbz
        go_wp2_with fail
        refine (H1.out _).mono ?_
        rintro e wq ⟨rfl, hCq⟩
        have HCQ := Lib.hid (HC.out.trans (hCq.mono HWS.out (fun _ _ q => q)))
        have HOQ := Lib.hid (own_ch HO.out hCq (Nat.le_refl _))
        have HWQ := Lib.hid (Nat.le_trans HWS.out hCq.size)
        clear hCq c0 c1 c2
        go_wp2_with (at_builtin; refine wpList_append_own _ rfl _ _ 27 rfl G 25 i0 (.agg #[.bool false, S [], S []]) 3 40 Tryz.underlying27 hi0 hz0 hz1 hz2 rfl (by decide) u3 l.length (rcs l) rfl (own_ch HOQ.out ((Ch.refl _ _ _).alloc (Nat.le_refl _) _) (Nat.le_refl _)) ⟨wq.heap.size, 0, none⟩ 1 1 (rc (s, nn, d)) rfl rfl (rat_news wq (s, nn, d)) (rc_one (s, nn, d)) (by unfold maxLen; omega) (by omega) (by have := HWQ.out; simp; omega) ?_; intro v' w1 hown' hgr hnil)
        have HO1 := Lib.hid hown'
        have HC1 := Lib.hid ((HCQ.out.alloc HWQ.out (.cells #[.bool s, S nn, S d] 25)).trans (ch_own (by have := HWQ.out; simp; omega) (own_ch HOQ.out ((Ch.refl _ _ _).alloc (Nat.le_refl _) _) (Nat.le_refl _)) hgr))
        clear hown' hgr hnil
        go_wp2_with fail
        go_roundw
        case rel =>
          refine ⟨k + 1, l ++ [(s, nn, d)], by omega, by go_num, ?_, HC1.out, HMD.out⟩
          rw [List.length_append, rcs_append]
          exact HO1.out
        case measure => simp [intOf]; omega
      · obtain rfl : k = 12 := by omega
        obtain ⟨pp, cc, rfl⟩ := own_val HO.out
        obtain ⟨_, HR⟩ := Rs.own HO.out rfl
        have HRR := Lib.hid HR
        have HF := Lib.hid (show l = made3 xs from HL.out.symm)
        clear HR
        go_wp2_with fail
        go_ret
        exact ⟨pp, _, cc, rfl, HF.out ▸ HRR.out, by rw [HG.out]; exact HC.out⟩
    · obtain rfl : k = n := by omega
      obtain ⟨pp, cc, rfl⟩ := own_val HO.out
      obtain ⟨_, HR⟩ := Rs.own HO.out rfl
      have HRR := Lib.hid HR
      have HF := Lib.hid (show l = made3 xs by rw [← HL.out]; unfold made3; rw [List.take_of_length_le (l := xs) (i := 12) (by rw [HX.out.len]; exact hk8), List.take_of_length_le (by rw [HX.out.len]; exact Nat.le_refl _)])
      clear HR
      go_wp2_with fail
      go_ret
      exact ⟨pp, _, cc, rfl, HF.out ▸ HRR.out, by rw [HG.out]; exact HC.out⟩
end Go.Proofs.YtbpoghgokkpckaaGreatDoor
