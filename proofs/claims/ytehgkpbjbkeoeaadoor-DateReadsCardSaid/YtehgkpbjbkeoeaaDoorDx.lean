/- The reference's Read of layer 3. -/
import Derived.Test.YtehgkpbjbkeoeaaDoorDw
namespace Go.Proofs.YtehgkpbjbkeoeaaDoor
open Go.RowKit Go.Shelf
attribute [local go_sem] Oper.semAt_some
namespace Lay
theorem lead_run : ∀ (q t : Part) (k : Nat) (n : Int), q.all dig = true → lead (q.length + k) n (q ++ t) = lead k (q.foldl (fun n c => 10 * n + ((c.toNat : Int) - 48)) n) t
  | [], t, k, n, _ => by simp
  | c :: q, t, k, n, h => by
    rw [List.all_cons, Bool.and_eq_true] at h
    rw [List.length_cons, show q.length + 1 + k = (q.length + k) + 1 by omega, List.cons_append, lead, if_pos h.1, lead_run q t k _ h.2, List.foldl_cons, Int.mul_comm n 10]
theorem lead_at {s : Part} {a e M : Nat} (h1 : a ≤ e) (h2 : e ≤ s.length) (h3 : e ≤ a + M) (hd : ((s.drop a).take (e - a)).all dig = true)
    (hx : e = s.length ∨ e = a + M ∨ ∃ c, ∃ h : e < s.length, s[e] = c ∧ dig c = false) : lead M 0 (s.drop a) = (nv ((s.drop a).take (e - a)), s.drop e) := by
  obtain ⟨q, hq⟩ : ∃ q, (s.drop a).take (e - a) = q := ⟨_, rfl⟩
  have hl : q.length = e - a := by rw [← hq, List.length_take, List.length_drop]; omega
  have hs : s.drop a = q ++ s.drop e := by
    rw [← hq]
    have := List.take_append_drop (e - a) (s.drop a)
    rw [List.drop_drop, show a + (e - a) = e by omega] at this
    exact this.symm
  rw [hq] at hd ⊢
  obtain ⟨k, hk⟩ : ∃ k, M = q.length + k := ⟨M - q.length, by omega⟩
  rw [hs, hk, lead_run q _ k 0 hd]
  show lead k (nv q) (s.drop e) = _
  rcases hx with h | h | ⟨c, h, hc, hd'⟩
  · rw [h, List.drop_length, lead_nil]
  · rw [show k = 0 by omega, lead0]
  · rw [List.drop_eq_getElem_cons h, hc, lead_stop hd']
theorem fold_nil (ps : List Part) : ∀ (a : Fs), a.s = [] → (ps.foldl fstep a).s = [] ∧ (a.y = 0 → (ps.foldl fstep a).y = 0) ∧ (a.m = 0 → (ps.foldl fstep a).m = 0) ∧ (a.d = 0 → (ps.foldl fstep a).d = 0) := by
  induction ps with
  | nil => intro a h; exact ⟨h, id, id, id⟩
  | cons p ps ih =>
    intro a h
    rw [List.foldl_cons]
    have hs : (fstep a p).s = [] := by
      unfold fstep
      rw [h, lead_nil, lead_nil]
      split
      · rfl
      · split
        · rfl
        · split <;> rfl
    obtain ⟨i1, i2, i3, i4⟩ := ih (fstep a p) hs
    refine ⟨i1, fun q => i2 ?_, fun q => i3 ?_, fun q => i4 ?_⟩
    · unfold fstep
      rw [h, lead_nil, lead_nil]
      split
      · rfl
      · split
        · exact q
        · split <;> exact q
    · unfold fstep
      rw [h, lead_nil, lead_nil]
      split
      · exact q
      · split
        · rfl
        · split <;> exact q
    · unfold fstep
      rw [h, lead_nil, lead_nil]
      split
      · exact q
      · split
        · exact q
        · split
          · rfl
          · exact q
theorem vld_zero (y m d : Int) : Cal.vld 0 m d = false ∧ Cal.vld y 0 d = false ∧ Cal.vld y m 0 = false :=
  ⟨Cal.vld_not.2 (by omega), Cal.vld_not.2 (by omega), Cal.vld_not.2 (by omega)⟩
/-- Where nothing is left for a field, no date is found. -/
theorem dead {ps : List Part} {s : Part} {k : Nat} {p : Part} {y m d : Int} (hk : k < ps.length) (hp : ps[k] = p) (ha : fnd (ps.take k) s = ⟨y, m, d, []⟩) (hF : isF p = true) : Cal.vld (fnd ps s).y (fnd ps s).m (fnd ps s).d = false := by
  have e : ps = ps.take k ++ (p :: ps.drop (k + 1)) := by rw [← hp, ← List.drop_eq_getElem_cons hk, List.take_append_drop]
  have e2 : fnd ps s = (ps.drop (k + 1)).foldl fstep (fstep ⟨y, m, d, []⟩ p) := by
    rw [← ha]
    unfold fnd
    conv => lhs; rw [e]
    rw [List.foldl_append, List.foldl_cons]
  rw [e2]
  unfold isF at hF
  by_cases h1 : isY p = true
  · have hs : fstep ⟨y, m, d, []⟩ p = ⟨0, m, d, []⟩ := by unfold fstep; rw [if_pos h1]; rfl
    rw [hs, (fold_nil _ ⟨0, m, d, []⟩ rfl).2.1 rfl]
    exact (vld_zero 0 _ _).1
  · by_cases h2 : isM p = true
    · have hs : fstep ⟨y, m, d, []⟩ p = ⟨y, 0, d, []⟩ := by unfold fstep; rw [if_neg h1, if_pos h2]; rfl
      rw [hs, (fold_nil _ ⟨y, 0, d, []⟩ rfl).2.2.1 rfl]
      exact (vld_zero _ 0 _).2.1
    · have h3 : isD p = true := by
        rw [Bool.or_eq_true, Bool.or_eq_true] at hF
        exact hF.resolve_left (fun q => q.elim h1 h2)
      have hs : fstep ⟨y, m, d, []⟩ p = ⟨y, m, 0, []⟩ := by unfold fstep; rw [if_neg h1, if_neg h2, if_pos h3]; rfl
      rw [hs, (fold_nil _ ⟨y, m, 0, []⟩ rfl).2.2.2 rfl]
      exact (vld_zero _ _ 0).2.2
theorem fnd_take {ps : List Part} {s : Part} {k : Nat} {p : Part} (hk : k < ps.length) (hp : ps[k] = p) {a : Fs} (ha : fnd (ps.take k) s = a) : fnd (ps.take (k + 1)) s = fstep a p := by
  rw [List.take_succ_eq_append_getElem hk, hp, fnd_snoc, ha]
theorem nv_take_bd {s : Part} {a e : Nat} (hd : ((s.drop a).take (e - a)).all dig = true) (hl : e ≤ a + 4) : 0 ≤ nv ((s.drop a).take (e - a)) ∧ nv ((s.drop a).take (e - a)) ≤ 9999 := by
  have := nv_bd hd (by rw [List.length_take]; omega)
  have := bnd_le (4 - ((s.drop a).take (e - a)).length)
  omega
theorem numN_dig {s : Part} (h : s.all dig = true) : numN s = nv s := by unfold numN; rw [if_pos h]
end Lay
theorem dext_at {s : List UInt8} {a e : Nat} (h : a ≤ e) : (ByteArray.mk s.toArray).extract a e = ⟨((s.drop a).take (e - a)).toArray⟩ := by
  have := dext_mid' s a (e - a)
  rw [show a + (e - a) = e by omega] at this
  exact this
theorem take_dig {s : List UInt8} {a e : Nat} {c : UInt8} (h : a ≤ e) (he : e < s.length) (hc : s[e] = c) (hd : Lay.dig c = true) (ha : ((s.drop a).take (e - a)).all Lay.dig = true) : ((s.drop a).take (e + 1 - a)).all Lay.dig = true := by
  rw [show e + 1 - a = (e - a) + 1 by omega, take_succ_at (c := c) (by rw [List.length_drop]; omega) (by rw [List.getElem_drop]; simp only [show a + (e - a) = e by omega]; exact hc), List.all_append, ha]
  simp [hd]
set_option maxRecDepth 100000 in
set_option maxHeartbeats 16000000 in
theorem refRead_right {L s : List UInt8} (hs : s.length ≤ 4611686018427387904) (hl : Lay.right L = true) {R : Bool} {N : Int} (hR : Lay.rd L s = R) (hN : (if R then Lay.rdN L s else 0) = N) (w : World) :
    Calls Tryd.prog 17 #[S L, S s] w (Yd w (.tuple #[iz N, .bool R])) := by
  have hL := right_len hl
  have HR := Lib.hid (R_Right (L := L) (by omega) hl w)
  have hpl : (Lay.parts L).length ≤ 40 := Nat.le_trans (Lay.parts_len L) hL
  have hpo := Lay.parts_ok L
  have HPA := Lib.hid (fun w' => Parts_any L hL w')
  unfold Lay.rd at hR
  unfold Lay.rdN at hN
  rw [hl, Bool.true_and] at hR
  have HFY := Lib.hid (fun n h => refFormat_yes (L := L) (n := n) h hl)
  obtain ⟨ps, hps⟩ : ∃ ps, Lay.parts L = ps := ⟨_, rfl⟩
  rw [hps] at hpl hpo HPA hR hN
  have HPO := Lib.hid hpo
  have HRR := Lib.hid hR
  have HNN := Lib.hid hN
  clear hpo hps hR hN hl
  go_enter Tryd.func17, Tryd.ntmps17
  go_wp2_with fail
  with_reducible refine HR.out.mono ?_
  rintro e w0 ⟨rfl, hC⟩
  have HC00 := Lib.hid hC
  clear hC
  obtain ⟨G, hG⟩ : ∃ G, w0.heap.size = G := ⟨_, rfl⟩
  have hB0 := Blk.new w0 #[iz 0, iz 0, iz 0] 30
  rw [hG] at hB0
  have HB0 := Lib.hid hB0
  have HG := Lib.hid hG
  clear hB0
  go_wp2_with fail
  refine (HPA.out _).mono ?_
  rintro e w1 ⟨⟨v, rfl, hsl⟩, hC⟩
  obtain ⟨p, cap, rfl, hcell⟩ := hsl.out
  have hsz : (w0.alloc (.cells #[iz 0, iz 0, iz 0] 30 (0, 0))).heap.size = G + 1 := by simp [hG]
  have hsz' : (w0.alloc (.cells #[.int .i64 0, .int .i64 0, .int .i64 0] 30)).heap.size = G + 1 := hsz
  rw [hsz'] at hC hcell
  have HC1 := Lib.hid hC
  have HCE := Lib.hid hcell
  have HB1 := Lib.hid (show Blk w1 G 30 [iz 0, iz 0, iz 0] from hC.blk HB0.out (by omega) (fun q => q))
  have HC0 := Lib.hid (show Ch w.heap.size none1 w w1 from (HC00.out.alloc HC00.out.size _).trans (hC.mono (by have := HC00.out.size; omega) (fun _ _ q => q)))
  have HG1 := Lib.hid (show w.heap.size ≤ G by have := HC00.out.size; omega)
  have HG2 := Lib.hid (show G < w1.heap.size by have := hC.size; omega)
  clear hsl hC hcell hsz hsz' hG
  obtain ⟨n, hn⟩ : ∃ n, ps.length = n := ⟨_, rfl⟩
  rw [hn] at hpl ⊢
  have HN := Lib.hid hn
  clear hn
  go_wp2_with fail
  go_loopw [8, 10] (fun a b wr => ∃ (k t : Nat) (y m d : Int), k ≤ n ∧ a = .int .i64 (t : Int) ∧ b = .int .i64 (k : Int) ∧ t ≤ 4 * k ∧ Lay.fnd (ps.take k) s = ⟨y, m, d, s.drop t⟩ ∧ Blk wr G 30 [iz y, iz m, iz d] ∧ Ch w1.heap.size (· = G) w1 wr) (fun _ b _ => n - (intOf b).toNat)
  case atStart => exact ⟨0, 0, 0, 0, 0, Nat.zero_le _, rfl, rfl, by omega, rfl, HB1.out, Ch.refl _ _ _⟩
  case round =>
    obtain ⟨k, t, y, m, d, hk, rfl, rfl, htk, hfn, hblk, hch⟩ := hrel
    have hok := Lay.fnd_ok (ps.take k) s
    rw [hfn] at hok
    have y0 : 0 ≤ y := hok.y0
    have y1 : y ≤ 9999 := hok.y1
    have HFN := Lib.hid hfn
    have HBK := Lib.hid hblk
    have HCH := Lib.hid hch
    have q0 := hblk.cell 0
    have q1 := hblk.cell 1
    have q2 := hblk.cell 2
    have g0 := hblk.frozen 0
    have g1 := hblk.frozen 1
    have g2 := hblk.frozen 2
    have ht160 : t ≤ 160 := by omega
    clear hok hfn hblk hch
    simp only [List.getElem?_cons_zero, List.getElem?_cons_succ] at q0 q1 q2
    have HE := Lib.hid (show ∀ W, Ch w1.heap.size (· = G) wr W → Ch w.heap.size none1 w W from fun W hW =>
      HC0.out.trans ((HCH.out.trans hW).mono HC0.out.size (fun j hj q => by have := HG1.out; omega)))
    by_cases hlt : k < n
    · obtain ⟨q, hq⟩ : ∃ q, ps[k]'(by rw [HN.out]; exact hlt) = q := ⟨_, rfl⟩
      obtain ⟨g, rfl, ⟨hgl, hgs⟩, hcl⟩ := HCE.out k (by rw [HN.out]; exact hlt)
      rw [hq] at hcl
      have hne : ¬ g = G := by omega
      have hne' : ¬ G = g := by omega
      have hcw : wr.cell? ⟨g, 0 + k, none⟩ = some (S q) := by
        rw [HCH.out.cell (p := ⟨g, 0 + k, none⟩) hgs hne]
        exact hcl
      have hcw' : wr.cell? ⟨g, k, none⟩ = some (S q) := by rw [Nat.zero_add] at hcw; exact hcw
      have HPK := Lib.hid hq
      have hqo := HPO.out q (hq ▸ List.getElem_mem _)
      have HLT := Lib.hid (show k < ps.length by rw [HN.out]; exact hlt)
      clear hq hcl hgs hgl
      cases hqo with
      | y =>
        by_cases hts : t ≤ s.length
        · go_wp2_with fail
          go_loop [12] (fun c => ∃ e : Nat, t ≤ e ∧ e ≤ s.length ∧ e ≤ t + 4 ∧ c = .int .i64 (e : Int) ∧ ((s.drop t).take (e - t)).all Lay.dig = true) (fun c => t + 4 - (intOf c).toNat)
          case atStart => exact ⟨t, Nat.le_refl _, hts, by omega, rfl, by rw [Nat.sub_self]; rfl⟩
          case round =>
            obtain ⟨e, h1, h2, h3, rfl, had⟩ := hrel
            have hvb := Lay.nv_take_bd had (by omega)
            have xe := dext_at (s := s) h1
            have hNB := fun w' => number_any ((s.drop t).take (e - t)) (by rw [List.length_take]; omega) w'
            rw [Lay.numN_dig had] at hNB
            obtain ⟨v, hv⟩ : ∃ v, Lay.nv ((s.drop t).take (e - t)) = v := ⟨_, rfl⟩
            obtain ⟨u, hu⟩ : ∃ u, (s.drop t).take (e - t) = u := ⟨_, rfl⟩
            obtain ⟨ob, hob⟩ : ∃ b, Lay.numB ((s.drop t).take (e - t)) = b := ⟨_, rfl⟩
            rw [hob, hv, hu] at hNB
            rw [hu] at xe
            rw [hv] at hvb
            have v0 := hvb.1
            have v1 := hvb.2
            have HNB := Lib.hid hNB
            have HAD := Lib.hid had
            have HV := Lib.hid hv
            clear hob hu hv hNB had hvb
            by_cases hgo : e < s.length ∧ e < t + 4 ∧ ∃ c, ∃ h : e < s.length, s[e] = c ∧ Lay.dig c = true
            · obtain ⟨a1, a2, c, _, hc, hcd⟩ := hgo
              have hg : ∀ h', (ByteArray.mk s.toArray)[e]'h' = c := fun _ => hc
              have HA2 := Lib.hid (take_dig h1 a1 hc hcd HAD.out)
              obtain ⟨c1, c2⟩ := Lay.dig_iff.1 hcd
              have c1' : (48 : Int) ≤ (c.toNat : Int) := by omega
              have c2' : (c.toNat : Int) ≤ 57 := by omega
              clear hc hcd
              go_wp2_with fail
              go_round
              case rel => exact ⟨e + 1, by omega, by omega, by omega, by go_num, HA2.out⟩
              case measure => simp [intOf]; omega
            have hex : e = s.length ∨ e = t + 4 ∨ ∃ c, ∃ h : e < s.length, s[e] = c ∧ Lay.dig c = false := by
              by_cases b1 : e = s.length
              · exact .inl b1
              · by_cases b2 : e = t + 4
                · exact .inr (.inl b2)
                · refine .inr (.inr ⟨s[e]'(by omega), by omega, rfl, ?_⟩)
                  cases hd : Lay.dig (s[e]'(by omega))
                  · rfl
                  · exact absurd ⟨by omega, by omega, _, by omega, rfl, hd⟩ hgo
            clear hgo
            have HEX := Lib.hid hex
            by_cases b1 : e = s.length
            · have b1' : ¬ (e : Int) < (s.length : Int) := by omega
              clear b1 hex
              have HX := Lib.hid (Lay.lead_at h1 h2 h3 HAD.out HEX.out)
              have HFN2 := Lib.hid (show Lay.fnd (ps.take (k + 1)) s = ⟨v, m, d, s.drop e⟩ by rw [Lay.fnd_take HLT.out HPK.out HFN.out, Lay.fs_y]; simp only [HX.out, HV.out])
              go_wp2_with fail
              with_reducible refine (HNB.out _).mono ?_
              rintro e' w' ⟨rfl, rfl⟩
              go_wp2_with fail
              go_roundw
              case rel => exact ⟨k + 1, e, v, m, d, hlt, rfl, by go_num, by omega, HFN2.out, HBK.out.set 0 _, HCH.out.setCell (p := ⟨G, 0, none⟩) (.inr rfl) _⟩
              case measure => simp [intOf]; omega
            by_cases b2 : e = t + 4
            · have b2' : ¬ (e : Int) < (t : Int) + 4 := by omega
              clear b2 hex
              have HX := Lib.hid (Lay.lead_at h1 h2 h3 HAD.out HEX.out)
              have HFN2 := Lib.hid (show Lay.fnd (ps.take (k + 1)) s = ⟨v, m, d, s.drop e⟩ by rw [Lay.fnd_take HLT.out HPK.out HFN.out, Lay.fs_y]; simp only [HX.out, HV.out])
              go_wp2_with fail
              with_reducible refine (HNB.out _).mono ?_
              rintro e' w' ⟨rfl, rfl⟩
              go_wp2_with fail
              go_roundw
              case rel => exact ⟨k + 1, e, v, m, d, hlt, rfl, by go_num, by omega, HFN2.out, HBK.out.set 0 _, HCH.out.setCell (p := ⟨G, 0, none⟩) (.inr rfl) _⟩
              case measure => simp [intOf]; omega
            obtain ⟨c, a1, hc, hcd⟩ := (hex.resolve_left b1).resolve_left b2
            have hg : ∀ h', (ByteArray.mk s.toArray)[e]'h' = c := fun _ => hc
            have hc255 : c.toNat ≤ 255 := by have := c.toNat_lt; omega
            have a2 : e < t + 4 := by omega
            have hcn : ¬ (48 ≤ c.toNat ∧ c.toNat ≤ 57) := fun h => by rw [Lay.dig_iff.2 h] at hcd; cases hcd
            clear hc hcd b1 b2 hex
            by_cases c1 : (48 : Int) ≤ (c.toNat : Int)
            · have c2 : ¬ (c.toNat : Int) ≤ 57 := by omega
              clear hcn
              have HX := Lib.hid (Lay.lead_at h1 h2 h3 HAD.out HEX.out)
              have HFN2 := Lib.hid (show Lay.fnd (ps.take (k + 1)) s = ⟨v, m, d, s.drop e⟩ by rw [Lay.fnd_take HLT.out HPK.out HFN.out, Lay.fs_y]; simp only [HX.out, HV.out])
              go_wp2_with fail
              with_reducible refine (HNB.out _).mono ?_
              rintro e' w' ⟨rfl, rfl⟩
              go_wp2_with fail
              go_roundw
              case rel => exact ⟨k + 1, e, v, m, d, hlt, rfl, by go_num, by omega, HFN2.out, HBK.out.set 0 _, HCH.out.setCell (p := ⟨G, 0, none⟩) (.inr rfl) _⟩
              case measure => simp [intOf]; omega
            · clear hcn
              have HX := Lib.hid (Lay.lead_at h1 h2 h3 HAD.out HEX.out)
              have HFN2 := Lib.hid (show Lay.fnd (ps.take (k + 1)) s = ⟨v, m, d, s.drop e⟩ by rw [Lay.fnd_take HLT.out HPK.out HFN.out, Lay.fs_y]; simp only [HX.out, HV.out])
              go_wp2_with fail
              with_reducible refine (HNB.out _).mono ?_
              rintro e' w' ⟨rfl, rfl⟩
              go_wp2_with fail
              go_roundw
              case rel => exact ⟨k + 1, e, v, m, d, hlt, rfl, by go_num, by omega, HFN2.out, HBK.out.set 0 _, HCH.out.setCell (p := ⟨G, 0, none⟩) (.inr rfl) _⟩
              case measure => simp [intOf]; omega
        · have hb : R = false := by
            rw [← HRR.out]
            rw [Lay.dead HLT.out HPK.out (y := y) (m := m) (d := d) (by rw [HFN.out, List.drop_of_length_le (by omega)]) rfl]
            rfl
          have HB := Lib.hid (show N = 0 by rw [← HNN.out, hb]; rfl)
          subst hb
          go_wp2_with fail
          go_loop [12] (fun c => c = .int .i64 (t : Int)) (fun _ => 0)
          case atStart => rfl
          case round =>
            subst hrel
            go_wp2_with fail
            go_ret2
            exact ⟨by rw [HB.out]; rfl, HE.out _ (Ch.refl _ _ _)⟩
      | mm =>
        by_cases hts : t ≤ s.length
        · go_wp2_with fail
          go_loop [12] (fun c => ∃ e : Nat, t ≤ e ∧ e ≤ s.length ∧ e ≤ t + 2 ∧ c = .int .i64 (e : Int) ∧ ((s.drop t).take (e - t)).all Lay.dig = true) (fun c => t + 2 - (intOf c).toNat)
          case atStart => exact ⟨t, Nat.le_refl _, hts, by omega, rfl, by rw [Nat.sub_self]; rfl⟩
          case round =>
            obtain ⟨e, h1, h2, h3, rfl, had⟩ := hrel
            have hvb := Lay.nv_take_bd had (by omega)
            have xe := dext_at (s := s) h1
            have hNB := fun w' => number_any ((s.drop t).take (e - t)) (by rw [List.length_take]; omega) w'
            rw [Lay.numN_dig had] at hNB
            obtain ⟨v, hv⟩ : ∃ v, Lay.nv ((s.drop t).take (e - t)) = v := ⟨_, rfl⟩
            obtain ⟨u, hu⟩ : ∃ u, (s.drop t).take (e - t) = u := ⟨_, rfl⟩
            obtain ⟨ob, hob⟩ : ∃ b, Lay.numB ((s.drop t).take (e - t)) = b := ⟨_, rfl⟩
            rw [hob, hv, hu] at hNB
            rw [hu] at xe
            rw [hv] at hvb
            have v0 := hvb.1
            have v1 := hvb.2
            have HNB := Lib.hid hNB
            have HAD := Lib.hid had
            have HV := Lib.hid hv
            clear hob hu hv hNB had hvb
            by_cases hgo : e < s.length ∧ e < t + 2 ∧ ∃ c, ∃ h : e < s.length, s[e] = c ∧ Lay.dig c = true
            · obtain ⟨a1, a2, c, _, hc, hcd⟩ := hgo
              have hg : ∀ h', (ByteArray.mk s.toArray)[e]'h' = c := fun _ => hc
              have HA2 := Lib.hid (take_dig h1 a1 hc hcd HAD.out)
              obtain ⟨c1, c2⟩ := Lay.dig_iff.1 hcd
              have c1' : (48 : Int) ≤ (c.toNat : Int) := by omega
              have c2' : (c.toNat : Int) ≤ 57 := by omega
              clear hc hcd
              go_wp2_with fail
              go_round
              case rel => exact ⟨e + 1, by omega, by omega, by omega, by go_num, HA2.out⟩
              case measure => simp [intOf]; omega
            have hex : e = s.length ∨ e = t + 2 ∨ ∃ c, ∃ h : e < s.length, s[e] = c ∧ Lay.dig c = false := by
              by_cases b1 : e = s.length
              · exact .inl b1
              · by_cases b2 : e = t + 2
                · exact .inr (.inl b2)
                · refine .inr (.inr ⟨s[e]'(by omega), by omega, rfl, ?_⟩)
                  cases hd : Lay.dig (s[e]'(by omega))
                  · rfl
                  · exact absurd ⟨by omega, by omega, _, by omega, rfl, hd⟩ hgo
            clear hgo
            have HEX := Lib.hid hex
            by_cases b1 : e = s.length
            · have b1' : ¬ (e : Int) < (s.length : Int) := by omega
              clear b1 hex
              have HX := Lib.hid (Lay.lead_at h1 h2 h3 HAD.out HEX.out)
              have HFN2 := Lib.hid (show Lay.fnd (ps.take (k + 1)) s = ⟨y, v, d, s.drop e⟩ by rw [Lay.fnd_take HLT.out HPK.out HFN.out, Lay.fs_mm]; simp only [HX.out, HV.out])
              go_wp2_with fail
              with_reducible refine (HNB.out _).mono ?_
              rintro e' w' ⟨rfl, rfl⟩
              go_wp2_with fail
              go_roundw
              case rel => exact ⟨k + 1, e, y, v, d, hlt, rfl, by go_num, by omega, HFN2.out, HBK.out.set 1 _, HCH.out.setCell (p := ⟨G, 1, none⟩) (.inr rfl) _⟩
              case measure => simp [intOf]; omega
            by_cases b2 : e = t + 2
            · have b2' : ¬ (e : Int) < (t : Int) + 2 := by omega
              clear b2 hex
              have HX := Lib.hid (Lay.lead_at h1 h2 h3 HAD.out HEX.out)
              have HFN2 := Lib.hid (show Lay.fnd (ps.take (k + 1)) s = ⟨y, v, d, s.drop e⟩ by rw [Lay.fnd_take HLT.out HPK.out HFN.out, Lay.fs_mm]; simp only [HX.out, HV.out])
              go_wp2_with fail
              with_reducible refine (HNB.out _).mono ?_
              rintro e' w' ⟨rfl, rfl⟩
              go_wp2_with fail
              go_roundw
              case rel => exact ⟨k + 1, e, y, v, d, hlt, rfl, by go_num, by omega, HFN2.out, HBK.out.set 1 _, HCH.out.setCell (p := ⟨G, 1, none⟩) (.inr rfl) _⟩
              case measure => simp [intOf]; omega
            obtain ⟨c, a1, hc, hcd⟩ := (hex.resolve_left b1).resolve_left b2
            have hg : ∀ h', (ByteArray.mk s.toArray)[e]'h' = c := fun _ => hc
            have hc255 : c.toNat ≤ 255 := by have := c.toNat_lt; omega
            have a2 : e < t + 2 := by omega
            have hcn : ¬ (48 ≤ c.toNat ∧ c.toNat ≤ 57) := fun h => by rw [Lay.dig_iff.2 h] at hcd; cases hcd
            clear hc hcd b1 b2 hex
            by_cases c1 : (48 : Int) ≤ (c.toNat : Int)
            · have c2 : ¬ (c.toNat : Int) ≤ 57 := by omega
              clear hcn
              have HX := Lib.hid (Lay.lead_at h1 h2 h3 HAD.out HEX.out)
              have HFN2 := Lib.hid (show Lay.fnd (ps.take (k + 1)) s = ⟨y, v, d, s.drop e⟩ by rw [Lay.fnd_take HLT.out HPK.out HFN.out, Lay.fs_mm]; simp only [HX.out, HV.out])
              go_wp2_with fail
              with_reducible refine (HNB.out _).mono ?_
              rintro e' w' ⟨rfl, rfl⟩
              go_wp2_with fail
              go_roundw
              case rel => exact ⟨k + 1, e, y, v, d, hlt, rfl, by go_num, by omega, HFN2.out, HBK.out.set 1 _, HCH.out.setCell (p := ⟨G, 1, none⟩) (.inr rfl) _⟩
              case measure => simp [intOf]; omega
            · clear hcn
              have HX := Lib.hid (Lay.lead_at h1 h2 h3 HAD.out HEX.out)
              have HFN2 := Lib.hid (show Lay.fnd (ps.take (k + 1)) s = ⟨y, v, d, s.drop e⟩ by rw [Lay.fnd_take HLT.out HPK.out HFN.out, Lay.fs_mm]; simp only [HX.out, HV.out])
              go_wp2_with fail
              with_reducible refine (HNB.out _).mono ?_
              rintro e' w' ⟨rfl, rfl⟩
              go_wp2_with fail
              go_roundw
              case rel => exact ⟨k + 1, e, y, v, d, hlt, rfl, by go_num, by omega, HFN2.out, HBK.out.set 1 _, HCH.out.setCell (p := ⟨G, 1, none⟩) (.inr rfl) _⟩
              case measure => simp [intOf]; omega
        · have hb : R = false := by
            rw [← HRR.out]
            rw [Lay.dead HLT.out HPK.out (y := y) (m := m) (d := d) (by rw [HFN.out, List.drop_of_length_le (by omega)]) rfl]
            rfl
          have HB := Lib.hid (show N = 0 by rw [← HNN.out, hb]; rfl)
          subst hb
          go_wp2_with fail
          go_loop [12] (fun c => c = .int .i64 (t : Int)) (fun _ => 0)
          case atStart => rfl
          case round =>
            subst hrel
            go_wp2_with fail
            go_ret2
            exact ⟨by rw [HB.out]; rfl, HE.out _ (Ch.refl _ _ _)⟩
      | m =>
        by_cases hts : t ≤ s.length
        · go_wp2_with fail
          go_loop [12] (fun c => ∃ e : Nat, t ≤ e ∧ e ≤ s.length ∧ e ≤ t + 2 ∧ c = .int .i64 (e : Int) ∧ ((s.drop t).take (e - t)).all Lay.dig = true) (fun c => t + 2 - (intOf c).toNat)
          case atStart => exact ⟨t, Nat.le_refl _, hts, by omega, rfl, by rw [Nat.sub_self]; rfl⟩
          case round =>
            obtain ⟨e, h1, h2, h3, rfl, had⟩ := hrel
            have hvb := Lay.nv_take_bd had (by omega)
            have xe := dext_at (s := s) h1
            have hNB := fun w' => number_any ((s.drop t).take (e - t)) (by rw [List.length_take]; omega) w'
            rw [Lay.numN_dig had] at hNB
            obtain ⟨v, hv⟩ : ∃ v, Lay.nv ((s.drop t).take (e - t)) = v := ⟨_, rfl⟩
            obtain ⟨u, hu⟩ : ∃ u, (s.drop t).take (e - t) = u := ⟨_, rfl⟩
            obtain ⟨ob, hob⟩ : ∃ b, Lay.numB ((s.drop t).take (e - t)) = b := ⟨_, rfl⟩
            rw [hob, hv, hu] at hNB
            rw [hu] at xe
            rw [hv] at hvb
            have v0 := hvb.1
            have v1 := hvb.2
            have HNB := Lib.hid hNB
            have HAD := Lib.hid had
            have HV := Lib.hid hv
            clear hob hu hv hNB had hvb
            by_cases hgo : e < s.length ∧ e < t + 2 ∧ ∃ c, ∃ h : e < s.length, s[e] = c ∧ Lay.dig c = true
            · obtain ⟨a1, a2, c, _, hc, hcd⟩ := hgo
              have hg : ∀ h', (ByteArray.mk s.toArray)[e]'h' = c := fun _ => hc
              have HA2 := Lib.hid (take_dig h1 a1 hc hcd HAD.out)
              obtain ⟨c1, c2⟩ := Lay.dig_iff.1 hcd
              have c1' : (48 : Int) ≤ (c.toNat : Int) := by omega
              have c2' : (c.toNat : Int) ≤ 57 := by omega
              clear hc hcd
              go_wp2_with fail
              go_round
              case rel => exact ⟨e + 1, by omega, by omega, by omega, by go_num, HA2.out⟩
              case measure => simp [intOf]; omega
            have hex : e = s.length ∨ e = t + 2 ∨ ∃ c, ∃ h : e < s.length, s[e] = c ∧ Lay.dig c = false := by
              by_cases b1 : e = s.length
              · exact .inl b1
              · by_cases b2 : e = t + 2
                · exact .inr (.inl b2)
                · refine .inr (.inr ⟨s[e]'(by omega), by omega, rfl, ?_⟩)
                  cases hd : Lay.dig (s[e]'(by omega))
                  · rfl
                  · exact absurd ⟨by omega, by omega, _, by omega, rfl, hd⟩ hgo
            clear hgo
            have HEX := Lib.hid hex
            by_cases b1 : e = s.length
            · have b1' : ¬ (e : Int) < (s.length : Int) := by omega
              clear b1 hex
              have HX := Lib.hid (Lay.lead_at h1 h2 h3 HAD.out HEX.out)
              have HFN2 := Lib.hid (show Lay.fnd (ps.take (k + 1)) s = ⟨y, v, d, s.drop e⟩ by rw [Lay.fnd_take HLT.out HPK.out HFN.out, Lay.fs_m]; simp only [HX.out, HV.out])
              go_wp2_with fail
              with_reducible refine (HNB.out _).mono ?_
              rintro e' w' ⟨rfl, rfl⟩
              go_wp2_with fail
              go_roundw
              case rel => exact ⟨k + 1, e, y, v, d, hlt, rfl, by go_num, by omega, HFN2.out, HBK.out.set 1 _, HCH.out.setCell (p := ⟨G, 1, none⟩) (.inr rfl) _⟩
              case measure => simp [intOf]; omega
            by_cases b2 : e = t + 2
            · have b2' : ¬ (e : Int) < (t : Int) + 2 := by omega
              clear b2 hex
              have HX := Lib.hid (Lay.lead_at h1 h2 h3 HAD.out HEX.out)
              have HFN2 := Lib.hid (show Lay.fnd (ps.take (k + 1)) s = ⟨y, v, d, s.drop e⟩ by rw [Lay.fnd_take HLT.out HPK.out HFN.out, Lay.fs_m]; simp only [HX.out, HV.out])
              go_wp2_with fail
              with_reducible refine (HNB.out _).mono ?_
              rintro e' w' ⟨rfl, rfl⟩
              go_wp2_with fail
              go_roundw
              case rel => exact ⟨k + 1, e, y, v, d, hlt, rfl, by go_num, by omega, HFN2.out, HBK.out.set 1 _, HCH.out.setCell (p := ⟨G, 1, none⟩) (.inr rfl) _⟩
              case measure => simp [intOf]; omega
            obtain ⟨c, a1, hc, hcd⟩ := (hex.resolve_left b1).resolve_left b2
            have hg : ∀ h', (ByteArray.mk s.toArray)[e]'h' = c := fun _ => hc
            have hc255 : c.toNat ≤ 255 := by have := c.toNat_lt; omega
            have a2 : e < t + 2 := by omega
            have hcn : ¬ (48 ≤ c.toNat ∧ c.toNat ≤ 57) := fun h => by rw [Lay.dig_iff.2 h] at hcd; cases hcd
            clear hc hcd b1 b2 hex
            by_cases c1 : (48 : Int) ≤ (c.toNat : Int)
            · have c2 : ¬ (c.toNat : Int) ≤ 57 := by omega
              clear hcn
              have HX := Lib.hid (Lay.lead_at h1 h2 h3 HAD.out HEX.out)
              have HFN2 := Lib.hid (show Lay.fnd (ps.take (k + 1)) s = ⟨y, v, d, s.drop e⟩ by rw [Lay.fnd_take HLT.out HPK.out HFN.out, Lay.fs_m]; simp only [HX.out, HV.out])
              go_wp2_with fail
              with_reducible refine (HNB.out _).mono ?_
              rintro e' w' ⟨rfl, rfl⟩
              go_wp2_with fail
              go_roundw
              case rel => exact ⟨k + 1, e, y, v, d, hlt, rfl, by go_num, by omega, HFN2.out, HBK.out.set 1 _, HCH.out.setCell (p := ⟨G, 1, none⟩) (.inr rfl) _⟩
              case measure => simp [intOf]; omega
            · clear hcn
              have HX := Lib.hid (Lay.lead_at h1 h2 h3 HAD.out HEX.out)
              have HFN2 := Lib.hid (show Lay.fnd (ps.take (k + 1)) s = ⟨y, v, d, s.drop e⟩ by rw [Lay.fnd_take HLT.out HPK.out HFN.out, Lay.fs_m]; simp only [HX.out, HV.out])
              go_wp2_with fail
              with_reducible refine (HNB.out _).mono ?_
              rintro e' w' ⟨rfl, rfl⟩
              go_wp2_with fail
              go_roundw
              case rel => exact ⟨k + 1, e, y, v, d, hlt, rfl, by go_num, by omega, HFN2.out, HBK.out.set 1 _, HCH.out.setCell (p := ⟨G, 1, none⟩) (.inr rfl) _⟩
              case measure => simp [intOf]; omega
        · have hb : R = false := by
            rw [← HRR.out]
            rw [Lay.dead HLT.out HPK.out (y := y) (m := m) (d := d) (by rw [HFN.out, List.drop_of_length_le (by omega)]) rfl]
            rfl
          have HB := Lib.hid (show N = 0 by rw [← HNN.out, hb]; rfl)
          subst hb
          go_wp2_with fail
          go_loop [12] (fun c => c = .int .i64 (t : Int)) (fun _ => 0)
          case atStart => rfl
          case round =>
            subst hrel
            go_wp2_with fail
            go_ret2
            exact ⟨by rw [HB.out]; rfl, HE.out _ (Ch.refl _ _ _)⟩
      | dd =>
        by_cases hts : t ≤ s.length
        · go_wp2_with fail
          go_loop [12] (fun c => ∃ e : Nat, t ≤ e ∧ e ≤ s.length ∧ e ≤ t + 2 ∧ c = .int .i64 (e : Int) ∧ ((s.drop t).take (e - t)).all Lay.dig = true) (fun c => t + 2 - (intOf c).toNat)
          case atStart => exact ⟨t, Nat.le_refl _, hts, by omega, rfl, by rw [Nat.sub_self]; rfl⟩
          case round =>
            obtain ⟨e, h1, h2, h3, rfl, had⟩ := hrel
            have hvb := Lay.nv_take_bd had (by omega)
            have xe := dext_at (s := s) h1
            have hNB := fun w' => number_any ((s.drop t).take (e - t)) (by rw [List.length_take]; omega) w'
            rw [Lay.numN_dig had] at hNB
            obtain ⟨v, hv⟩ : ∃ v, Lay.nv ((s.drop t).take (e - t)) = v := ⟨_, rfl⟩
            obtain ⟨u, hu⟩ : ∃ u, (s.drop t).take (e - t) = u := ⟨_, rfl⟩
            obtain ⟨ob, hob⟩ : ∃ b, Lay.numB ((s.drop t).take (e - t)) = b := ⟨_, rfl⟩
            rw [hob, hv, hu] at hNB
            rw [hu] at xe
            rw [hv] at hvb
            have v0 := hvb.1
            have v1 := hvb.2
            have HNB := Lib.hid hNB
            have HAD := Lib.hid had
            have HV := Lib.hid hv
            clear hob hu hv hNB had hvb
            by_cases hgo : e < s.length ∧ e < t + 2 ∧ ∃ c, ∃ h : e < s.length, s[e] = c ∧ Lay.dig c = true
            · obtain ⟨a1, a2, c, _, hc, hcd⟩ := hgo
              have hg : ∀ h', (ByteArray.mk s.toArray)[e]'h' = c := fun _ => hc
              have HA2 := Lib.hid (take_dig h1 a1 hc hcd HAD.out)
              obtain ⟨c1, c2⟩ := Lay.dig_iff.1 hcd
              have c1' : (48 : Int) ≤ (c.toNat : Int) := by omega
              have c2' : (c.toNat : Int) ≤ 57 := by omega
              clear hc hcd
              go_wp2_with fail
              go_round
              case rel => exact ⟨e + 1, by omega, by omega, by omega, by go_num, HA2.out⟩
              case measure => simp [intOf]; omega
            have hex : e = s.length ∨ e = t + 2 ∨ ∃ c, ∃ h : e < s.length, s[e] = c ∧ Lay.dig c = false := by
              by_cases b1 : e = s.length
              · exact .inl b1
              · by_cases b2 : e = t + 2
                · exact .inr (.inl b2)
                · refine .inr (.inr ⟨s[e]'(by omega), by omega, rfl, ?_⟩)
                  cases hd : Lay.dig (s[e]'(by omega))
                  · rfl
                  · exact absurd ⟨by omega, by omega, _, by omega, rfl, hd⟩ hgo
            clear hgo
            have HEX := Lib.hid hex
            by_cases b1 : e = s.length
            · have b1' : ¬ (e : Int) < (s.length : Int) := by omega
              clear b1 hex
              have HX := Lib.hid (Lay.lead_at h1 h2 h3 HAD.out HEX.out)
              have HFN2 := Lib.hid (show Lay.fnd (ps.take (k + 1)) s = ⟨y, m, v, s.drop e⟩ by rw [Lay.fnd_take HLT.out HPK.out HFN.out, Lay.fs_dd]; simp only [HX.out, HV.out])
              go_wp2_with fail
              with_reducible refine (HNB.out _).mono ?_
              rintro e' w' ⟨rfl, rfl⟩
              go_wp2_with fail
              go_roundw
              case rel => exact ⟨k + 1, e, y, m, v, hlt, rfl, by go_num, by omega, HFN2.out, HBK.out.set 2 _, HCH.out.setCell (p := ⟨G, 2, none⟩) (.inr rfl) _⟩
              case measure => simp [intOf]; omega
            by_cases b2 : e = t + 2
            · have b2' : ¬ (e : Int) < (t : Int) + 2 := by omega
              clear b2 hex
              have HX := Lib.hid (Lay.lead_at h1 h2 h3 HAD.out HEX.out)
              have HFN2 := Lib.hid (show Lay.fnd (ps.take (k + 1)) s = ⟨y, m, v, s.drop e⟩ by rw [Lay.fnd_take HLT.out HPK.out HFN.out, Lay.fs_dd]; simp only [HX.out, HV.out])
              go_wp2_with fail
              with_reducible refine (HNB.out _).mono ?_
              rintro e' w' ⟨rfl, rfl⟩
              go_wp2_with fail
              go_roundw
              case rel => exact ⟨k + 1, e, y, m, v, hlt, rfl, by go_num, by omega, HFN2.out, HBK.out.set 2 _, HCH.out.setCell (p := ⟨G, 2, none⟩) (.inr rfl) _⟩
              case measure => simp [intOf]; omega
            obtain ⟨c, a1, hc, hcd⟩ := (hex.resolve_left b1).resolve_left b2
            have hg : ∀ h', (ByteArray.mk s.toArray)[e]'h' = c := fun _ => hc
            have hc255 : c.toNat ≤ 255 := by have := c.toNat_lt; omega
            have a2 : e < t + 2 := by omega
            have hcn : ¬ (48 ≤ c.toNat ∧ c.toNat ≤ 57) := fun h => by rw [Lay.dig_iff.2 h] at hcd; cases hcd
            clear hc hcd b1 b2 hex
            by_cases c1 : (48 : Int) ≤ (c.toNat : Int)
            · have c2 : ¬ (c.toNat : Int) ≤ 57 := by omega
              clear hcn
              have HX := Lib.hid (Lay.lead_at h1 h2 h3 HAD.out HEX.out)
              have HFN2 := Lib.hid (show Lay.fnd (ps.take (k + 1)) s = ⟨y, m, v, s.drop e⟩ by rw [Lay.fnd_take HLT.out HPK.out HFN.out, Lay.fs_dd]; simp only [HX.out, HV.out])
              go_wp2_with fail
              with_reducible refine (HNB.out _).mono ?_
              rintro e' w' ⟨rfl, rfl⟩
              go_wp2_with fail
              go_roundw
              case rel => exact ⟨k + 1, e, y, m, v, hlt, rfl, by go_num, by omega, HFN2.out, HBK.out.set 2 _, HCH.out.setCell (p := ⟨G, 2, none⟩) (.inr rfl) _⟩
              case measure => simp [intOf]; omega
            · clear hcn
              have HX := Lib.hid (Lay.lead_at h1 h2 h3 HAD.out HEX.out)
              have HFN2 := Lib.hid (show Lay.fnd (ps.take (k + 1)) s = ⟨y, m, v, s.drop e⟩ by rw [Lay.fnd_take HLT.out HPK.out HFN.out, Lay.fs_dd]; simp only [HX.out, HV.out])
              go_wp2_with fail
              with_reducible refine (HNB.out _).mono ?_
              rintro e' w' ⟨rfl, rfl⟩
              go_wp2_with fail
              go_roundw
              case rel => exact ⟨k + 1, e, y, m, v, hlt, rfl, by go_num, by omega, HFN2.out, HBK.out.set 2 _, HCH.out.setCell (p := ⟨G, 2, none⟩) (.inr rfl) _⟩
              case measure => simp [intOf]; omega
        · have hb : R = false := by
            rw [← HRR.out]
            rw [Lay.dead HLT.out HPK.out (y := y) (m := m) (d := d) (by rw [HFN.out, List.drop_of_length_le (by omega)]) rfl]
            rfl
          have HB := Lib.hid (show N = 0 by rw [← HNN.out, hb]; rfl)
          subst hb
          go_wp2_with fail
          go_loop [12] (fun c => c = .int .i64 (t : Int)) (fun _ => 0)
          case atStart => rfl
          case round =>
            subst hrel
            go_wp2_with fail
            go_ret2
            exact ⟨by rw [HB.out]; rfl, HE.out _ (Ch.refl _ _ _)⟩
      | d =>
        by_cases hts : t ≤ s.length
        · go_wp2_with fail
          go_loop [12] (fun c => ∃ e : Nat, t ≤ e ∧ e ≤ s.length ∧ e ≤ t + 2 ∧ c = .int .i64 (e : Int) ∧ ((s.drop t).take (e - t)).all Lay.dig = true) (fun c => t + 2 - (intOf c).toNat)
          case atStart => exact ⟨t, Nat.le_refl _, hts, by omega, rfl, by rw [Nat.sub_self]; rfl⟩
          case round =>
            obtain ⟨e, h1, h2, h3, rfl, had⟩ := hrel
            have hvb := Lay.nv_take_bd had (by omega)
            have xe := dext_at (s := s) h1
            have hNB := fun w' => number_any ((s.drop t).take (e - t)) (by rw [List.length_take]; omega) w'
            rw [Lay.numN_dig had] at hNB
            obtain ⟨v, hv⟩ : ∃ v, Lay.nv ((s.drop t).take (e - t)) = v := ⟨_, rfl⟩
            obtain ⟨u, hu⟩ : ∃ u, (s.drop t).take (e - t) = u := ⟨_, rfl⟩
            obtain ⟨ob, hob⟩ : ∃ b, Lay.numB ((s.drop t).take (e - t)) = b := ⟨_, rfl⟩
            rw [hob, hv, hu] at hNB
            rw [hu] at xe
            rw [hv] at hvb
            have v0 := hvb.1
            have v1 := hvb.2
            have HNB := Lib.hid hNB
            have HAD := Lib.hid had
            have HV := Lib.hid hv
            clear hob hu hv hNB had hvb
            by_cases hgo : e < s.length ∧ e < t + 2 ∧ ∃ c, ∃ h : e < s.length, s[e] = c ∧ Lay.dig c = true
            · obtain ⟨a1, a2, c, _, hc, hcd⟩ := hgo
              have hg : ∀ h', (ByteArray.mk s.toArray)[e]'h' = c := fun _ => hc
              have HA2 := Lib.hid (take_dig h1 a1 hc hcd HAD.out)
              obtain ⟨c1, c2⟩ := Lay.dig_iff.1 hcd
              have c1' : (48 : Int) ≤ (c.toNat : Int) := by omega
              have c2' : (c.toNat : Int) ≤ 57 := by omega
              clear hc hcd
              go_wp2_with fail
              go_round
              case rel => exact ⟨e + 1, by omega, by omega, by omega, by go_num, HA2.out⟩
              case measure => simp [intOf]; omega
            have hex : e = s.length ∨ e = t + 2 ∨ ∃ c, ∃ h : e < s.length, s[e] = c ∧ Lay.dig c = false := by
              by_cases b1 : e = s.length
              · exact .inl b1
              · by_cases b2 : e = t + 2
                · exact .inr (.inl b2)
                · refine .inr (.inr ⟨s[e]'(by omega), by omega, rfl, ?_⟩)
                  cases hd : Lay.dig (s[e]'(by omega))
                  · rfl
                  · exact absurd ⟨by omega, by omega, _, by omega, rfl, hd⟩ hgo
            clear hgo
            have HEX := Lib.hid hex
            by_cases b1 : e = s.length
            · have b1' : ¬ (e : Int) < (s.length : Int) := by omega
              clear b1 hex
              have HX := Lib.hid (Lay.lead_at h1 h2 h3 HAD.out HEX.out)
              have HFN2 := Lib.hid (show Lay.fnd (ps.take (k + 1)) s = ⟨y, m, v, s.drop e⟩ by rw [Lay.fnd_take HLT.out HPK.out HFN.out, Lay.fs_d]; simp only [HX.out, HV.out])
              go_wp2_with fail
              with_reducible refine (HNB.out _).mono ?_
              rintro e' w' ⟨rfl, rfl⟩
              go_wp2_with fail
              go_roundw
              case rel => exact ⟨k + 1, e, y, m, v, hlt, rfl, by go_num, by omega, HFN2.out, HBK.out.set 2 _, HCH.out.setCell (p := ⟨G, 2, none⟩) (.inr rfl) _⟩
              case measure => simp [intOf]; omega
            by_cases b2 : e = t + 2
            · have b2' : ¬ (e : Int) < (t : Int) + 2 := by omega
              clear b2 hex
              have HX := Lib.hid (Lay.lead_at h1 h2 h3 HAD.out HEX.out)
              have HFN2 := Lib.hid (show Lay.fnd (ps.take (k + 1)) s = ⟨y, m, v, s.drop e⟩ by rw [Lay.fnd_take HLT.out HPK.out HFN.out, Lay.fs_d]; simp only [HX.out, HV.out])
              go_wp2_with fail
              with_reducible refine (HNB.out _).mono ?_
              rintro e' w' ⟨rfl, rfl⟩
              go_wp2_with fail
              go_roundw
              case rel => exact ⟨k + 1, e, y, m, v, hlt, rfl, by go_num, by omega, HFN2.out, HBK.out.set 2 _, HCH.out.setCell (p := ⟨G, 2, none⟩) (.inr rfl) _⟩
              case measure => simp [intOf]; omega
            obtain ⟨c, a1, hc, hcd⟩ := (hex.resolve_left b1).resolve_left b2
            have hg : ∀ h', (ByteArray.mk s.toArray)[e]'h' = c := fun _ => hc
            have hc255 : c.toNat ≤ 255 := by have := c.toNat_lt; omega
            have a2 : e < t + 2 := by omega
            have hcn : ¬ (48 ≤ c.toNat ∧ c.toNat ≤ 57) := fun h => by rw [Lay.dig_iff.2 h] at hcd; cases hcd
            clear hc hcd b1 b2 hex
            by_cases c1 : (48 : Int) ≤ (c.toNat : Int)
            · have c2 : ¬ (c.toNat : Int) ≤ 57 := by omega
              clear hcn
              have HX := Lib.hid (Lay.lead_at h1 h2 h3 HAD.out HEX.out)
              have HFN2 := Lib.hid (show Lay.fnd (ps.take (k + 1)) s = ⟨y, m, v, s.drop e⟩ by rw [Lay.fnd_take HLT.out HPK.out HFN.out, Lay.fs_d]; simp only [HX.out, HV.out])
              go_wp2_with fail
              with_reducible refine (HNB.out _).mono ?_
              rintro e' w' ⟨rfl, rfl⟩
              go_wp2_with fail
              go_roundw
              case rel => exact ⟨k + 1, e, y, m, v, hlt, rfl, by go_num, by omega, HFN2.out, HBK.out.set 2 _, HCH.out.setCell (p := ⟨G, 2, none⟩) (.inr rfl) _⟩
              case measure => simp [intOf]; omega
            · clear hcn
              have HX := Lib.hid (Lay.lead_at h1 h2 h3 HAD.out HEX.out)
              have HFN2 := Lib.hid (show Lay.fnd (ps.take (k + 1)) s = ⟨y, m, v, s.drop e⟩ by rw [Lay.fnd_take HLT.out HPK.out HFN.out, Lay.fs_d]; simp only [HX.out, HV.out])
              go_wp2_with fail
              with_reducible refine (HNB.out _).mono ?_
              rintro e' w' ⟨rfl, rfl⟩
              go_wp2_with fail
              go_roundw
              case rel => exact ⟨k + 1, e, y, m, v, hlt, rfl, by go_num, by omega, HFN2.out, HBK.out.set 2 _, HCH.out.setCell (p := ⟨G, 2, none⟩) (.inr rfl) _⟩
              case measure => simp [intOf]; omega
        · have hb : R = false := by
            rw [← HRR.out]
            rw [Lay.dead HLT.out HPK.out (y := y) (m := m) (d := d) (by rw [HFN.out, List.drop_of_length_le (by omega)]) rfl]
            rfl
          have HB := Lib.hid (show N = 0 by rw [← HNN.out, hb]; rfl)
          subst hb
          go_wp2_with fail
          go_loop [12] (fun c => c = .int .i64 (t : Int)) (fun _ => 0)
          case atStart => rfl
          case round =>
            subst hrel
            go_wp2_with fail
            go_ret2
            exact ⟨by rw [HB.out]; rfl, HE.out _ (Ch.refl _ _ _)⟩
      | one c h1 h2 =>
        have e1 : (c == 77) = false := by simpa using h1
        have e2 : (c == 68) = false := by simpa using h2
        have HFN2 := Lib.hid (show Lay.fnd (ps.take (k + 1)) s = ⟨y, m, d, s.drop (t + 1)⟩ by rw [Lay.fnd_take HLT.out HPK.out HFN.out, Lay.fs_one _ h1 h2]; simp only [List.drop_drop])
        go_wp2_with fail
        go_roundw
        case rel => exact ⟨k + 1, t + 1, y, m, d, hlt, by go_num, by go_num, by omega, HFN2.out, HBK.out, HCH.out⟩
        case measure => simp [intOf]; omega
    · obtain rfl : k = n := by omega
      have hfa : Lay.fnd ps s = ⟨y, m, d, s.drop t⟩ := by have := HFN.out; rw [List.take_of_length_le (by rw [HN.out]; exact Nat.le_refl _)] at this; exact this
      have hR := HRR.out
      have hN := HNN.out
      rw [hfa] at hR hN
      simp only at hR hN
      clear hfa
      cases hv : Cal.vld y m d
      · rw [hv, Bool.false_and] at hR
        subst hR
        have HNum := Lib.hid (fun w' => refNumber_no y m d w' (by omega) hv)
        have HN0 := Lib.hid hN
        clear hv hN
        go_wp2_with fail
        with_reducible refine (HNum.out _).mono ?_
        rintro e' w' ⟨rfl, rfl⟩
        go_wp2_with fail
        go_ret2
        exact ⟨by rw [← HN0.out]; rfl, HE.out _ (Ch.refl _ _ _)⟩
      · rw [hv, Bool.true_and] at hR
        have HNum := Lib.hid (fun w' => refNumber_yes y m d w' hv)
        obtain ⟨sp, sy, sm, sd⟩ := Cal.num_spec hv
        have hF := fun w' => HFY.out (Cal.num y m d) sp w'
        rw [sy, sm, sd] at hF
        obtain ⟨f, hf⟩ : ∃ f, Lay.fmt L y m d = f := ⟨_, rfl⟩
        obtain ⟨nn, hnn⟩ : ∃ nn, Cal.num y m d = nn := ⟨_, rfl⟩
        rw [hf] at hF hR
        rw [hnn] at hF HNum hN
        have HF := Lib.hid hF
        clear sp sy sm sd hv hf hnn hF
        cases hfs : (f == s)
        · rw [hfs] at hR
          subst hR
          have hfn : (f != s) = true := by rw [bne, hfs]; rfl
          have HN0 := Lib.hid hN
          clear hN
          go_wp2_with fail
          with_reducible refine (HNum.out _).mono ?_
          rintro e' w' ⟨rfl, rfl⟩
          go_wp2_with fail
          with_reducible refine (HF.out _).mono ?_
          rintro e' w2 ⟨rfl, hC⟩
          have HC := Lib.hid hC
          clear hC
          go_wp2_with fail
          go_ret2
          exact ⟨by rw [← HN0.out]; rfl, HE.out _ (HC.out.mono HCH.out.size (fun _ _ q => q.elim))⟩
        · rw [hfs] at hR
          subst hR
          have hfn : (f != s) = false := by rw [bne, hfs]; rfl
          have HN0 := Lib.hid hN
          clear hN
          go_wp2_with fail
          with_reducible refine (HNum.out _).mono ?_
          rintro e' w' ⟨rfl, rfl⟩
          go_wp2_with fail
          with_reducible refine (HF.out _).mono ?_
          rintro e' w2 ⟨rfl, hC⟩
          have HC := Lib.hid hC
          clear hC
          go_wp2_with fail
          go_ret2
          exact ⟨by rw [← HN0.out]; rfl, HE.out _ (HC.out.mono HCH.out.size (fun _ _ q => q.elim))⟩
set_option maxRecDepth 100000 in
set_option maxHeartbeats 1600000 in
theorem refRead_wrong {L s : List UInt8} (hL : L.length ≤ 9223372036854775807) (hl : Lay.right L = false) (w : World) :
    Calls Tryd.prog 17 #[S L, S s] w (Yd w (.tuple #[iz 0, .bool false])) := by
  have HR := Lib.hid (R_Right (L := L) hL hl w)
  clear hl
  go_enter Tryd.func17, Tryd.ntmps17
  go_wp2_with fail
  with_reducible refine HR.out.mono ?_
  rintro e w0 ⟨rfl, hC⟩
  have HC := Lib.hid hC
  clear hC
  go_wp2_with fail
  go_ret2
  exact ⟨rfl, HC.out⟩
/-- The reference's Read, as the code's. -/
theorem R_Read {L s : List UInt8} {b : Bool} {n : Int} (hL : L.length ≤ 9223372036854775807) (hs : s.length ≤ 4611686018427387904) (hb : Lay.rd L s = b) (hn : (if b then Lay.rdN L s else 0) = n) : AnsW 17 #[S L, S s] (.tuple #[iz n, .bool b]) := fun w _ => by
  rcases h : Lay.right L
  · rw [rd_wrong s h] at hb
    subst hb
    rw [← hn]
    exact refRead_wrong hL h w
  · exact refRead_right hs h hb hn w
end Go.Proofs.YtehgkpbjbkeoeaaDoor
