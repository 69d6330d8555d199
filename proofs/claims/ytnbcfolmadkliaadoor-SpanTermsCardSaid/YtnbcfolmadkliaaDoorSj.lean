/- Package span: combined. -/
import Derived.Test.YtnbcfolmadkliaaDoorSr
import Derived.Test.YtnbcfolmadkliaaDoorSi
import Derived.Test.YtnbcfolmadkliaaDoorSd
namespace Go.Proofs.YtnbcfolmadkliaaDoor
open Go.RowKit Go.Shelf
attribute [local go_sem] Oper.semAt_some
theorem sp_info : (Tryd.prog.info? 35).map (fun i => (i.zero, i.size, i.bytes)) = some (some (.agg #[iz 0, iz 0]), 2, 16) := by kernel_rfl
theorem sp_news (W : World) (a b : Int) : ∀ (j : Nat) (u : Value), [iz a, iz b][j]? = some u → (W.alloc (.cells #[iz a, iz b] 35 (0, 0))).cell? ((⟨W.heap.size, 0, none⟩ : Addr).add j) = some u := by
  intro j u h
  exact (Blk.new W #[iz a, iz b] 35).adds j u h
theorem two_one (a b : Int) : ∀ u ∈ [iz a, iz b], u.oneCell' = true := iz_one (l := [a, b])
/-- What combined holds between two rounds. -/
structure CI (w : World) (G : Nat) (fv : Value) (q : Int → Bool) (n1 : Nat) (t : Int) (W : World) : Prop where
  ex : ∃ v l f op, Blk W (G + 1) 24 [v] ∧ W.ownsRow n1 35 2 v l.length (l.flatMap spc) ∧ Blk W (G + 1 + 1) 3 [iz f] ∧ Blk W (G + 1 + 1 + 1) 4 [.bool op] ∧ Spn.Cmb q t l f op
  k : Blk W G 55 [fv]
  ch : Ch G none1 w W
  sz : n1 ≤ W.heap.size
theorem CI.own {w A B : World} {G n0 n1 : Nat} {fv : Value} {q : Int → Bool} {t : Int} (h : CI w G fv q n1 t A) (ho : Own n0 n1 A B) (hn : G + 7 = n0) : CI w G fv q n1 t B where
  ex := by
    obtain ⟨v, l, f, op, h1, h2, h3, h4, h5⟩ := h.ex
    have e1 := h1.lt
    have e3 := h3.lt
    have e4 := h4.lt
    refine ⟨v, l, f, op, ?_, own_keep h2 fun g hg => ?_, ?_, ?_, h5⟩
    · unfold Blk; rw [ho.2.2 _ e1 (.inl (by omega))]; exact h1
    · have := own_lt h2 g hg; exact ho.2.2 _ this.2 (.inr this.1)
    · unfold Blk; rw [ho.2.2 _ e3 (.inl (by omega))]; exact h3
    · unfold Blk; rw [ho.2.2 _ e4 (.inl (by omega))]; exact h4
  k := by have := h.k.lt; unfold Blk; rw [ho.2.2 _ this (.inl (by omega))]; exact h.k
  ch := by
    have := h.k.lt
    exact h.ch.trans ⟨ho.1.1, ho.1.2.1, ho.1.2.2, ho.2.1, fun k hk _ => ho.2.2 k (by omega) (.inl (by omega))⟩
  sz := Nat.le_trans h.sz ho.2.1
theorem blk_put {W : World} {g k : Nat} {t : TypeId} {cs : List Value} {o o' : Obj} (h : Blk W g t cs) (hk : W.heap[k]? = some o) (ho : o.isCells = false) : Blk (W.putObj k o') g t cs := by
  unfold Blk at h ⊢
  rw [World.putObj_heap_other (fun e => by subst e; rw [h] at hk; rw [← Option.some.inj hk] at ho; exact Bool.noConfusion ho)]
  exact h
theorem CI.put {w W : World} {G n1 : Nat} {fv : Value} {q : Int → Bool} {t : Int} (h : CI w G fv q n1 t W) {k : Nat} {o : Obj} (o' : Obj) (hk : W.heap[k]? = some o) (ho : o.isCells = false) (hG : G ≤ k) (hn : k < n1) : CI w G fv q n1 t (W.putObj k o') where
  ex := by
    obtain ⟨v, l, f, op, h1, h2, h3, h4, h5⟩ := h.ex
    refine ⟨v, l, f, op, blk_put h1 hk ho, own_keep h2 fun g hg => ?_, blk_put h3 hk ho, blk_put h4 hk ho, h5⟩
    have := own_lt h2 g hg
    exact World.putObj_heap_other (by omega)
  k := blk_put h.k hk ho
  ch := h.ch.trans ⟨rfl, rfl, rfl, by simp, fun j hj _ => World.putObj_heap_other (by omega)⟩
  sz := by simp; exact h.sz
theorem changes_any (gL : Nat) (w : World) :
    Calls Tryd.prog 39 #[.slice (some ⟨gL, 0, none⟩) 2 2] w fun e w' => e = .returned (.func (.func 46) #[] #[.pointer (some ⟨w.heap.size, 0, none⟩)]) ∧ w' = w.alloc (.cells #[.slice (some ⟨gL, 0, none⟩) 2 2] 32) := by
  go_enter Tryd.func39, Tryd.ntmps39
  go_wp2_with fail
  go_ret
  exact ⟨rfl, rfl⟩
theorem Spn.Stp.q {a b : List Spn.Sp} {t t' : Int} (h : Spn.Stp a b t t') (q : Bool → Bool → Bool) : ∀ d, t < d → d < t' → q (Spn.has a d) (Spn.has b d) = q (Spn.has a t) (Spn.has b t) := fun d h1 h2 => by rw [h.a d h1 h2, h.b d h1 h2]
set_option maxRecDepth 100000 in
set_option maxHeartbeats 8000000 in
theorem combined_any (fk : Nat) (q : Bool → Bool → Bool) (hq : Keeps fk q) (hq0 : q false false = false) (eg : ∀ args w, (callFunc fk args).run Tryd.prog w = .ok (.enter fk args) w) (a b : List Spn.Sp) (pa pb : Option Addr) (na nb ca cb gL : Nat) (tL : TypeId) (w : World) (hL : Blk w gL tL [.slice pa na ca, .slice pb nb cb]) (ha : Rd spc 2 w pa na a) (hb : Rd spc 2 w pb nb b) (hna : na ≤ 4000000) (hnb : nb ≤ 4000000) :
    Calls Tryd.prog 27 #[.func (.func fk) #[] #[], .slice (some ⟨gL, 0, none⟩) 2 2] w (Ys w (Spn.nf fun d => q (Spn.has a d) (Spn.has b d))) := by
  have HQ := Lib.hid hq
  have HL := Lib.hid hL
  have HA := Lib.hid ha
  have HB := Lib.hid hb
  clear hq hL ha hb
  obtain ⟨Q, hQ⟩ : ∃ Q : Int → Bool, (fun d => q (Spn.has a d) (Spn.has b d)) = Q := ⟨_, rfl⟩
  have HQQ := Lib.hid (show ∀ d, Q d = q (Spn.has a d) (Spn.has b d) from fun d => by rw [← hQ])
  rw [hQ]
  clear hQ
  refine (callsIn_wide (n := 6)).1 ?_
  refine callsIn_of_wp_marks Tryd.func27 rfl trivial ?_ rfl
  simp only [Tryd.ntmps27, List.size_toArray, List.length_cons, List.length_nil, Nat.reduceAdd, Nat.reduceSub, Array.replicate_succ, Array.replicate_zero, List.push_toArray, List.append_toArray, List.nil_append, List.cons_append]
  gi_wp2
  refine ⟨trivial, ?_⟩
  refine (callsIn_wide.2 (changes_any gL _)).mono ?_
  rintro e w' ⟨rfl, rfl⟩
  gi_wp2
  obtain ⟨G, hG⟩ : ∃ G, w.heap.size = G := ⟨_, rfl⟩
  have hst : (Blk (((((w.alloc (.cells #[.func (.func fk) #[] #[]] 55)).alloc (.cells #[.slice none 0 0] 24)).alloc (.cells #[iz 0] 3)).alloc (.cells #[.bool false] 4)).alloc (.cells #[.slice (some ⟨gL, 0, none⟩) 2 2] 32)) G 55 [.func (.func fk) #[] #[]] ∧ Blk (((((w.alloc (.cells #[.func (.func fk) #[] #[]] 55)).alloc (.cells #[.slice none 0 0] 24)).alloc (.cells #[iz 0] 3)).alloc (.cells #[.bool false] 4)).alloc (.cells #[.slice (some ⟨gL, 0, none⟩) 2 2] 32)) (G + 1) 24 [.slice none 0 0] ∧ Blk (((((w.alloc (.cells #[.func (.func fk) #[] #[]] 55)).alloc (.cells #[.slice none 0 0] 24)).alloc (.cells #[iz 0] 3)).alloc (.cells #[.bool false] 4)).alloc (.cells #[.slice (some ⟨gL, 0, none⟩) 2 2] 32)) (G + 1 + 1) 3 [iz 0] ∧ Blk (((((w.alloc (.cells #[.func (.func fk) #[] #[]] 55)).alloc (.cells #[.slice none 0 0] 24)).alloc (.cells #[iz 0] 3)).alloc (.cells #[.bool false] 4)).alloc (.cells #[.slice (some ⟨gL, 0, none⟩) 2 2] 32)) (G + 1 + 1 + 1) 4 [.bool false] ∧ Ch G none1 w (((((w.alloc (.cells #[.func (.func fk) #[] #[]] 55)).alloc (.cells #[.slice none 0 0] 24)).alloc (.cells #[iz 0] 3)).alloc (.cells #[.bool false] 4)).alloc (.cells #[.slice (some ⟨gL, 0, none⟩) 2 2] 32))) ∧ Blk (((((w.alloc (.cells #[.func (.func fk) #[] #[]] 55)).alloc (.cells #[.slice none 0 0] 24)).alloc (.cells #[iz 0] 3)).alloc (.cells #[.bool false] 4)).alloc (.cells #[.slice (some ⟨gL, 0, none⟩) 2 2] 32)) (G + 1 + 1 + 1 + 1) 32 [.slice (some ⟨gL, 0, none⟩) 2 2] ∧ (((((w.alloc (.cells #[.func (.func fk) #[] #[]] 55)).alloc (.cells #[.slice none 0 0] 24)).alloc (.cells #[iz 0] 3)).alloc (.cells #[.bool false] 4)).alloc (.cells #[.slice (some ⟨gL, 0, none⟩) 2 2] 32)).heap.size = G + 5 := by
    have b0 := ((((Blk.new w #[.func (.func fk) #[] #[]] 55).alloc (.cells #[.slice none 0 0] 24)).alloc (.cells #[iz 0] 3)).alloc (.cells #[.bool false] 4)).alloc (.cells #[.slice (some ⟨gL, 0, none⟩) 2 2] 32)
    have b1 := (((Blk.new (w.alloc (.cells #[.func (.func fk) #[] #[]] 55)) #[.slice none 0 0] 24).alloc (.cells #[iz 0] 3)).alloc (.cells #[.bool false] 4)).alloc (.cells #[.slice (some ⟨gL, 0, none⟩) 2 2] 32)
    have b2 := ((Blk.new ((w.alloc (.cells #[.func (.func fk) #[] #[]] 55)).alloc (.cells #[.slice none 0 0] 24)) #[iz 0] 3).alloc (.cells #[.bool false] 4)).alloc (.cells #[.slice (some ⟨gL, 0, none⟩) 2 2] 32)
    have b3 := (Blk.new (((w.alloc (.cells #[.func (.func fk) #[] #[]] 55)).alloc (.cells #[.slice none 0 0] 24)).alloc (.cells #[iz 0] 3)) #[.bool false] 4).alloc (.cells #[.slice (some ⟨gL, 0, none⟩) 2 2] 32)
    have b4 := Blk.new ((((w.alloc (.cells #[.func (.func fk) #[] #[]] 55)).alloc (.cells #[.slice none 0 0] 24)).alloc (.cells #[iz 0] 3)).alloc (.cells #[.bool false] 4)) #[.slice (some ⟨gL, 0, none⟩) 2 2] 32
    simp only [World.size_alloc, hG] at b0 b1 b2 b3 b4
    refine ⟨⟨b0, b1, b2, b3, ?_⟩, b4, by simp; omega⟩
    rw [← hG]
    exact (((((Ch.refl _ _ w).alloc (Nat.le_refl _) _).alloc (by simp) _).alloc (by simp; omega) _).alloc (by simp; omega) _).alloc (by simp; omega) _
  have HG := Lib.hid hG
  rw [hG]
  obtain ⟨W0, hW0⟩ : ∃ W0, (((((w.alloc (.cells #[.func (.func fk) #[] #[]] 55)).alloc (.cells #[.slice none 0 0] 24)).alloc (.cells #[iz 0] 3)).alloc (.cells #[.bool false] 4)).alloc (.cells #[.slice (some ⟨gL, 0, none⟩) 2 2] 32)) = W0 := ⟨_, rfl⟩
  rw [hW0] at hst ⊢
  obtain ⟨hci, hbx, hsz⟩ := hst
  have HCI := Lib.hid hci
  have HBX := Lib.hid hbx
  clear hW0 hci hbx hG
  have hgl := HL.out.lt
  refine range_own (F := Fence.wide) rfl (by omega) (gf := 46) (lb := #[.pointer (some ⟨G + 1 + 1 + 1 + 1, 0, none⟩)]) rfl trivial (enters_of Tryd.func46 (by kernel_rfl) rfl)
    (n0 := G + 7) (by omega) (encs := fun c : Chg => #[iz c.day, .slice (some ⟨c.blk, 0, none⟩) 2 2]) (fun _ => rfl) (S := Spn.Fin a b) (s0 := -1) (nx := Chg.day) (R := fun n1 t c W => ChgOk a b (G + 7) n1 t c W)
    (CI w G (.func (.func fk) #[] #[]) Q)
    (fun l J W hW hB0 hJ hY h0 => ?hseq)
    (fun W' hW' => ?hI0) (fun n1 s A B h ho => h.own ho rfl) (fun n1 s W k o o' hn1 h h1 h2 hk ho => h.put o' hk ho (by omega) (by omega)) (fun n1 s x W k o' h hk => ?hRp)
    (fun c => { tmps := #[.func (.func fk) #[] #[], .slice (some ⟨gL, 0, none⟩) 2 2, .pointer (some ⟨G, 0, none⟩), undef, .slice none 0 0, .pointer (some ⟨G + 1, 0, none⟩), .pointer (some ⟨G + 1 + 1, 0, none⟩), .pointer (some ⟨G + 1 + 1 + 1, 0, none⟩), iz c.day, .slice (some ⟨c.blk, 0, none⟩) 2 2, undef, .slice (some ⟨gL, 0, none⟩) 2 2, .func (.func 46) #[] #[.pointer (some ⟨G + 1 + 1 + 1 + 1, 0, none⟩)], iz c.day, .slice (some ⟨c.blk, 0, none⟩) 2 2, undef, undef, undef, undef, undef, undef, undef, undef, undef, undef, undef, undef, undef, undef, undef, undef], defers := [] }) ?assign ?body ?done
  case hseq =>
    have hC0 : Ch w.heap.size none1 w W := by
      rw [HG.out]
      exact HCI.out.2.2.2.2.trans ((Ch.of_below hB0).mono (by omega) (fun _ _ q => q))
    refine changes1_in _ (by omega) l a b pa pb na nb ca cb gL (G + 1 + 1 + 1 + 1) (G + 7) tL 32 W J hW ?_ (hC0.blk HL.out hgl (fun q => q)) (HA.out.ch hC0) (HB.out.ch hC0) hna hnb hJ hY h0
    exact (Ch.of_below (R := none1) hB0).blk HBX.out HBX.out.lt (fun q => q)
  case hI0 =>
    obtain ⟨h0, h1, h2, h3, h4⟩ := HCI.out
    have hC := Ch.of_below (R := none1) hW'
    refine ⟨⟨_, [], 0, false, hC.blk h1 h1.lt (fun q => q), own_nil _ _ _ _, hC.blk h2 h2.lt (fun q => q), hC.blk h3 h3.lt (fun q => q), Spn.Cmb.start fun d hd => ?_⟩, hC.blk h0 h0.lt (fun q => q), h4.trans (hC.mono (by omega) (fun _ _ q => q)), Nat.le_refl _⟩
    rw [HQQ.out, Spn.has_out (by omega), Spn.has_out (by omega), hq0]
  case hRp =>
    exact ⟨h.stp, h.x, h.y, h.ge, h.lt, by unfold Blk; rw [World.putObj_heap_other (by have := h.ge; omega)]; exact h.cells⟩
  case assign =>
    intro l c W K hK
    gi_wp2
    exact hK
  case body =>
    intro l n1 t c W hn1 hi hr
    obtain ⟨v, L2, f, op, h1, h2, h3, h4, h5⟩ := hi.ex
    have c0 := hi.k.cell 0
    have c1 := h1.cell 0
    have c2 := h3.cell 0
    have c3 := h4.cell 0
    have f1 := h1.frozen 0
    have f2 := h3.frozen 0
    have f3 := h4.frozen 0
    simp only [List.getElem?_cons_zero] at c0 c1 c2 c3
    have hqc : Q c.day = q c.x c.y := by rw [HQQ.out, hr.x, hr.y]
    have hqs : ∀ d, t < d → d < c.day → Q d = Q t := fun d d1 d2 => by rw [HQQ.out, HQQ.out]; exact hr.stp.q q d d1 d2
    have hrd : Rd boc 1 W (some ⟨c.blk, 0, none⟩) 2 [c.x, c.y] := Rd.blk0 (l := [c.x, c.y]) boc_len hr.cells rfl
    have hkp := HQ.out c.blk 0 c.x c.y W hrd
    obtain ⟨r, hr'⟩ : ∃ r, q c.x c.y = r := ⟨_, rfl⟩
    rw [hr'] at hqc hkp
    have HKP := Lib.hid hkp
    have HQC := Lib.hid hqc
    have HQS := Lib.hid hqs
    have HI := Lib.hid hi
    have HR := Lib.hid hr
    have H1 := Lib.hid h1
    have H2 := Lib.hid h2
    have H3 := Lib.hid h3
    have H4 := Lib.hid h4
    have H5 := Lib.hid h5
    clear hi hr h1 h2 h3 h4 h5 hqc hqs hrd hkp hr'
    gi_wp2
    refine ⟨trivial, ?_⟩
    refine (CallsIn.inRound l (callsIn_wide.2 HKP.out)).mono ?_
    rintro e w' ⟨rfl, rfl⟩
    have keep : r = op → KeepsOthers W W ∧ Kpt (G + 7) n1 W W ∧ CI w G (.func (.func fk) #[] #[]) Q n1 c.day W := fun hro => by
      subst hro
      exact ⟨KeepsOthers.refl W, Kpt.refl _ _ W, ⟨v, L2, f, r, H1.out, H2.out, H3.out, H4.out, H5.out.keep HR.out.stp.lt HQS.out HQC.out⟩, HI.out.k, HI.out.ch, HI.out.sz⟩
    have HKE := Lib.hid keep
    clear keep
    have e1 := H1.out.lt
    have e3 := H3.out.lt
    have e4 := H4.out.lt
    have hs1 := HI.out.sz
    rcases op with _ | _ <;> rcases r with _ | _
    · gi_wp2
      exact HKE.out (by first | rfl | trivial)
    · clear c0 c1
      gi_wp2
      have k3 := ((H3.out.set 0 (iz c.day)).set_other (g' := G + 1 + 1 + 1) (by omega) 0 (.bool true))
      have k4 := ((H4.out.set_other (g' := G + 1 + 1) (by omega) 0 (iz c.day)).set 0 (.bool true))
      refine ⟨(KeepsOthers.setCell W ⟨G + 1 + 1, 0, none⟩ _).trans (KeepsOthers.setCell _ ⟨G + 1 + 1 + 1, 0, none⟩ _), ?_, ?_⟩
      · exact ⟨by simp [World.setCell], fun k hk1 hk2 => by rw [Below.heap_setCell _ _ _ _ (show k ≠ G + 1 + 1 + 1 by omega), Below.heap_setCell _ _ _ _ (show k ≠ G + 1 + 1 by omega)]⟩
      · refine ⟨⟨v, L2, c.day, true, (H1.out.set_other (g' := G + 1 + 1) (by omega) 0 _).set_other (g' := G + 1 + 1 + 1) (by omega) 0 _, own_keep H2.out fun g hg => ?_, k3, k4, H5.out.open HR.out.stp.lo HR.out.stp.lt HQS.out HQC.out⟩, (HI.out.k.set_other (g' := G + 1 + 1) (by omega) 0 _).set_other (g' := G + 1 + 1 + 1) (by omega) 0 _, (HI.out.ch.setCell (p := ⟨G + 1 + 1, 0, none⟩) (.inl (by show G ≤ G + 1 + 1; omega)) _).setCell (p := ⟨G + 1 + 1 + 1, 0, none⟩) (.inl (by show G ≤ G + 1 + 1 + 1; omega)) _, by simp [World.setCell]; exact hs1⟩
        have := own_lt H2.out g hg
        rw [Below.heap_setCell _ _ _ _ (show g ≠ G + 1 + 1 + 1 by omega), Below.heap_setCell _ _ _ _ (show g ≠ G + 1 + 1 by omega)]
    · have hlen : L2.length ≤ 4000000 := by have := H5.out.nrm.len; omega
      obtain ⟨i0, hi0, hz0, hz1, hz2⟩ := info_parts sp_info
      have HLN := Lib.hid hlen
      gi_wp2_with (gi_at_builtin; refine wpListIn_append_own _ rfl _ _ 24 rfl n1 35 i0 (.agg #[iz 0, iz 0]) 2 16 Tryd.underlying24 hi0 hz0 hz1 hz2 rfl (by decide) v L2.length (L2.flatMap spc) rfl (own_ch H2.out ((Ch.refl _ _ _).alloc (Nat.le_refl _) _) (Nat.le_refl _)) ⟨W.heap.size, 0, none⟩ 1 1 [iz f, iz c.day] rfl rfl (sp_news W f c.day) (two_one f c.day) (by unfold maxLen; omega) (by omega) (by simp; omega) ?_; intro v' w1 hown' hgr hnil; obtain ⟨p', cc', rfl⟩ := own_val hown'; have HC1 := Lib.hid (ch_own (by simp; omega) (own_ch H2.out ((Ch.refl _ _ _).alloc (Nat.le_refl _) _) (Nat.le_refl _)) hgr); have HGR := Lib.hid hgr; have HO1 := Lib.hid hown'; have hg1 := (HC1.out.blk (H1.out.alloc _) (by omega) (fun q => q)).cell 0; have hg2 := (HC1.out.blk (H1.out.alloc _) (by omega) (fun q => q)).frozen 0; have hg3 := (HC1.out.blk (H3.out.alloc _) (by omega) (fun q => q)).cell 0; have hg4 := (HC1.out.blk (H3.out.alloc _) (by omega) (fun q => q)).frozen 0;  have hg5 := (HC1.out.blk (H4.out.alloc _) (by omega) (fun q => q)).cell 0; have hg6 := (HC1.out.blk (H4.out.alloc _) (by omega) (fun q => q)).frozen 0; clear hown' hgr hnil)
      have hkp : Kpt (G + 7) n1 W (((w1.setCell ⟨G + 1, 0, none⟩ (.slice p' (L2.length + 1) cc')).setCell ⟨G + 1 + 1, 0, none⟩ (iz c.day)).setCell ⟨G + 1 + 1 + 1, 0, none⟩ (.bool false)) := by
        refine ⟨by have := HC1.out.size; simp [World.setCell] at this ⊢; omega, fun k hk1 hk2 => ?_⟩
        rw [Below.heap_setCell _ _ _ _ (show k ≠ G + 1 + 1 + 1 by omega), Below.heap_setCell _ _ _ _ (show k ≠ G + 1 + 1 by omega), Below.heap_setCell _ _ _ _ (show k ≠ G + 1 by omega), HC1.out.block k hk2 (fun q => q), Below.heap_alloc _ _ _ (by omega)]
      have g1 := HC1.out.blk (H1.out.alloc (.cells #[iz f, iz c.day] 35)) (by omega) (fun q => q)
      have g3 := HC1.out.blk (H3.out.alloc (.cells #[iz f, iz c.day] 35)) (by omega) (fun q => q)
      have g4 := HC1.out.blk (H4.out.alloc (.cells #[iz f, iz c.day] 35)) (by omega) (fun q => q)
      have g0 := HC1.out.blk (HI.out.k.alloc (.cells #[iz f, iz c.day] 35)) (by omega) (fun q => q)
      refine ⟨?_, hkp, ⟨_, L2 ++ [(f, c.day)], c.day, false, ((g1.set 0 _).set_other (g' := G + 1 + 1) (by omega) 0 _).set_other (g' := G + 1 + 1 + 1) (by omega) 0 _, ?_, ((g3.set_other (g' := G + 1) (by omega) 0 _).set 0 _).set_other (g' := G + 1 + 1 + 1) (by omega) 0 _, (((g4.set_other (g' := G + 1) (by omega) 0 _).set_other (g' := G + 1 + 1) (by omega) 0 _).set 0 _), H5.out.close HR.out.stp.lt HR.out.stp.hi HQS.out HQC.out _⟩, ((g0.set_other (g' := G + 1) (by omega) 0 _).set_other (g' := G + 1 + 1) (by omega) 0 _).set_other (g' := G + 1 + 1 + 1) (by omega) 0 _, ?_, ?_⟩
      · refine (KeepsOthers.alloc W (.cells #[iz f, iz c.day] 35)).trans ((KeepsOthers.of_grownBy HGR.out fun j o hj ho => ?_).trans (((KeepsOthers.setCell _ _ _).trans (KeepsOthers.setCell _ _ _)).trans (KeepsOthers.setCell _ _ _)))
        obtain ⟨_, ⟨hv, _⟩ | ⟨g', cap', cur', hv, hb', hg', _⟩⟩ := H2.out
        · rw [hv] at hj; cases hj
        · rw [hv] at hj
          simp [Value.ownBlock] at hj
          subst hj
          rw [Below.heap_alloc _ _ _ (Array.getElem?_eq_some_iff.1 hg').1, hg'] at ho
          rw [← Option.some.inj ho]; rfl
      · rw [List.length_append, List.flatMap_append]
        refine own_keep HO1.out fun g hg => ?_
        have := own_lt HO1.out g hg
        rw [Below.heap_setCell _ _ _ _ (show g ≠ G + 1 + 1 + 1 by omega), Below.heap_setCell _ _ _ _ (show g ≠ G + 1 + 1 by omega), Below.heap_setCell _ _ _ _ (show g ≠ G + 1 by omega)]
      · have hC := (HI.out.ch.alloc (by omega) (.cells #[iz f, iz c.day] 35)).trans (HC1.out.mono (by omega) (fun _ _ q => q))
        exact ((hC.setCell (p := ⟨G + 1, 0, none⟩) (.inl (by show G ≤ G + 1; omega)) _).setCell (p := ⟨G + 1 + 1, 0, none⟩) (.inl (by show G ≤ G + 1 + 1; omega)) _).setCell (p := ⟨G + 1 + 1 + 1, 0, none⟩) (.inl (by show G ≤ G + 1 + 1 + 1; omega)) _
      · have := HC1.out.size
        simp [World.setCell] at this ⊢
        omega
    · gi_wp2
      exact HKE.out (by first | rfl | trivial)
  case done =>
    intro D n1 t W hD hD2 hn1 hf hi hK
    obtain ⟨v, L2, f, op, h1, h2, h3, h4, h5⟩ := hi.ex
    obtain ⟨p, m, rfl⟩ := own_val h2
    have c1 := h1.cell 0
    simp only [List.getElem?_cons_zero] at c1
    have hp := hi.put (.deferred none) hK rfl (by omega) (by omega)
    have hfin : Spn.nf Q = L2 := h5.fin fun d hd => by rw [HQQ.out, hf.a d hd, hf.b d hd, hq0]
    have hrd := (Rd.own spc_len h2 rfl).2
    have hrd2 : Rd spc 2 (W.putObj D (.deferred none)) p L2.length L2 := ⟨hrd.len, hrd.nil, fun a ha => by
      obtain ⟨r1, r2, r3⟩ := hrd.at' a ha
      refine ⟨r1, by simp; exact r2, fun i x hx j u hu => ?_⟩
      have := own_lt h2 a.block (by rw [ha]; rfl)
      rw [World.cell?_of_block (w := W) (a := ⟨a.block, a.off + i * 2 + j, none⟩) (World.putObj_heap_other (show a.block ≠ D by omega))]
      exact r3 i x hx j u hu⟩
    have HF := Lib.hid hfin
    have HRD := Lib.hid hrd2
    have HP := Lib.hid hp.ch
    clear h1 h2 h3 h4 h5 hp hrd hrd2 hfin hf hi
    gi_wp2
    refine ⟨by simp, .inl ⟨_, _, rfl, run_takeDeferred hK, ?_⟩⟩
    exact ⟨_, results_tmp rfl _ _ _, p, L2.length, m, rfl, by rw [HF.out]; exact HRD.out, by rw [HG.out]; exact HP.out⟩
end Go.Proofs.YtnbcfolmadkliaaDoor
