/- The reference's Right of layer 3. -/
import Derived.Test.YtehgkpbjbkeoeaaDoorDu
namespace Go.Proofs.YtehgkpbjbkeoeaaDoor
open Go.RowKit Go.Shelf
attribute [local go_sem] Oper.semAt_some
namespace Lay
theorem goodR_append (op : Bool) (ps qs : List Part) : goodR op (ps ++ qs) = (goodR op ps && goodR (after op ps) qs) := by
  induction ps generalizing op with
  | nil => simp [goodR, after]
  | cons p ps ih =>
    rw [List.cons_append, goodR, ih, goodR, Bool.and_assoc]
    congr 2
    cases ps with
    | nil => simp [after]
    | cons q ps => simp only [after, List.getLast?_cons, Option.getD_some]
theorem goodR_snoc (ps : List Part) (p : Part) : goodR false (ps ++ [p]) = (goodR false ps && nodeR (openAfter ps) p) := by
  rw [goodR_append]
  simp [goodR, after, openAfter]
/-- What the reference finds of a list of parts. -/
def fin (ps : List Part) : Bool := goodR false ps && (ps.countP isY == 1 && (ps.countP isM == 1 && ps.countP isD == 1))
theorem fin_bad {ps : List Part} {k : Nat} {p : Part} (h : k < ps.length) (hp : ps[k] = p) (hn : nodeR (openAfter (ps.take k)) p = false) : fin ps = false := by
  unfold fin
  have e : ps = (ps.take k ++ [p]) ++ ps.drop (k + 1) := by rw [← hp, ← List.take_succ_eq_append_getElem h, List.take_append_drop]
  rw [e, goodR_append, goodR_snoc, hn]
  simp
structure At (ps : List Part) (k : Nat) (o : Bool) (y m d : Nat) : Prop where
  o : openAfter (ps.take k) = o
  g : goodR false (ps.take k) = true
  y : (ps.take k).countP isY = y
  m : (ps.take k).countP isM = m
  d : (ps.take k).countP isD = d
theorem At.start (ps : List Part) : At ps 0 false 0 0 0 := ⟨rfl, rfl, rfl, rfl, rfl⟩
theorem At.step {ps : List Part} {k : Nat} {o : Bool} {y m d : Nat} (h : At ps k o y m d) {p : Part} (hk : k < ps.length) (hp : ps[k] = p) {o' : Bool} {y' m' d' : Nat} (ho : isO p = o') (hn : nodeR o p = true)
    (hy : y + (if isY p then 1 else 0) = y') (hm : m + (if isM p then 1 else 0) = m') (hd : d + (if isD p then 1 else 0) = d') : At ps (k + 1) o' y' m' d' := by
  have e : ps.take (k + 1) = ps.take k ++ [p] := by rw [← hp, List.take_succ_eq_append_getElem hk]
  refine ⟨?_, ?_, ?_, ?_, ?_⟩
  · rw [e, openAfter_snoc, ho]
  · rw [e, goodR_snoc, h.g, h.o, hn]; rfl
  · rw [e, List.countP_append, h.y, ← hy]; simp [List.countP_cons]
  · rw [e, List.countP_append, h.m, ← hm]; simp [List.countP_cons]
  · rw [e, List.countP_append, h.d, ← hd]; simp [List.countP_cons]
theorem At.bd {ps : List Part} {k : Nat} {o : Bool} {y m d : Nat} (h : At ps k o y m d) : y ≤ k ∧ m ≤ k ∧ d ≤ k := by
  have l : (ps.take k).length ≤ k := by rw [List.length_take]; omega
  have a := List.countP_le_length (p := isY) (l := ps.take k)
  have b := List.countP_le_length (p := isM) (l := ps.take k)
  have c := List.countP_le_length (p := isD) (l := ps.take k)
  rw [h.y] at a
  rw [h.m] at b
  rw [h.d] at c
  omega
theorem At.fin {ps : List Part} {o : Bool} {y m d : Nat} (h : At ps ps.length o y m d) : fin ps = (y == 1 && (m == 1 && d == 1)) := by
  have hg := h.g
  have hy := h.y
  have hm := h.m
  have hd := h.d
  rw [List.take_length] at hg hy hm hd
  unfold Lay.fin
  rw [hg, hy, hm, hd]
  rfl
theorem right_fin (l : Part) : right l = (decide (l.length ≤ 40) && (l.all okb && fin (parts l))) := right_ref l
end Lay
theorem all_ok_no {s : List UInt8} {k : Nat} {c : UInt8} (h : k < s.length) (hc : s[k] = c) (hd : Lay.okb c = false) : s.all Lay.okb = false := by
  rw [List.all_eq_false]
  exact ⟨c, hc ▸ List.getElem_mem h, by rw [hd]; simp⟩
theorem Sl.out {w : World} {B : Nat} {v : Value} {ps : List (List UInt8)} (h : Sl w B v ps) : ∃ p cap, v = .slice p ps.length cap ∧ ∀ j (h : j < ps.length), ∃ g, p = some ⟨g, 0, none⟩ ∧ (B ≤ g ∧ g < w.heap.size) ∧ w.cell? ⟨g, 0 + j, none⟩ = some (S ps[j]) := by
  rcases h with ⟨hp, p, cap, hv⟩ | ⟨g, cap, hv, hg, hc⟩
  · subst hp
    exact ⟨p, cap, hv, fun j h => absurd h (by simp)⟩
  · exact ⟨_, cap, hv, fun j h => ⟨g, rfl, hg, hc j h⟩⟩
set_option maxRecDepth 100000 in
set_option maxHeartbeats 4000000 in
theorem right_tail {w : World} {L : List UInt8} {R : Bool} (hR : R = Lay.fin (Lay.parts L)) (hL : L.length ≤ 40) (hok : L.all Lay.okb = true) :
    Calls Tryd.prog 29 #[S L] w (Yd w (.bool R)) := by
  have hpl : (Lay.parts L).length ≤ 40 := Nat.le_trans (Lay.parts_len L) hL
  have hpo := Lay.parts_ok L
  have HPA := Lib.hid (fun w' => Parts_any L hL w')
  obtain ⟨ps, hps⟩ : ∃ ps, Lay.parts L = ps := ⟨_, rfl⟩
  rw [hps] at hR hpl hpo HPA
  have HRR := Lib.hid hR
  have HPO := Lib.hid hpo
  have HOK := Lib.hid hok
  clear hR hpo hps hok
  go_enter Tryd.func29, Tryd.ntmps29
  go_wp2_with fail
  go_loop [3] (fun a => ∃ k : Nat, k ≤ L.length ∧ a = .int .i64 (k : Int)) (fun a => L.length - (intOf a).toNat)
  case atStart => exact ⟨0, Nat.zero_le _, rfl⟩
  case round =>
    obtain ⟨k, hk, rfl⟩ := hrel
    by_cases hlt : k < L.length
    · obtain ⟨c, hc⟩ : ∃ c, L[k] = c := ⟨_, rfl⟩
      have hg : ∀ h', (ByteArray.mk L.toArray)[k]'h' = c := fun _ => hc
      have hcok : Lay.okb c = true := List.all_eq_true.1 HOK.out c (hc ▸ List.getElem_mem hlt)
      unfold Lay.okb Lay.dig at hcok
      simp only [Bool.and_eq_true, decide_eq_true_eq, Bool.not_eq_true', Bool.and_eq_false_iff, decide_eq_false_iff_not] at hcok
      have h1 : ¬ (c.toNat : Int) < 32 := by omega
      have h2 : ¬ (126 : Int) < (c.toNat : Int) := by omega
      have hcl : c.toNat ≤ 126 := hcok.2.1
      have h34 := hcok.2.2
      clear hcok hc
      by_cases h3 : (48 : Int) ≤ (c.toNat : Int)
      · have h4 : ¬ (c.toNat : Int) ≤ 57 := by omega
        clear h34
        go_wp2_with fail
        go_round
        case rel => exact ⟨k + 1, hlt, by go_num⟩
        case measure => simp [intOf]; omega
      · clear h34
        go_wp2_with fail
        go_round
        case rel => exact ⟨k + 1, hlt, by go_num⟩
        case measure => simp [intOf]; omega
    · obtain rfl : k = L.length := by omega
      go_wp2_with fail
      refine (HPA.out _).mono ?_
      rintro e w1 ⟨⟨v, rfl, hsl⟩, hC⟩
      obtain ⟨p, cap, rfl, hcell⟩ := hsl.out
      have HC0 := Lib.hid hC
      have HCE := Lib.hid hcell
      clear hsl hC hcell
      obtain ⟨n, hn⟩ : ∃ n, ps.length = n := ⟨_, rfl⟩
      rw [hn] at hpl ⊢
      have HN := Lib.hid hn
      clear hn
      obtain ⟨G, hG⟩ : ∃ G, w1.heap.size = G := ⟨_, rfl⟩
      have hB0 := Blk.new w1 #[iz 0, iz 0, iz 0] 30
      rw [hG] at hB0
      have HB0 := Lib.hid hB0
      have HG := Lib.hid hG
      clear hB0
      go_wp2_with fail
      go_loopw [6, 7] (fun a b wr => ∃ (k : Nat) (o : Bool) (y m d : Nat), k ≤ n ∧ a = .bool o ∧ b = .int .i64 (k : Int) ∧ Lay.At ps k o y m d ∧ Blk wr G 30 [iz (y : Int), iz (m : Int), iz (d : Int)] ∧ Ch G none1 (w1.alloc (.cells #[iz 0, iz 0, iz 0] 30 (0, 0))) wr) (fun _ b _ => n - (intOf b).toNat)
      case atStart => exact ⟨0, false, 0, 0, 0, Nat.zero_le _, rfl, rfl, Lay.At.start ps, HB0.out, Ch.refl _ _ _⟩
      case round =>
        obtain ⟨k, o, y, m, d, hk, rfl, rfl, hat, hblk, hch⟩ := hrel
        have hbd := hat.bd
        have HAT := Lib.hid hat
        have HBK := Lib.hid hblk
        have HCH := Lib.hid hch
        have q0 := hblk.cell 0
        have q1 := hblk.cell 1
        have q2 := hblk.cell 2
        have g0 := hblk.frozen 0
        have g1 := hblk.frozen 1
        have g2 := hblk.frozen 2
        have y1 : (y : Int) ≤ 40 := by omega
        have m1 : (m : Int) ≤ 40 := by omega
        have d1 : (d : Int) ≤ 40 := by omega
        clear hat hblk hch hbd
        simp only [List.getElem?_cons_zero, List.getElem?_cons_succ] at q0 q1 q2
        have HE := Lib.hid (show ∀ W, Ch G none1 wr W → Ch w.heap.size none1 w W from fun W hW =>
          HC0.out.trans (((Ch.alloc (Ch.refl G none1 w1) (by rw [HG.out]; exact Nat.le_refl _) _).trans (HCH.out.trans hW)).mono (by rw [← HG.out]; exact HC0.out.size) (fun _ _ q => q)))
        by_cases hlt : k < n
        · obtain ⟨q, hq⟩ : ∃ q, ps[k]'(by rw [HN.out]; exact hlt) = q := ⟨_, rfl⟩
          obtain ⟨g, rfl, ⟨_, hgs⟩, hcl⟩ := HCE.out k (by rw [HN.out]; exact hlt)
          rw [hq] at hcl
          have hcw : wr.cell? ⟨g, 0 + k, none⟩ = some (S q) := by
            rw [HCH.out.cell (p := ⟨g, 0 + k, none⟩) (by show g < G; rw [← HG.out]; exact hgs) (fun q => q), (Ch.alloc (Ch.refl w1.heap.size none1 w1) (Nat.le_refl _) _).cell (p := ⟨g, 0 + k, none⟩) hgs (fun q => q)]
            exact hcl
          have hcw' : wr.cell? ⟨g, k, none⟩ = some (S q) := by rw [Nat.zero_add] at hcw; exact hcw
          have HPK := Lib.hid hq
          have hqo := HPO.out q (hq ▸ List.getElem_mem _)
          have HLT := Lib.hid (show k < ps.length by rw [HN.out]; exact hlt)
          have hne : ¬ g = G := by rw [← HG.out]; omega
          have hne' : ¬ G = g := fun q => hne q.symm
          clear hq hcl hgs
          cases hqo with
          | y =>
            cases o with
            | true =>
              have HR := Lib.hid (show R = false by rw [HRR.out]; exact Lay.fin_bad HLT.out HPK.out (by rw [HAT.out.o]; rfl))
              go_wp2_with fail
              go_ret
              exact ⟨by rw [HR.out]; rfl, HE.out _ ((Ch.refl G none1 wr).setCell (p := ⟨G, 0, none⟩) (.inl (Nat.le_refl _)) _)⟩
            | false =>
              have HAT2 := Lib.hid (HAT.out.step HLT.out HPK.out (o' := false) (y' := (y + 1)) (m' := m) (d' := d) rfl rfl rfl rfl rfl)
              go_wp2_with fail
              go_roundw
              case rel => exact ⟨k + 1, false, (y + 1), m, d, hlt, rfl, by go_num, HAT2.out, (HBK.out.set 0 _).cast (by simp), (HCH.out.setCell (p := ⟨G, 0, none⟩) (.inl (Nat.le_refl _)) _)⟩
              case measure => simp [intOf]; omega
          | mm =>
            cases o with
            | true =>
              have HR := Lib.hid (show R = false by rw [HRR.out]; exact Lay.fin_bad HLT.out HPK.out (by rw [HAT.out.o]; rfl))
              go_wp2_with fail
              go_ret
              exact ⟨by rw [HR.out]; rfl, HE.out _ ((Ch.refl G none1 wr).setCell (p := ⟨G, 1, none⟩) (.inl (Nat.le_refl _)) _)⟩
            | false =>
              have HAT2 := Lib.hid (HAT.out.step HLT.out HPK.out (o' := false) (y' := y) (m' := (m + 1)) (d' := d) rfl rfl rfl rfl rfl)
              go_wp2_with fail
              go_roundw
              case rel => exact ⟨k + 1, false, y, (m + 1), d, hlt, rfl, by go_num, HAT2.out, (HBK.out.set 1 _).cast (by simp), (HCH.out.setCell (p := ⟨G, 1, none⟩) (.inl (Nat.le_refl _)) _)⟩
              case measure => simp [intOf]; omega
          | m =>
            cases o with
            | true =>
              have HR := Lib.hid (show R = false by rw [HRR.out]; exact Lay.fin_bad HLT.out HPK.out (by rw [HAT.out.o]; rfl))
              go_wp2_with fail
              go_ret
              exact ⟨by rw [HR.out]; rfl, HE.out _ ((Ch.refl G none1 wr).setCell (p := ⟨G, 1, none⟩) (.inl (Nat.le_refl _)) _)⟩
            | false =>
              have HAT2 := Lib.hid (HAT.out.step HLT.out HPK.out (o' := true) (y' := y) (m' := (m + 1)) (d' := d) rfl rfl rfl rfl rfl)
              go_wp2_with fail
              go_roundw
              case rel => exact ⟨k + 1, true, y, (m + 1), d, hlt, rfl, by go_num, HAT2.out, (HBK.out.set 1 _).cast (by simp), (HCH.out.setCell (p := ⟨G, 1, none⟩) (.inl (Nat.le_refl _)) _)⟩
              case measure => simp [intOf]; omega
          | dd =>
            cases o with
            | true =>
              have HR := Lib.hid (show R = false by rw [HRR.out]; exact Lay.fin_bad HLT.out HPK.out (by rw [HAT.out.o]; rfl))
              go_wp2_with fail
              go_ret
              exact ⟨by rw [HR.out]; rfl, HE.out _ ((Ch.refl G none1 wr).setCell (p := ⟨G, 2, none⟩) (.inl (Nat.le_refl _)) _)⟩
            | false =>
              have HAT2 := Lib.hid (HAT.out.step HLT.out HPK.out (o' := false) (y' := y) (m' := m) (d' := (d + 1)) rfl rfl rfl rfl rfl)
              go_wp2_with fail
              go_roundw
              case rel => exact ⟨k + 1, false, y, m, (d + 1), hlt, rfl, by go_num, HAT2.out, (HBK.out.set 2 _).cast (by simp), (HCH.out.setCell (p := ⟨G, 2, none⟩) (.inl (Nat.le_refl _)) _)⟩
              case measure => simp [intOf]; omega
          | d =>
            cases o with
            | true =>
              have HR := Lib.hid (show R = false by rw [HRR.out]; exact Lay.fin_bad HLT.out HPK.out (by rw [HAT.out.o]; rfl))
              go_wp2_with fail
              go_ret
              exact ⟨by rw [HR.out]; rfl, HE.out _ ((Ch.refl G none1 wr).setCell (p := ⟨G, 2, none⟩) (.inl (Nat.le_refl _)) _)⟩
            | false =>
              have HAT2 := Lib.hid (HAT.out.step HLT.out HPK.out (o' := true) (y' := y) (m' := m) (d' := (d + 1)) rfl rfl rfl rfl rfl)
              go_wp2_with fail
              go_roundw
              case rel => exact ⟨k + 1, true, y, m, (d + 1), hlt, rfl, by go_num, HAT2.out, (HBK.out.set 2 _).cast (by simp), (HCH.out.setCell (p := ⟨G, 2, none⟩) (.inl (Nat.le_refl _)) _)⟩
              case measure => simp [intOf]; omega
          | one c h1 h2 =>
            have e1 : (c == 77) = false := by simpa using h1
            have e2 : (c == 68) = false := by simpa using h2
            have f1 : Lay.isY [c] = false := by simp [Lay.isY]
            have f2 : Lay.isM [c] = false := by simp [Lay.isM, h1]
            have f3 : Lay.isD [c] = false := by simp [Lay.isD, h2]
            have f4 : Lay.isO [c] = false := by simp [Lay.isO, h1, h2]
            have hF : Lay.isF [c] = false := by simp [Lay.isF, f1, f2, f3]
            have FF := Lib.hid (And.intro f1 (And.intro f2 (And.intro f3 (And.intro f4 hF))))
            clear f1 f2 f3 f4 hF
            by_cases h89 : c = 89
            · subst h89
              have HR := Lib.hid (show R = false by rw [HRR.out]; exact Lay.fin_bad HLT.out HPK.out (by unfold Lay.nodeR; rw [FF.out.2.2.2.2]; rfl))
              go_wp2_with fail
              go_ret
              exact ⟨by rw [HR.out]; rfl, HE.out _ (Ch.refl G none1 wr)⟩
            · have e3 : (c == 89) = false := by simpa using h89
              have HAT2 := Lib.hid (HAT.out.step HLT.out HPK.out (o' := false) (y' := y) (m' := m) (d' := d) FF.out.2.2.2.1 (by unfold Lay.nodeR; rw [FF.out.2.2.2.2]; simp [h89]) (by rw [FF.out.1]; rfl) (by rw [FF.out.2.1]; rfl) (by rw [FF.out.2.2.1]; rfl))
              cases o with
              | true =>
                go_wp2_with fail
                go_roundw
                case rel => exact ⟨k + 1, false, y, m, d, hlt, rfl, by go_num, HAT2.out, HBK.out, HCH.out⟩
                case measure => simp [intOf]; omega
              | false =>
                go_wp2_with fail
                go_roundw
                case rel => exact ⟨k + 1, false, y, m, d, hlt, rfl, by go_num, HAT2.out, HBK.out, HCH.out⟩
                case measure => simp [intOf]; omega
        · obtain rfl : k = n := by omega
          have HF := Lib.hid (show R = (y == 1 && (m == 1 && d == 1)) by rw [HRR.out]; exact Lay.At.fin (o := o) (by rw [HN.out]; exact HAT.out))
          by_cases hy : y = 1
          · subst hy
            by_cases hm : m = 1
            · subst hm
              by_cases hd : d = 1
              · subst hd
                have HR := Lib.hid (show R = true by rw [HF.out]; rfl)
                go_wp2_with fail
                go_ret
                exact ⟨by rw [HR.out]; rfl, HE.out _ (Ch.refl G none1 wr)⟩
              · have hd' : ((d : Int) == 1) = false := beq_eq_false_iff_ne.2 (by omega)
                have hb : (d == 1) = false := beq_eq_false_iff_ne.2 hd
                have HR := Lib.hid (show R = false by rw [HF.out]; rw [hb]; rfl)
                go_wp2_with fail
                go_ret
                exact ⟨by rw [HR.out]; rfl, HE.out _ (Ch.refl G none1 wr)⟩
            · have hm' : ((m : Int) == 1) = false := beq_eq_false_iff_ne.2 (by omega)
              have hb : (m == 1) = false := beq_eq_false_iff_ne.2 hm
              have HR := Lib.hid (show R = false by rw [HF.out]; rw [hb]; rfl)
              go_wp2_with fail
              go_ret
              exact ⟨by rw [HR.out]; rfl, HE.out _ (Ch.refl G none1 wr)⟩
          · have hy' : ((y : Int) == 1) = false := beq_eq_false_iff_ne.2 (by omega)
            have hb : (y == 1) = false := beq_eq_false_iff_ne.2 hy
            have HR := Lib.hid (show R = false by rw [HF.out]; rw [hb]; rfl)
            go_wp2_with fail
            go_ret
            exact ⟨by rw [HR.out]; rfl, HE.out _ (Ch.refl G none1 wr)⟩
set_option maxRecDepth 100000 in
set_option maxHeartbeats 2000000 in
theorem right_byte {w : World} {L : List UInt8} (hL : L.length ≤ 40) (hok : L.all Lay.okb = false) :
    Calls Tryd.prog 29 #[S L] w (Yd w (.bool false)) := by
  have HOK := Lib.hid hok
  clear hok
  go_enter Tryd.func29, Tryd.ntmps29
  go_wp2_with fail
  go_loop [3] (fun a => ∃ k : Nat, k ≤ L.length ∧ a = .int .i64 (k : Int) ∧ (L.take k).all Lay.okb = true) (fun a => L.length - (intOf a).toNat)
  case atStart => exact ⟨0, Nat.zero_le _, rfl, rfl⟩
  case round =>
    obtain ⟨k, hk, rfl, hal⟩ := hrel
    have HAL := Lib.hid hal
    clear hal
    by_cases hlt : k < L.length
    · obtain ⟨c, hc⟩ : ∃ c, L[k] = c := ⟨_, rfl⟩
      have hg : ∀ h', (ByteArray.mk L.toArray)[k]'h' = c := fun _ => hc
      have HT := Lib.hid (take_succ_at hlt hc)
      have hcok : Lay.okb c = (decide (32 ≤ c.toNat) && (decide (c.toNat ≤ 126) && !(decide (48 ≤ c.toNat) && decide (c.toNat ≤ 57)))) := rfl
      have HK := Lib.hid hcok
      have hc255 : c.toNat ≤ 255 := by have := c.toNat_lt; omega
      clear hcok hc
      by_cases h1 : (c.toNat : Int) < 32
      · go_wp2_with fail
        go_ret
        exact ⟨rfl, Ch.refl _ _ _⟩
      · by_cases h2 : (126 : Int) < (c.toNat : Int)
        · go_wp2_with fail
          go_ret
          exact ⟨rfl, Ch.refl _ _ _⟩
        · by_cases h3 : (48 : Int) ≤ (c.toNat : Int)
          · by_cases h4 : (c.toNat : Int) ≤ 57
            · go_wp2_with fail
              go_ret
              exact ⟨rfl, Ch.refl _ _ _⟩
            · have HA2 := Lib.hid (show (L.take (k + 1)).all Lay.okb = true by
                rw [HT.out, List.all_append, HAL.out]
                simp [HK.out]
                omega)
              go_wp2_with fail
              go_round
              case rel => exact ⟨k + 1, hlt, by go_num, HA2.out⟩
              case measure => simp [intOf]; omega
          · have HA2 := Lib.hid (show (L.take (k + 1)).all Lay.okb = true by
              rw [HT.out, List.all_append, HAL.out]
              simp [HK.out]
              omega)
            go_wp2_with fail
            go_round
            case rel => exact ⟨k + 1, hlt, by go_num, HA2.out⟩
            case measure => simp [intOf]; omega
    · exfalso
      have h := HAL.out
      rw [List.take_of_length_le (by omega), HOK.out] at h
      cases h
set_option maxRecDepth 100000 in
set_option maxHeartbeats 2000000 in
theorem right_long {w : World} {L : List UInt8} (hL : 40 < L.length) (hL2 : L.length ≤ 9223372036854775807) :
    Calls Tryd.prog 29 #[S L] w (Yd w (.bool false)) := by
  have hl : (40 : Int) < (L.length : Int) := by omega
  go_enter Tryd.func29, Tryd.ntmps29
  go_wp2_with fail
  go_ret
  exact ⟨rfl, Ch.refl _ _ _⟩
theorem R_Right {L : List UInt8} {b : Bool} (hL : L.length ≤ 9223372036854775807) (hb : Lay.right L = b) (w : World) : Calls Tryd.prog 29 #[S L] w (Yd w (.bool b)) := by
  subst hb
  by_cases h40 : L.length ≤ 40
  · cases hok : L.all Lay.okb
    · have : Lay.right L = false := by rw [Lay.right_fin, hok]; simp
      rw [this]
      exact right_byte h40 hok
    · exact right_tail (by rw [Lay.right_fin, hok, decide_eq_true h40]; rfl) h40 hok
  · have : Lay.right L = false := by rw [Lay.right_fin, decide_eq_false h40]; rfl
    rw [this]
    exact right_long (by omega) hL
end Go.Proofs.YtehgkpbjbkeoeaaDoor
