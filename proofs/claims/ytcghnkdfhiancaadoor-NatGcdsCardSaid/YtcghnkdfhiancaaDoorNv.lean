/- Contract of package nat's Text at a number of one digit to the base 2^64. -/
import Derived.Test.YtcghnkdfhiancaaDoorNu
namespace Go.Proofs.YtcghnkdfhiancaaDoor
open Go.RowKit
theorem tab_ch {P : Program} {w w' : World} {name : String} {k : IntKind} {zs : List Int} (h : Lib.TabIs P w name k zs) (hC : Ch w.heap.size none1 w w') : Lib.TabIs P w' name k zs := by
  unfold Lib.TabIs World.var? at *
  cases hg : P.globalNamed name with
  | none => rw [hg] at h; simp at h
  | some g =>
    rw [hg] at h
    simp only [Option.bind_some] at h ⊢
    have hlt : g < w.heap.size := by
      rcases Nat.lt_or_ge g w.heap.size with q | q
      · exact q
      · rw [Array.getElem?_eq_none q] at h; simp at h
    rw [hC.block g hlt (fun q => q)]
    exact h
theorem below_ch {B : Nat} {w w' : World} (h : Below B w w') : Ch B none1 w w' := Ch.of_below h
def pow10Is (w : World) : Prop := Lib.TabIs Tryd.prog w "internal/strconv.uint64pow10" .u64 Lib.pow10Tab
set_option maxRecDepth 100000 in
set_option maxHeartbeats 1600000 in
theorem AppendUint_nil (u : Nat) (w : World) (hu : u < 18446744073709551616) (ht : pow10Is w) :
    Calls Tryd.prog 88 #[.slice none 0 0, .int .u64 u, .int .i64 10] w fun e w' => ∃ v', e = .returned v' ∧ w'.ownsRow w.heap.size 5 1 v' (Lib.decDigits u).length (Lib.byteCells (Lib.decDigits u)) ∧ Ch w.heap.size none1 w w' := by
  have hc := Tryd.internal_strconv_AppendUint_10 w.heap.size 0 u hu (.slice none 0 0) [] w (World.ownsRow_nil _ _ _ _) (Nat.le_refl _) (by omega) ht
  rw [Nat.zero_add] at hc
  have HC := Lib.hid hc; clear hc
  have HT := Lib.hid ht; clear ht
  go_enter Tryd.func88, Tryd.ntmps88
  go_wp2_with fail
  refine HC.out.mono ?_
  rintro e w1 ⟨v, rfl, ho, hb, _⟩
  go_wp2_with fail
  go_ret
  exact ⟨v, rfl, by simpa using ho, below_ch hb⟩
theorem decDigits_pos (u : Nat) : 0 < (Lib.decDigits u).length := by
  rcases Nat.eq_zero_or_pos (Lib.decDigits u).length with h | h
  · exfalso
    have := List.eq_nil_of_length_eq_zero h
    rw [Lib.decDigits] at this
    split at this <;> simp at this
  · exact h
set_option maxRecDepth 100000 in
set_option maxHeartbeats 1600000 in
theorem decimal_one (g o cap u : Nat) (w : World) (hd : Dg w (some ⟨g, o, none⟩) 1 [u]) (hu : u < 18446744073709551616) (ht : pow10Is w) :
    Calls Tryd.prog 63 #[.slice (some ⟨g, o, none⟩) 1 cap] w fun e w' => e = .returned (S (Lib.decDigits u)) ∧ Ch w.heap.size none1 w w' := by
  have c1 := hd.get 0 (by omega)
  rw [Nat.add_zero] at c1
  simp only [List.getElem_cons_zero] at c1
  have HT := Lib.hid ht; clear ht
  go_enter Tryd.func63, Tryd.ntmps63
  go_wp2_with fail
  go_loop [0, 3] (fun v q => v = .slice (some ⟨g, o, none⟩) 1 cap ∧ q = .slice none 0 0) (fun _ _ => 0)
  case atStart => exact ⟨rfl, rfl⟩
  case round =>
    obtain ⟨rfl, rfl⟩ := hrel
    go_wp2_with fail
    refine (AppendUint_nil u _ hu HT.out).mono ?_
    rintro e w1 ⟨v, rfl, ho, hC⟩
    have hown : w1.ownsRow w.heap.size 5 1 v (Lib.decDigits u).length ((Lib.decDigits u).map Y) := ho
    obtain ⟨h1, h2⟩ := hown
    clear ho
    rcases h2 with ⟨_, h0⟩ | ⟨g1, cap1, cur, rfl, hb, hg, hn, hm, hs, htk⟩
    · exact absurd h0 (by have := decDigits_pos u; omega)
    · have hB : Blk w1 g1 5 cur.toList := by unfold Blk; simpa using hg
      have htk2 : cur.toList.take (Lib.decDigits u).length = (Lib.decDigits u).map Y := by rw [← htk, Nat.mul_one]
      have hcv := run_convert_blk (P := Tryd.prog) w1 22 9 5 Tryd.underlying22 Tryd.underlying5 Tryd.underlying9 g1 0 (Lib.decDigits u).length cap1 (Lib.decDigits u) 5 cur.toList hB rfl (fun i hi => by
        have h1 := congrArg (·[i]?) htk2
        simp only [List.getElem?_take, List.getElem?_map] at h1
        rw [if_pos hi, List.getElem?_eq_getElem hi] at h1
        rw [Nat.zero_add, h1]; rfl)
      clear htk2 htk hs hg h1
      generalize hdd : Lib.decDigits u = dd at *
      have HDD := Lib.hid hdd; clear hdd
      go_wp2_with fail
      go_loop [5, 6] (fun v q => v = .slice (some ⟨g1, 0, none⟩) dd.length cap1 ∧ q = .int .i64 (-1)) (fun _ _ => 0)
      case atStart => exact ⟨rfl, rfl⟩
      case round =>
        obtain ⟨rfl, rfl⟩ := hrel
        go_wp2_with fail
        go_ret
        exact ⟨ret_S HDD.out.symm, hC⟩
set_option maxRecDepth 100000 in
set_option maxHeartbeats 1600000 in
theorem Text_one (a : List UInt8) (w : World) (ha : a.length ≤ LIM) (h0 : 0 < bv a) (h1 : bv a < D) (ht : pow10Is w) :
    Calls Tryd.prog 36 #[S a] w fun e w' => e = .returned (S (Lib.decDigits (bv a))) ∧ Ch w.heap.size none1 w w' := by
  have hl : ds (bv a) = [bv a] := by rw [ds_pos _ (by omega), Nat.mod_eq_of_lt h1, Nat.div_eq_of_lt h1, ds_zero]
  have HL := Lib.hid hl; clear hl
  have HT := Lib.hid ht; clear ht
  go_enter Tryd.func36, Tryd.ntmps36
  go_wp2_with fail
  refine (digitsOf_any a _ (by unfold LIM at ha; omega)).mono ?_
  rintro e w1 ⟨g1, rfl, hB1, hg1, hC1⟩
  have hd := dg_of_blk (post := []) (hB1.cast (by simp)) (dok_ds (bv a)) _ rfl
  rw [HL.out] at hd ⊢
  have HD := Lib.hid hd; clear hd hB1
  have htt := tab_ch HT.out hC1
  have HTT := Lib.hid htt; clear htt
  go_wp2_with fail
  refine (decimal_one g1 0 1 (bv a) _ HD.out h1 HTT.out).mono ?_
  rintro e w2 ⟨rfl, hC2⟩
  go_wp2_with fail
  go_ret
  exact ⟨rfl, hC1.step0 hC2 (Nat.le_refl _)⟩
end Go.Proofs.YtcghnkdfhiancaaDoor
