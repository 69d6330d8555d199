/- Package date's texts: digits, padded, written; a strings.Builder's WriteString. -/
import Derived.Test.YtehgkpbjbkeoeaaDoorDf
import Derived.Lib.AppendIntMem
import Derived.Lib.Repeat
import Derived.Lib.Builder
import Derived.Lib.FrozenHead
import Derived.Lib.OthersKept
namespace Go.Proofs.YtehgkpbjbkeoeaaDoor
open Go.RowKit Go.Shelf
abbrev Yd (w : World) (v : Value) (e : Ending) (w' : World) : Prop := e = .returned v ∧ Ch w.heap.size none1 w w'
theorem dtab_ch {P : Program} {w w' : World} {name : String} {k : IntKind} {zs : List Int} (h : Lib.TabIs P w name k zs) (hC : Ch w.heap.size none1 w w') : Lib.TabIs P w' name k zs := by
  unfold Lib.TabIs World.var? at *
  rcases hg : P.globalNamed name with _ | g
  · rw [hg] at h; simp at h
  · rw [hg] at h
    simp only [Option.bind_some] at h ⊢
    have hlt : g < w.heap.size := by
      rcases Nat.lt_or_ge g w.heap.size with q | q
      · exact q
      · rw [Array.getElem?_eq_none q] at h; simp at h
    rw [hC.block g hlt (fun q => q)]
    exact h
/-- What the listed variables hold. -/
structure Tw (w : World) : Prop where
  len : LenIs w
  pow : Lib.TabIs Tryd.prog w "internal/strconv.uint64pow10" .u64 Lib.pow10Tab
theorem Tw.ch {w w' : World} (h : Tw w) (hC : Ch w.heap.size none1 w w') : Tw w' := ⟨dtab_ch h.len hC, dtab_ch h.pow hC⟩
abbrev AnsW (f : Nat) (args : Array Value) (v : Value) : Prop := ∀ w : World, Tw w → Calls Tryd.prog f args w (Yd w v)
theorem dec_len (u : Nat) : 1 ≤ (Lib.decDigits u).length ∧ (Lib.decDigits u).length ≤ u + 1 := by
  induction u using Nat.strongRecOn with
  | _ u ih =>
    rw [Lib.decDigits]
    split
    · simp
    · have := ih (u / 10) (by omega)
      simp only [List.length_append, List.length_cons, List.length_nil]
      omega
theorem C_itoa {n : Int} (h0 : 0 ≤ n) (h1 : n ≤ 9223372036854775807) : AnsW 53 #[iz n] (S (Lib.decDigits n.toNat)) := fun w ht =>
  (Tryd.strconv_Itoa n (by omega) h1 w ht.pow).mono fun _ _ ⟨he, k, os, hw⟩ => ⟨by rw [he]; unfold Lib.itoa; rw [if_neg (by omega)], by rw [hw]; exact Ch.of_below (Lib.below_grow _ w (Nat.le_refl _) k os)⟩
theorem repeat_one (b : UInt8) (c : Nat) : Lib.repeatL [b] c = List.replicate c b := by
  induction c with
  | zero => rfl
  | succ c ih => rw [Lib.repeatL, ih, List.replicate_succ]; rfl
theorem C_zeros {c : Nat} (hc : c ≤ 1000) (w : World) : Calls Tryd.prog 54 #[S [48], .int .i64 (c : Int)] w (Yd w (S (List.replicate c 48))) :=
  (Tryd.strings_Repeat ⟨#[48]⟩ c w (by omega) (by show 1 * c ≤ _; omega)).mono fun _ _ ⟨he, hb⟩ => ⟨by rw [he, ← repeat_one], Ch.of_below hb⟩
theorem S_app (a b : List UInt8) : (ByteArray.mk a.toArray) ++ (ByteArray.mk b.toArray) = ⟨(a ++ b).toArray⟩ := by
  apply ByteArray.ext
  simp
theorem app_S {a b t : List UInt8} (h : a ++ b = t) : Value.string ((ByteArray.mk a.toArray) ++ (ByteArray.mk b.toArray)) = S t := by rw [← h, S, S_app]
set_option maxRecDepth 100000 in
set_option maxHeartbeats 800000 in
theorem C_padded {n K : Int} {k : Nat} {t : List UInt8} (hK : K = (k : Int)) (h0 : 0 ≤ n) (h1 : n ≤ 100000) (hk : k ≤ 100) (ht : Lay.pad k n = t) : AnsW 45 #[iz n, iz K] (S t) := fun w hw => by
  subst hK
  have HI := Lib.hid (C_itoa h0 (by omega) w hw)
  have hl := dec_len n.toNat
  unfold Lay.pad at ht
  obtain ⟨d, hd⟩ : ∃ d, Lib.decDigits n.toNat = d := ⟨_, rfl⟩
  rw [hd] at HI hl ht
  obtain ⟨c, hc⟩ : ∃ c, k - d.length = c := ⟨_, rfl⟩
  have hm : max 0 ((k : Int) - (d.length : Int)) = (c : Int) := by omega
  have HZ := Lib.hid (fun w' => C_zeros (c := c) (by omega) w')
  rw [hc] at ht
  obtain ⟨z, hz⟩ : ∃ z, List.replicate c (48 : UInt8) = z := ⟨_, rfl⟩
  have hzl : z.length ≤ 100 := by rw [← hz, List.length_replicate]; omega
  rw [hz] at HZ ht
  have HT := Lib.hid ht
  have l1 : d.length ≤ 100001 := by omega
  clear hd hc ht hl hz
  go_enter Tryd.func45, Tryd.ntmps45
  go_wp2_with fail
  with_reducible refine HI.out.mono ?_
  rintro e w1 ⟨rfl, hC1⟩
  have HC1 := Lib.hid hC1
  clear hC1
  go_wp2_with fail
  with_reducible refine (HZ.out _).mono ?_
  rintro e w2 ⟨rfl, hC2⟩
  have HC2 := Lib.hid hC2
  clear hC2
  go_wp2_with fail
  go_ret
  exact ⟨congrArg Ending.returned (app_S HT.out), HC1.out.trans (HC2.out.mono HC1.out.size (fun _ _ q => q))⟩
end Go.Proofs.YtehgkpbjbkeoeaaDoor
