/- Package money: Parse of what is no text of an amount; the sentinels of package strconv. -/
import Derived.Test.YtnblmmhpndnjcaaGreatDoorWj
namespace Go.Proofs.YtnblmmhpndnjcaaGreatDoor
open Go.RowKit Go.Shelf
/-- What the listed variables hold, and the two sentinels of package strconv. -/
structure Ts (w : World) : Prop where
  tm : Tm w
  es : ∃ tp p, w.cell? ⟨6, 0, none⟩ = some (.iface tp p) ∧ 6 < w.heap.size
  er : ∃ tp p, w.cell? ⟨7, 0, none⟩ = some (.iface tp p) ∧ 7 < w.heap.size
theorem Ts.ch {w w' : World} (h : Ts w) (hC : Ch w.heap.size none1 w w') : Ts w' := by
  obtain ⟨ht, ⟨tp, p, h1, l1⟩, ⟨tq, q, h2, l2⟩⟩ := h
  refine ⟨ht.ch hC, ⟨tp, p, ?_, Nat.lt_of_lt_of_le l1 hC.size⟩, ⟨tq, q, ?_, Nat.lt_of_lt_of_le l2 hC.size⟩⟩
  · rw [hC.cell l1 (fun q => q)]; exact h1
  · rw [hC.cell l2 (fun q => q)]; exact h2
abbrev AnsS (f : Nat) (args : Array Value) (v : Value) : Prop := ∀ w : World, Ts w → Calls Tryz.prog f args w (Yld w v)
theorem AnsM.s {f : Nat} {args : Array Value} {v : Value} (h : AnsM f args v) : AnsS f args v := fun w ht => h w ht.tm
theorem atoi_bad {s : List UInt8} (hs : s.length ≤ 1000) (h : ∀ v, Lib.atoiAll s ≠ .ok v) (w : World) (ht : Ts w) : Calls Tryz.prog 73 #[S s] w fun e w' => ∃ z N, e = .returned (.tuple #[.int .i64 z, .iface 157 (.pointer (some ⟨N, 0, none⟩))]) ∧ Ch w.heap.size none1 w w' := by
  obtain ⟨tp, p, hc, -⟩ := ht.es
  obtain ⟨tq, q, hd, -⟩ := ht.er
  have hl : (ByteArray.mk s.toArray).size ≤ 281474976710656 := by
    show s.toArray.size ≤ _
    simp
    omega
  cases hx : Lib.atoiAll s with
  | ok v => exact absurd hx (h v)
  | range => exact (Any.strconv_Atoi_range Tryz.laysC172 ⟨s.toArray⟩ hl hx _ w hd (.inr ⟨_, _, rfl⟩)).mono fun _ _ ⟨N, he, _, _, hb⟩ => ⟨_, N, he, Ch.of_below hb⟩
  | _ => exact (Any.strconv_Atoi_syntax Tryz.laysC172 ⟨s.toArray⟩ hl hx _ w hc (.inr ⟨_, _, rfl⟩)).mono fun _ _ ⟨N, he, _, _, hb⟩ => ⟨_, N, he, Ch.of_below hb⟩
set_option maxRecDepth 100000 in
set_option maxHeartbeats 3200000 in
theorem C_mParse_bad {s : List UInt8} (hs : s.length ≤ 999) (h : ∀ v, Lib.atoiAll (unDot s) ≠ .ok v) : AnsS 31 #[S s] (.tuple #[Rv false [] [], .bool false]) := fun w ht => by
  have hl := trimD_len s
  have hu := unDot_len s
  have H1 := Lib.hid (C_trim s)
  have H2 := Lib.hid (C_repl (Lib.trimPrefix s [36]) (by omega))
  rw [show Lib.replace (Lib.trimPrefix s [36]) [46] [] 1 = unDot s from rfl] at H2
  obtain ⟨a, ha⟩ : ∃ a, Lib.trimPrefix s [36] = a := ⟨_, rfl⟩
  obtain ⟨b, hb⟩ : ∃ b, unDot s = b := ⟨_, rfl⟩
  rw [ha] at H1 H2
  rw [hb] at H2 h hu
  have H3 := Lib.hid (atoi_bad (s := b) (by omega) h)
  clear hl hu ha hb h hs
  have HT := Lib.hid ht
  have HK := Lib.hid ((Kq.nil w).new #[.bool false, S [], S []] 26)
  obtain ⟨B, hB⟩ : ∃ B, w.heap.size = B := ⟨_, rfl⟩
  rw [hB] at HK 
  have HBB := Lib.hid hB
  clear ht 
  have HF1 := Lib.hid (show ∀ W, Kq w W [(B, 26, [.bool false, S [], S []])] → W.cell? ⟨B, 0, none⟩ = some (.bool false) ∧ W.cell? ⟨B, 1, none⟩ = some (S []) ∧ W.cell? ⟨B, 2, none⟩ = some (S []) from fun W h => ⟨(h.row _ (.head _)).cell 0, (h.row _ (.head _)).cell 1, (h.row _ (.head _)).cell 2⟩)
  obtain ⟨cc0, cc1, cc2⟩ := HF1.out _ HK.out
  go_enter Tryz.func31, Tryz.ntmps31
  go_wp2_with fail
  clear hB
  refine (H1.out _).mono ?_
  rintro e w1 ⟨rfl, hC⟩
  have HK2 := Lib.hid (HK.out.on hC)
  clear cc0 cc1 cc2
  clear hC HK
  have HK := HK2
  clear HK2
  obtain ⟨cc0, cc1, cc2⟩ := HF1.out _ HK.out
  go_wp2_with fail
  refine (H2.out _ (HT.out.tm.ch HK.out.ch)).mono ?_
  rintro e w2 ⟨rfl, hC⟩
  have HK2 := Lib.hid (HK.out.on hC)
  clear cc0 cc1 cc2
  clear hC HK
  have HK := HK2
  clear HK2
  obtain ⟨cc0, cc1, cc2⟩ := HF1.out _ HK.out
  go_wp2_with fail
  refine (H3.out _ (HT.out.ch HK.out.ch)).mono ?_
  rintro e w3 ⟨z, N, rfl, hC⟩
  have HK2 := Lib.hid (HK.out.on hC)
  clear cc0 cc1 cc2
  clear hC HK
  have HK := HK2
  clear HK2
  obtain ⟨cc0, cc1, cc2⟩ := HF1.out _ HK.out
  have f0 := (HK.out.row _ (.head _)).frozen 0
  have f1 := (HK.out.row _ (.head _)).frozen 1
  have f2 := (HK.out.row _ (.head _)).frozen 2
  go_wp2_with fail
  have hp := HK.out.put (g := B) (.head _) (by have := HBB.out; omega) (.bool false) (S []) (S [])
  refine bodyPost_ret (results_cell_row_tmp (P := Tryz.prog) rfl _ _ (B) 26 _ (0, 0) _ rfl hp.1 Tryz.underlying26 rfl (by kernel_rfl)) rfl ?_
  exact ⟨rfl, hp.2⟩
/-- Code's Parse of what is no text of a number of cents. -/
theorem C_mParse_no {s : List UInt8} (hs : s.length ≤ 999) (h : ∀ c, i64m c → wtx c ≠ s) : AnsS 31 #[S s] (.tuple #[Rv false [] [], .bool false]) := by
  by_cases hx : ∃ v, Lib.atoiAll (unDot s) = .ok v
  · obtain ⟨v, hv⟩ := hx
    exact (C_mParse_ne hs hv (h v (Lib.atoiAll_bounds hv))).s
  · exact C_mParse_bad hs (fun v e => hx ⟨v, e⟩)
theorem C_mParse_yes {c : Int} {r : Bool} {k f : List UInt8} (hc : i64m c) (ic : Is ((c : Rat) * (1 / 100)) r k f) : AnsS 31 #[S (wtx c)] (.tuple #[Rv r k f, .bool true]) :=
  (C_mParse_ok (wtx_len hc.1 hc.2) (atoi_wtx hc.1 hc.2) rfl ic).s
end Go.Proofs.YtnblmmhpndnjcaaGreatDoor
