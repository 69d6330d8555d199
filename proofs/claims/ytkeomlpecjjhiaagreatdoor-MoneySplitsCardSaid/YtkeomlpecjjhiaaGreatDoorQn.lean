/- Package ratio's each. -/
import Derived.Test.YtkeomlpecjjhiaaGreatDoorQm
namespace Go.Proofs.YtkeomlpecjjhiaaGreatDoor
open Go.RowKit
set_option maxRecDepth 100000
structure Fl (w wr : World) (R : Nat → Prop) (G n : Nat) (fl : List T3) (k : Nat) : Prop where
 blk : ∃ cs, Blk wr G 26 cs ∧ cs.length = n * 3 ∧ cs.take (k * 3) = rcs (fl.take k)
 ch : Ch w.heap.size R w wr
 ge : w.heap.size ≤ G
theorem Fl.start {w : World} {R : Nat → Prop} {G : Nat} (hG : w.heap.size = G) (n : Nat) (fl : List T3) : Fl w (w.alloc (.cells (madeCells #[.bool false, S [], S []] (n * 3)) 26 (0, 0))) R G n fl 0 :=
 ⟨⟨_, hG ▸ Blk.new w _ _, by rw [Array.length_toList, size_madeCells], by rw [Nat.zero_mul, List.take_zero, List.take_zero]; rfl⟩, (Ch.refl _ _ _).alloc (Nat.le_refl _) _, by omega⟩
theorem Fl.on {w wr W : World} {R R' : Nat → Prop} {G n k : Nat} {fl : List T3} (h : Fl w wr R G n fl k) (hC : Ch wr.heap.size R' wr W) (hR : ¬ R' G) (h0 : ∀ j, j < w.heap.size → R' j → R j) : Fl w W R G n fl k := by
 obtain ⟨cs, h1, h2, h3⟩ := h.blk
 exact ⟨⟨cs, hC.blk h1 h1.lt hR, h2, h3⟩, h.ch.step hC (Nat.le_refl _) h0, h.ge⟩
theorem Fl.alloc {w wr : World} {R : Nat → Prop} {G n k : Nat} {fl : List T3} (h : Fl w wr R G n fl k) (ob : Obj) : Fl w (wr.alloc ob) R G n fl k := h.on (R' := none1) ((Ch.refl _ _ _).alloc (Nat.le_refl _) ob) (fun q => q) (fun _ _ q => q.elim)
theorem Fl.slots {w wr : World} {R : Nat → Prop} {G n k : Nat} {fl : List T3} (h : Fl w wr R G n fl k) (hk : k < n) : ∃ x y z, wr.cell? ⟨G, k * 3, none⟩ = some x ∧ wr.cell? ⟨G, k * 3 + 1, none⟩ = some y ∧ wr.cell? ⟨G, k * 3 + 2, none⟩ = some z ∧ wr.frozen? ⟨G, k * 3, none⟩ = false ∧ wr.frozen? ⟨G, k * 3 + 1, none⟩ = false ∧ wr.frozen? ⟨G, k * 3 + 2, none⟩ = false := by
 obtain ⟨cs, h1, h2, h3⟩ := h.blk
 exact ⟨_, _, _, (h1.cell _).trans (List.getElem?_eq_getElem (show k * 3 < cs.length by omega)), (h1.cell _).trans (List.getElem?_eq_getElem (show k * 3 + 1 < cs.length by omega)), (h1.cell _).trans (List.getElem?_eq_getElem (show k * 3 + 2 < cs.length by omega)), h1.frozen _, h1.frozen _, h1.frozen _⟩
theorem Fl.put {w wr : World} {R : Nat → Prop} {G n k : Nat} {fl : List T3} (h : Fl w wr R G n fl k) (hk : k < n) {t : T3} (ht : fl[k]? = some t) : Fl w (((wr.setCell ⟨G, k * 3, none⟩ (.bool t.1)).setCell ⟨G, k * 3 + 1, none⟩ (S t.2.1)).setCell ⟨G, k * 3 + 2, none⟩ (S t.2.2)) R G n fl (k + 1) := by
 obtain ⟨cs, h1, h2, h3⟩ := h.blk
 have hlen : (fl.take k).length = k := by rw [List.length_take]; have := (List.getElem?_eq_some_iff.1 ht).1; omega
 refine ⟨⟨_, ((h1.set (k * 3) (.bool t.1)).set (k * 3 + 1) (S t.2.1)).set (k * 3 + 2) (S t.2.2), by simp [h2], ?_⟩, ((h.ch.setCell (p := ⟨G, k * 3, none⟩) (.inl h.ge) _).setCell (p := ⟨G, k * 3 + 1, none⟩) (.inl h.ge) _).setCell (p := ⟨G, k * 3 + 2, none⟩) (.inl h.ge) _, h.ge⟩
 rw [put_row cs k n (fl.take k) t h2 hk hlen h3, List.take_add_one, ht]
 rfl
theorem Fl.done {w wr : World} {R : Nat → Prop} {G n : Nat} {fl : List T3} (h : Fl w wr R G n fl n) (hl : fl.length = n) : Blk wr G 26 (rcs fl) := by
 obtain ⟨cs, h1, h2, h3⟩ := h.blk
 rw [← h2, List.take_of_length_le (Nat.le_refl _), List.take_of_length_le (by omega)] at h3
 exact h1.cast h3
structure Fk (w wr : World) (R : Nat → Prop) (G n : Nat) (fl : List Value) (k : Nat) : Prop where
 blk : ∃ cs, Blk wr G 24 cs ∧ cs.length = n ∧ cs.take k = fl.take k
 ch : Ch w.heap.size R w wr
 ge : w.heap.size ≤ G
theorem Fk.start {w : World} {R : Nat → Prop} {G : Nat} (hG : w.heap.size = G) (n : Nat) (fl : List Value) : Fk w (w.alloc (.cells (madeCells #[S []] n) 24 (0, 0))) R G n fl 0 :=
 ⟨⟨_, hG ▸ Blk.new w _ _, by rw [Array.length_toList, size_madeCells], by rw [List.take_zero, List.take_zero]⟩, (Ch.refl _ _ _).alloc (Nat.le_refl _) _, by omega⟩
theorem Fk.on {w wr W : World} {R R' : Nat → Prop} {G n k : Nat} {fl : List Value} (h : Fk w wr R G n fl k) (hC : Ch wr.heap.size R' wr W) (hR : ¬ R' G) (h0 : ∀ j, j < w.heap.size → R' j → R j) : Fk w W R G n fl k := by
 obtain ⟨cs, h1, h2, h3⟩ := h.blk
 exact ⟨⟨cs, hC.blk h1 h1.lt hR, h2, h3⟩, h.ch.step hC (Nat.le_refl _) h0, h.ge⟩
theorem Fk.alloc {w wr : World} {R : Nat → Prop} {G n k : Nat} {fl : List Value} (h : Fk w wr R G n fl k) (ob : Obj) : Fk w (wr.alloc ob) R G n fl k := h.on (R' := none1) ((Ch.refl _ _ _).alloc (Nat.le_refl _) ob) (fun q => q) (fun _ _ q => q.elim)
theorem Fk.slots {w wr : World} {R : Nat → Prop} {G n k : Nat} {fl : List Value} (h : Fk w wr R G n fl k) (hk : k < n) : ∃ x, wr.cell? ⟨G, k, none⟩ = some x ∧ wr.frozen? ⟨G, k, none⟩ = false := by
 obtain ⟨cs, h1, h2, h3⟩ := h.blk
 exact ⟨_, (h1.cell _).trans (List.getElem?_eq_getElem (show k < cs.length by omega)), h1.frozen _⟩
theorem Fk.put {w wr : World} {R : Nat → Prop} {G n k : Nat} {fl : List Value} (h : Fk w wr R G n fl k) (hk : k < n) {v : Value} (ht : fl[k]? = some v) : Fk w (wr.setCell ⟨G, k, none⟩ v) R G n fl (k + 1) := by
 obtain ⟨cs, h1, h2, h3⟩ := h.blk
 refine ⟨⟨_, h1.set k v, by simp [h2], ?_⟩, h.ch.setCell (p := ⟨G, k, none⟩) (.inl h.ge) _, h.ge⟩
 rw [List.take_add_one, List.take_add_one, ht, List.take_set_of_le (Nat.le_refl _), h3, List.getElem?_set_self (by omega)]
theorem Fk.done {w wr : World} {R : Nat → Prop} {G n : Nat} {fl : List Value} (h : Fk w wr R G n fl n) (hl : fl.length = n) : Blk wr G 24 fl := by
 obtain ⟨cs, h1, h2, h3⟩ := h.blk
 rw [← h2, List.take_of_length_le (Nat.le_refl _), List.take_of_length_le (by omega)] at h3
 exact h1.cast h3
def bad (l : List T3) : Bool := l.any fun t => !rightR t.1 t.2.1 t.2.2
theorem bad_take (l : List T3) (k : Nat) (t : T3) (h : l[k]? = some t) : bad (l.take (k + 1)) = (bad (l.take k) || !rightR t.1 t.2.1 t.2.2) := by
 unfold bad
 rw [List.take_add_one, h, List.any_append]
 simp
set_option maxHeartbeats 3200000 in
theorem each_witness (w : World) (p : Option Addr) (n cap : Nat) (l : List T3) (hv : Rs w p n l) (_ht : Tb w) (hsz : ∀ t ∈ l, t.2.1.length ≤ 1000 ∧ t.2.2.length ≤ 1000) (gw : Nat) (hw : Blk w gw 97 [.bool false]) (hpw : ∀ a, p = some a → a.block ≠ gw) (hw0 : gw ≠ 2) (htb : ∀ W, Ch w.heap.size (· = gw) w W → Tb W) (hn : n ≤ 1000) :
  Calls Tryz.prog 89 #[.slice p n cap, .func (.func 90) #[.pointer (some ⟨gw, 0, none⟩)] #[]] w fun e w' => e = .returned (.slice (some ⟨w.heap.size, 0, none⟩) n n) ∧ Blk w' w.heap.size 26 (rcs (l.map fun t => pt (rof t))) ∧ Blk w' gw 97 [.bool (bad l)] ∧ Ch w.heap.size (· = gw) w w' := by
 have hmk : ∀ W : World, (Instr.makeSlice 32 (.int .i64 (n : Int)) (.int .i64 (n : Int))).run Tryz.prog W = .ok (.slice (some ⟨W.heap.size, 0, none⟩) n n) (W.alloc (.cells (madeCells #[.bool false, S [], S []] (n * 3)) 26)) := fun W => by
  have hinf : (Tryz.prog.info? 26).map (fun i => (i.zero, i.size, i.bytes)) = some (some (.agg #[.bool false, S [], S []]), 3, 40) := by kernel_rfl
  obtain ⟨i0, hi, hz0, hz1, hz2⟩ := info_parts hinf
  have h := run_make (P := Tryz.prog) W 32 26 i0 (.agg #[.bool false, S [], S []]) Tryz.underlying32 hi hz0 .i64 .i64 n n (by omega) (Int.le_refl _) (by rw [hz2]; omega) (by omega)
  rw [hz1] at h
  simp only [Int.toNat_natCast] at h
  exact h
 have HV := Lib.hid hv
 have HT := Lib.hid htb
 have HS := Lib.hid hsz
 have HP := Lib.hid hpw
 have HW := Lib.hid hw
 have hgl := hw.lt
 clear hv _ht hsz htb hpw hw
 obtain ⟨G, hG⟩ : ∃ G, w.heap.size = G := ⟨_, rfl⟩
 rw [hG]
 go_enter Tryz.func89, Tryz.ntmps89
 go_wp2_with fail
 go_loopw [13] (fun i wr => ∃ k : Nat, k ≤ n ∧ i = .int .i64 k ∧ Fl w wr (· = gw) G n (l.map fun t => pt (rof t)) k ∧ Blk wr gw 97 [.bool (bad (l.take k))]) (fun i _ => n - (intOf i).toNat)
 case atStart => exact ⟨0, Nat.zero_le _, rfl, Fl.start hG n _, HW.out.alloc _⟩
 case round =>
  obtain ⟨k, hk, rfl, hrel⟩ := hrel
  have HR := Lib.hid hrel
  clear hrel
  by_cases hlt : k < n
  ·obtain ⟨g, o, rfl⟩ := HV.out.addr (by omega)
   obtain ⟨t, ht⟩ : ∃ t, l[k]? = some t := ⟨l[k]'(by rw [HV.out.len]; exact hlt), List.getElem?_eq_getElem _⟩
   have h1 := fun W hT hB => wit_any gw (bad (l.take k)) (s := t.1) (n := t.2.1) (d := t.2.2) W (HS.out t (List.mem_of_getElem? ht)).1 (HS.out t (List.mem_of_getElem? ht)).2 hT hB hw0 (pt_is (rof t))
   rw [← bad_take l k t ht] at h1
   have H1 := Lib.hid h1
   clear h1
   have hpg : g ≠ gw := HP.out _ rfl
   obtain ⟨c0, c1, c2⟩ := (HV.out.chR HR.out.1.ch (fun a ha q => by obtain rfl := Option.some.inj ha; exact hpg q)).get ht
   have HL := Lib.hid ht
   obtain ⟨s0, n0, d0⟩ := t
   simp only at c0 c1 c2
   simp only at H1
   clear ht
   have HFL := Lib.hid (show (l.map fun t => pt (rof t))[k]? = some (pt (rof (s0, n0, d0))) by rw [List.getElem?_map, HL.out]; rfl)
   obtain ⟨⟨s1, n1, d1⟩, hq⟩ : ∃ q, pt (rof (s0, n0, d0)) = q := ⟨_, rfl⟩
   rw [hq] at H1 HFL
   obtain ⟨bb, hbb⟩ : ∃ bb, bad (l.take (k + 1)) = bb := ⟨_, rfl⟩
   rw [hbb] at H1
   have HBB := Lib.hid hbb
   clear hq hbb
   have hGg : ¬ G = gw := by omega
   go_wp2_with fail
   refine (H1.out _ (HT.out _ (HR.out.1.alloc _).ch) (HR.out.2.alloc _)).mono ?_
   rintro e wq ⟨rfl, hB, hC⟩
   have HF2 := Lib.hid ((HR.out.1.alloc _).on hC hGg (fun _ _ q => q))
   have HB2 := Lib.hid hB
   clear hC HR c0 c1 c2 hB
   obtain ⟨x0, y0, z0, e0, e1, e2, f0, f1, f2⟩ := HF2.out.slots hlt
   go_wp2_with fail
   go_roundw
   case rel =>
    refine ⟨k + 1, by omega, by go_num, ?_⟩
    clear hmk
    have hh := HF2.out.put hlt HFL.out
    have hb := ((HB2.out.set_other (show gw ≠ G by omega) (k * 3) (.bool s1)).set_other (show gw ≠ G by omega) (k * 3 + 1) (S n1)).set_other (show gw ≠ G by omega) (k * 3 + 2) (S d1)
    rw [← HBB.out] at hb
    with_reducible exact ⟨hh, hb⟩
   case measure => simp [intOf]; omega
  ·have hkn : k = n := by omega
   subst hkn
   go_wp2
   go_ret
   refine ⟨rfl, HR.out.1.done (by rw [List.length_map, HV.out.len]), ?_, hG ▸ HR.out.1.ch⟩
   have hb := HR.out.2
   rw [List.take_of_length_le (by rw [HV.out.len]; exact Nat.le_refl _)] at hb
   exact hb
theorem C_den (s : Bool) (n d : List UInt8) : Ans 95 #[Rv s n d] (S d) := fun w => by
 have HB := Lib.hid (Box.one w #[.bool s, S n, S d])
 obtain ⟨B, hB⟩ : ∃ B, w.heap.size = B := ⟨_, rfl⟩
 rw [hB] at HB
 obtain ⟨a0, a1, a2⟩ := HB.out.cells1
 go_enter Tryz.func95, Tryz.ntmps95
 go_wp2_with fail
 go_ret
 exact ⟨rfl, HB.out.ch⟩
set_option maxHeartbeats 3200000 in
theorem each_den (w : World) (p : Option Addr) (n cap : Nat) (l : List T3) (hv : Rs w p n l)  (hn : n ≤ 1000) :
  Calls Tryz.prog 94 #[.slice p n cap, .func (.func 95) #[] #[]] w fun e w' => e = .returned (.slice (some ⟨w.heap.size, 0, none⟩) n n) ∧ Blk w' w.heap.size 24 (l.map fun t => S t.2.2) ∧ Ch w.heap.size none1 w w' := by
 have hmk : ∀ W : World, (Instr.makeSlice 66 (.int .i64 (n : Int)) (.int .i64 (n : Int))).run Tryz.prog W = .ok (.slice (some ⟨W.heap.size, 0, none⟩) n n) (W.alloc (.cells (madeCells #[S []] n) 24)) := fun W => by
  have hinf : (Tryz.prog.info? 24).map (fun i => (i.zero, i.size, i.bytes)) = some (some (S []), 1, 16) := by kernel_rfl
  obtain ⟨i0, hi, hz0, hz1, hz2⟩ := info_parts hinf
  have h := run_make (P := Tryz.prog) W 66 24 i0 (S []) Tryz.underlying66 hi hz0 .i64 .i64 n n (by omega) (Int.le_refl _) (by rw [hz2]; omega) (by omega)
  rw [hz1] at h
  simp only [Int.toNat_natCast, Nat.mul_one] at h
  exact h
 have HV := Lib.hid hv
 clear hv
 obtain ⟨G, hG⟩ : ∃ G, w.heap.size = G := ⟨_, rfl⟩
 rw [hG]
 go_enter Tryz.func94, Tryz.ntmps94
 go_wp2_with fail
 go_loopw [13] (fun i wr => ∃ k : Nat, k ≤ n ∧ i = .int .i64 k ∧ Fk w wr none1 G n (l.map fun t => S t.2.2) k) (fun i _ => n - (intOf i).toNat)
 case atStart => exact ⟨0, Nat.zero_le _, rfl, Fk.start hG n _⟩
 case round =>
  obtain ⟨k, hk, rfl, hrel⟩ := hrel
  have HR := Lib.hid hrel
  clear hrel
  by_cases hlt : k < n
  ·obtain ⟨g, o, rfl⟩ := HV.out.addr (by omega)
   obtain ⟨t, ht⟩ : ∃ t, l[k]? = some t := ⟨l[k]'(by rw [HV.out.len]; exact hlt), List.getElem?_eq_getElem _⟩
   have H1 := Lib.hid (C_den t.1 t.2.1 t.2.2)
   obtain ⟨c0, c1, c2⟩ := (HV.out.ch HR.out.ch).get ht
   have HL := Lib.hid ht
   obtain ⟨s0, n0, d0⟩ := t
   simp only at c0 c1 c2
   simp only at H1
   clear ht
   have HFL := Lib.hid (show (l.map fun t => S t.2.2)[k]? = some (S d0) by rw [List.getElem?_map, HL.out]; rfl)
   go_wp2_with fail
   refine (H1.out _).mono ?_
   rintro e wq ⟨rfl, hC⟩
   have HF2 := Lib.hid ((HR.out.alloc _).on hC (fun q => q) (fun _ _ q => q.elim))
   clear hC HR c0 c1 c2
   obtain ⟨x0, e0, f0⟩ := HF2.out.slots hlt
   go_wp2_with fail
   go_roundw
   case rel =>
    refine ⟨k + 1, by omega, by go_num, ?_⟩
    clear hmk
    have hh := HF2.out.put hlt HFL.out
    with_reducible exact hh
   case measure => simp [intOf]; omega
  ·have hkn : k = n := by omega
   subst hkn
   go_wp2
   go_ret
   exact ⟨rfl, HR.out.done (by rw [List.length_map, HV.out.len]), hG ▸ HR.out.ch⟩
end Go.Proofs.YtkeomlpecjjhiaaGreatDoor
