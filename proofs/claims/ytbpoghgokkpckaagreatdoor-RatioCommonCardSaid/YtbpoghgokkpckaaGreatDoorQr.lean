/- Texts of rational numbers: package ratio's Text, and the reference model's. -/
import Derived.Test.YtbpoghgokkpckaaGreatDoorQq
namespace Go.Proofs.YtbpoghgokkpckaaGreatDoor
open Go.RowKit
/-- The text of a number by its parts. -/
def rtx (t : T3) : List UInt8 := (if t.1 then [45] else []) ++ (Lib.decDigits (bv t.2.1) ++ (if t.2.2 = [1] then [] else 47 :: Lib.decDigits (bv t.2.2)))
theorem str_eq {a b : ByteArray} (h : a.data.toList = b.data.toList) : Ending.returned (.string a) = .returned (.string b) := by
  have : a = b := by
    apply ByteArray.ext
    exact Array.toList_inj.1 h
  rw [this]
set_option maxRecDepth 100000 in
set_option maxHeartbeats 3200000 in
theorem C_Text {a : Rat} {s : Bool} {n d : List UInt8} (hn : n.length ≤ 1000) (hd : d.length ≤ 1000) (ra : ratOf s n d = a) {l : List UInt8} (hl : rtx (pt a) = l) : AnsT 17 #[Rv s n d] (S l) := fun w ht => by
  have ia := pt_is a
  obtain ⟨⟨s1, n1, d1⟩, hq⟩ : ∃ q, pt a = q := ⟨_, rfl⟩
  rw [hq] at ia hl
  simp only at ia
  obtain ⟨ln, ld⟩ := len_of ra hn hd ia
  have H1 := Lib.hid (C_counted hn hd (ra ▸ ia))
  obtain ⟨x, hx⟩ : ∃ x, Lib.decDigits (bv n1) = x := ⟨_, rfl⟩
  obtain ⟨y, hy⟩ : ∃ y, Lib.decDigits (bv d1) = y := ⟨_, rfl⟩
  unfold rtx at hl
  simp only [hx, hy] at hl
  have HT := Lib.hid ht
  have t1 := fun W (hT : Tb W) => Text_any n1 W ln hT.pow
  have t2 := fun W (hT : Tb W) => Text_any d1 W ld hT.pow
  rw [hx] at t1
  rw [hy] at t2
  have H2 := Lib.hid t1
  have H3 := Lib.hid t2
  have lx0 := dec_bytes n1
  have ly0 := dec_bytes d1
  rw [hx] at lx0
  rw [hy] at ly0
  have lx : x.length ≤ 3001 := by omega
  have ly : y.length ≤ 3001 := by omega
  clear lx0 ly0
  clear t1 t2 hx hy ra hn hd ia hq ln ld ht
  have HB := Lib.hid (Box.one w #[.bool s, S n, S d])
  obtain ⟨B, hB⟩ : ∃ B, w.heap.size = B := ⟨_, rfl⟩
  rw [hB] at HB
  obtain ⟨a0, a1, a2, fa0, fa1, fa2⟩ := HB.out.store0
  go_enter Tryz.func17, Tryz.ntmps17
  go_wp2_with fail
  refine (H1.out _ (HT.out.ch HB.out.ch)).mono ?_
  rintro e w1 ⟨rfl, hC⟩
  have HB2 := Lib.hid (HB.out.on hC)
  clear hC HB a0 a1 a2 fa0 fa1 fa2
  have HB := HB2
  clear HB2
  obtain ⟨a0, a1, a2, fa0, fa1, fa2⟩ := HB.out.store0
  go_wp2_with fail
  have HBN : Box w (((w1.setCell ⟨B, 0, none⟩ (.bool s1)).setCell ⟨B, 1, none⟩ (S n1)).setCell ⟨B, 2, none⟩ (S d1)) B [[.bool s1, S n1, S d1]] := HB.out.upd (i := 0) rfl (.bool s1) (S n1) (S d1)
  obtain ⟨W1, hWn⟩ : ∃ W', (((w1.setCell ⟨B, 0, none⟩ (.bool s1)).setCell ⟨B, 1, none⟩ (S n1)).setCell ⟨B, 2, none⟩ (S d1)) = W' := ⟨_, rfl⟩
  rw [hWn] at HBN ⊢
  clear hWn HB a0 a1 a2 fa0 fa1 fa2
  have HB := Lib.hid HBN
  clear HBN
  obtain ⟨a0, a1, a2⟩ := HB.out.cells1
  refine (H2.out _ (HT.out.ch HB.out.ch)).mono ?_
  rintro e w2 ⟨rfl, hC⟩
  have HB2 := Lib.hid (HB.out.on hC)
  clear hC HB a0 a1 a2
  have HB := HB2
  clear HB2
  obtain ⟨a0, a1, a2⟩ := HB.out.cells1
  have HL := Lib.hid hl
  clear hl
  cases s1 with
  | true =>
    by_cases hd1 : d1 = [1]
    · subst hd1
      go_wp2_with fail
      go_ret
      exact ⟨str_eq (by simp [← HL.out]), HB.out.ch⟩
    · have e1 := beq_no hd1
      have HD1 := Lib.hid hd1
      clear hd1
      go_wp2_with fail
      refine (H3.out _ (HT.out.ch HB.out.ch)).mono ?_
      rintro e w3 ⟨rfl, hC⟩
      have HB2 := Lib.hid (HB.out.on hC)
      clear hC HB a0 a1 a2
      have HB := HB2
      clear HB2
      obtain ⟨a0, a1, a2⟩ := HB.out.cells1
      go_wp2_with fail
      go_ret
      exact ⟨str_eq (by simp [← HL.out, HD1.out]), HB.out.ch⟩
  | false =>
    by_cases hd1 : d1 = [1]
    · subst hd1
      go_wp2_with fail
      go_ret
      exact ⟨str_eq (by simp [← HL.out]), HB.out.ch⟩
    · have e1 := beq_no hd1
      have HD1 := Lib.hid hd1
      clear hd1
      go_wp2_with fail
      refine (H3.out _ (HT.out.ch HB.out.ch)).mono ?_
      rintro e w3 ⟨rfl, hC⟩
      have HB2 := Lib.hid (HB.out.on hC)
      clear hC HB a0 a1 a2
      have HB := HB2
      clear HB2
      obtain ⟨a0, a1, a2⟩ := HB.out.cells1
      go_wp2_with fail
      go_ret
      exact ⟨str_eq (by simp [← HL.out, HD1.out]), HB.out.ch⟩
end Go.Proofs.YtbpoghgokkpckaaGreatDoor
