/- The reference of layer 4: Split where nothing is divided. -/
import Derived.Test.YtkeomlpecjjhiaaGreatDoorWb
import Derived.Test.YtkeomlpecjjhiaaGreatDoorId
namespace Go.Proofs.YtkeomlpecjjhiaaGreatDoor
open Go.RowKit
set_option maxRecDepth 100000 in
set_option maxHeartbeats 6400000 in
theorem rSplit_no {K n c : Nat} {p : Option Addr} {l : List T3} {o : Option Int} {s : Bool} {m d : List UInt8} (w : World) (ht : Tm w) (hr : Rs w p n l) (hK : 1 ≤ K) (hK2 : K ≤ 300) (hz : ∀ t ∈ l, t.2.1.length ≤ K ∧ t.2.2.length ≤ K) (hb : 1 + n * (K + 1) ≤ 400) (hn : n ≤ 100) (hm : m.length ≤ 390) (hd : d.length ≤ 390) (ho : centsR s m d = o) (h : o = none ∨ shB l = false) :
  Calls Tryz.prog 21 #[Rv s m d, .slice p n c] w fun e w' => e = .returned (.tuple #[.slice none 0 0, .bool false]) ∧ Ch w.heap.size none1 w w' := by
 have HC := Lib.hid (C_rCents hm hd ho)
 have HS := Lib.hid (fun (V : World) (hC : Ch w.heap.size none1 w V) => shares_any (c := c) (hr.ch hC) hK hK2 hz hb hn)
 obtain ⟨b, hb2⟩ : ∃ b, shB l = b := ⟨_, rfl⟩
 rw [hb2] at HS h
 clear hr hz hb hK hK2 hm hd ho hb2 hn
 rcases o with _ | z
 ·rw [show centsV none = .tuple #[.int .i64 0, .bool false] from rfl] at HC
  clear h
  have HT := Lib.hid ht
  have HK := Lib.hid ((Kq.nil w).new #[.bool s, S m, S d] 26)
  obtain ⟨B, hB⟩ : ∃ B, w.heap.size = B := ⟨_, rfl⟩
  rw [hB] at HK
  have HBB := Lib.hid hB
  clear ht
  have HF1 := Lib.hid (show ∀ W, Kq w W [(B, 26, [.bool s, S m, S d])] → W.cell? ⟨B, 0, none⟩ = some (.bool s) ∧ W.cell? ⟨B, 1, none⟩ = some (S m) ∧ W.cell? ⟨B, 2, none⟩ = some (S d) from fun W h => ⟨(h.row _ mm0).cell 0, (h.row _ mm0).cell 1, (h.row _ mm0).cell 2⟩)
  obtain ⟨cc0, cc1, cc2⟩ := HF1.out _ HK.out
  go_enter Tryz.func21, Tryz.ntmps21
  go_wp2_with fail
  clear hB
  refine (HC.out _ (HT.out.ch HK.out.ch)).mono ?_
  rintro e w1 ⟨rfl, hC⟩
  replace HK := Lib.hid (HK.out.on hC)
  clear hC cc0 cc1 cc2
  obtain ⟨cc0, cc1, cc2⟩ := HF1.out _ HK.out
  go_wp2_with fail
  refine (HS.out _ HK.out.ch).mono ?_
  rintro e w9 ⟨rfl, hC⟩
  replace HK := Lib.hid (HK.out.on hC)
  clear hC cc0 cc1 cc2
  obtain ⟨cc0, cc1, cc2⟩ := HF1.out _ HK.out
  go_wp2_with fail
  go_ret2
  exact ⟨rfl, HK.out.ch⟩
 ·rw [show centsV (some z) = .tuple #[.int .i64 z, .bool true] from rfl] at HC
  obtain rfl : b = false := by simpa using h
  clear h
  have HT := Lib.hid ht
  have HK := Lib.hid ((Kq.nil w).new #[.bool s, S m, S d] 26)
  obtain ⟨B, hB⟩ : ∃ B, w.heap.size = B := ⟨_, rfl⟩
  rw [hB] at HK
  have HBB := Lib.hid hB
  clear ht
  have HF1 := Lib.hid (show ∀ W, Kq w W [(B, 26, [.bool s, S m, S d])] → W.cell? ⟨B, 0, none⟩ = some (.bool s) ∧ W.cell? ⟨B, 1, none⟩ = some (S m) ∧ W.cell? ⟨B, 2, none⟩ = some (S d) from fun W h => ⟨(h.row _ mm0).cell 0, (h.row _ mm0).cell 1, (h.row _ mm0).cell 2⟩)
  obtain ⟨cc0, cc1, cc2⟩ := HF1.out _ HK.out
  go_enter Tryz.func21, Tryz.ntmps21
  go_wp2_with fail
  clear hB
  refine (HC.out _ (HT.out.ch HK.out.ch)).mono ?_
  rintro e w1 ⟨rfl, hC⟩
  replace HK := Lib.hid (HK.out.on hC)
  clear hC cc0 cc1 cc2
  obtain ⟨cc0, cc1, cc2⟩ := HF1.out _ HK.out
  go_wp2_with fail
  refine (HS.out _ HK.out.ch).mono ?_
  rintro e w9 ⟨rfl, hC⟩
  replace HK := Lib.hid (HK.out.on hC)
  clear hC cc0 cc1 cc2
  obtain ⟨cc0, cc1, cc2⟩ := HF1.out _ HK.out
  go_wp2_with fail
  go_ret2
  exact ⟨rfl, HK.out.ch⟩
end Go.Proofs.YtkeomlpecjjhiaaGreatDoor
