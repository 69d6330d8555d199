/- Package ratio's Neg, Add, Sub, Mul, Sign, Of, Make. -/
import Derived.Test.YtkeomlpecjjhiaaGreatDoorQe
namespace Go.Proofs.YtkeomlpecjjhiaaGreatDoor
open Go.RowKit
set_option maxRecDepth 100000
theorem len_of {q : Rat} {s : Bool} {n d : List UInt8} {s' : Bool} {n' d' : List UInt8} (hq : ratOf s n d = q) (hn : n.length ≤ 1000) (hd : d.length ≤ 1000) (hi : Is q s' n' d') : n'.length ≤ 1000 ∧ d'.length ≤ 1000 := by
 have h := Szq.of_len (s := s) (n := n) (d := d) (k := 1000) hn hd (by decide)
 rw [hq] at h
 exact h.len hi
set_option maxHeartbeats 3200000 in
theorem C_Add {a b : Rat} {s t r : Bool} {n d m e k f : List UInt8} (hn : n.length ≤ 1000) (hd : d.length ≤ 1000) (hm : m.length ≤ 1000) (he : e.length ≤ 1000) (ra : ratOf s n d = a) (rb : ratOf t m e = b) (ic : Is (a + b) r k f) :
  AnsT 67 #[Rv s n d, Rv t m e] (Rv r k f) := fun w ht => by
 obtain ⟨s1, n1, d1, ia⟩ := Is.ex a
 obtain ⟨t1, m1, e1, ib⟩ := Is.ex b
 obtain ⟨ln, ld⟩ := len_of ra hn hd ia
 obtain ⟨lm, le⟩ := len_of rb hm he ib
 have h1 := C_counted hn hd (ra ▸ ia)
 have h2 := C_counted hm he (rb ▸ ib)
 have H1 := Lib.hid h1
 have H2 := Lib.hid h2
 have HT := Lib.hid ht
 have h3 := C_plus ia ib ic ln ld lm le
 have H3 := Lib.hid h3
 clear h1 h2 h3 ht hn hd hm he ra rb ia ib ic ln ld lm le
 have HB := Lib.hid (Box.three w #[.bool s, S n, S d] #[.bool t, S m, S e] #[.bool false, S [], S []])
 obtain ⟨B, hB⟩ : ∃ B, w.heap.size = B := ⟨_, rfl⟩
 rw [hB] at HB
 obtain ⟨a0, a1, a2, b0, b1, b2⟩ := HB.out.cells2
 go_enter Tryz.func67, Tryz.ntmps67
 go_wp2_with fail
 clear a0 a1 a2 b0 b1 b2
 have HBD := Lib.hid HB.out.drew
 clear HB
 have HB := HBD
 clear HBD
 go_region_held3 (fun w' => w'.cell? ⟨B, 0, none⟩ = some (.bool s) ∧ w'.cell? ⟨B, 1, none⟩ = some (S n) ∧ w'.cell? ⟨B, 2, none⟩ = some (S d) ∧ w'.cell? ⟨B + 1, 0, none⟩ = some (.bool t) ∧ w'.cell? ⟨B + 1, 1, none⟩ = some (S m) ∧ w'.cell? ⟨B + 1, 2, none⟩ = some (S e))
  (first
   | (with_reducible exact HB.out.cells2)
   | (exact HB.out.cells2p _ _ _)
   | go_keep)
  (first
   | (go_at_call 108; with_reducible refine (H1.out _ (HT.out.ch HB.out.ch)).mono ?_; rintro e wq ⟨rfl, hCq⟩; have HB2 := Lib.hid (HB.out.on hCq); clear hCq HB; have HB := HB2; clear HB2)
   | (go_at_call 108; with_reducible refine (H2.out _ (HT.out.ch HB.out.ch)).mono ?_; rintro e wq ⟨rfl, hCq⟩; have HB2 := Lib.hid (HB.out.on hCq); clear hCq HB; have HB := HB2; clear HB2)
   | (go_at_call 111; with_reducible refine (H3.out _).mono ?_; rintro e wq ⟨rfl, hCq⟩; have HB2 := Lib.hid (HB.out.on hCq); clear hCq HB; have HB := HB2; clear HB2; obtain ⟨e0, e1, e2, f0, f1, f2⟩ := HB.out.store (i := 2) rfl))
 go_wp2_with fail
 have hp := HB.out.put (i := 2) rfl (.bool r) (S k) (S f)
 refine bodyPost_ret (results_cell_row (P := Tryz.prog) rfl _ _ (B + 2) 26 _ (0, 0) _ rfl hp.1 Tryz.underlying26 rfl (by kernel_rfl)) rfl ?_
 exact ⟨rfl, hp.2⟩
set_option maxHeartbeats 3200000 in
theorem C_Mul {a b : Rat} {s t r : Bool} {n d m e k f : List UInt8} (hn : n.length ≤ 1000) (hd : d.length ≤ 1000) (hm : m.length ≤ 1000) (he : e.length ≤ 1000) (ra : ratOf s n d = a) (rb : ratOf t m e = b) (ic : Is (a * b) r k f) :
  AnsT 59 #[Rv s n d, Rv t m e] (Rv r k f) := fun w ht => by
 obtain ⟨s1, n1, d1, ia⟩ := Is.ex a
 obtain ⟨t1, m1, e1, ib⟩ := Is.ex b
 obtain ⟨ln, ld⟩ := len_of ra hn hd ia
 obtain ⟨lm, le⟩ := len_of rb hm he ib
 have h1 := C_counted hn hd (ra ▸ ia)
 have h2 := C_counted hm he (rb ▸ ib)
 have H1 := Lib.hid h1
 have H2 := Lib.hid h2
 have HT := Lib.hid ht
 have h3 := C_times ia ib ic ln ld lm le
 have H3 := Lib.hid h3
 clear h1 h2 h3 ht hn hd hm he ra rb ia ib ic ln ld lm le
 have HB := Lib.hid (Box.three w #[.bool s, S n, S d] #[.bool t, S m, S e] #[.bool false, S [], S []])
 obtain ⟨B, hB⟩ : ∃ B, w.heap.size = B := ⟨_, rfl⟩
 rw [hB] at HB
 obtain ⟨a0, a1, a2, b0, b1, b2⟩ := HB.out.cells2
 go_enter Tryz.func59, Tryz.ntmps59
 go_wp2_with fail
 clear a0 a1 a2 b0 b1 b2
 have HBD := Lib.hid HB.out.drew
 clear HB
 have HB := HBD
 clear HBD
 go_region_held3 (fun w' => w'.cell? ⟨B, 0, none⟩ = some (.bool s) ∧ w'.cell? ⟨B, 1, none⟩ = some (S n) ∧ w'.cell? ⟨B, 2, none⟩ = some (S d) ∧ w'.cell? ⟨B + 1, 0, none⟩ = some (.bool t) ∧ w'.cell? ⟨B + 1, 1, none⟩ = some (S m) ∧ w'.cell? ⟨B + 1, 2, none⟩ = some (S e))
  (first
   | (with_reducible exact HB.out.cells2)
   | (exact HB.out.cells2p _ _ _)
   | go_keep)
  (first
   | (go_at_call 108; with_reducible refine (H1.out _ (HT.out.ch HB.out.ch)).mono ?_; rintro e wq ⟨rfl, hCq⟩; have HB2 := Lib.hid (HB.out.on hCq); clear hCq HB; have HB := HB2; clear HB2)
   | (go_at_call 108; with_reducible refine (H2.out _ (HT.out.ch HB.out.ch)).mono ?_; rintro e wq ⟨rfl, hCq⟩; have HB2 := Lib.hid (HB.out.on hCq); clear hCq HB; have HB := HB2; clear HB2)
   | (go_at_call 107; with_reducible refine (H3.out _).mono ?_; rintro e wq ⟨rfl, hCq⟩; have HB2 := Lib.hid (HB.out.on hCq); clear hCq HB; have HB := HB2; clear HB2; obtain ⟨e0, e1, e2, f0, f1, f2⟩ := HB.out.store (i := 2) rfl))
 go_wp2_with fail
 have hp := HB.out.put (i := 2) rfl (.bool r) (S k) (S f)
 refine bodyPost_ret (results_cell_row (P := Tryz.prog) rfl _ _ (B + 2) 26 _ (0, 0) _ rfl hp.1 Tryz.underlying26 rfl (by kernel_rfl)) rfl ?_
 exact ⟨rfl, hp.2⟩
set_option maxHeartbeats 3200000 in
theorem C_Sign {a : Rat} {s : Bool} {n d : List UInt8} (hn : n.length ≤ 1000) (hd : d.length ≤ 1000) (ra : ratOf s n d = a) {k : Int} (hk : sgr a = k) : AnsT 110 #[Rv s n d] (.int .i64 k) := fun w ht => by
 obtain ⟨s1, n1, d1, ia⟩ := Is.ex a
 have h1 := C_counted hn hd (ra ▸ ia)
 have H1 := Lib.hid h1
 have HT := Lib.hid ht
 have H2 := Lib.hid (C_sign ia hk)
 clear h1 ht hn hd ra ia hk
 have HB := Lib.hid (Box.one w #[.bool s, S n, S d])
 obtain ⟨B, hB⟩ : ∃ B, w.heap.size = B := ⟨_, rfl⟩
 rw [hB] at HB
 obtain ⟨a0, a1, a2⟩ := HB.out.cells1
 go_enter Tryz.func110, Tryz.ntmps110
 go_wp2_with fail
 refine (H1.out _ (HT.out.ch HB.out.ch)).mono ?_
 rintro e w1 ⟨rfl, hC⟩
 have HB2 := Lib.hid (HB.out.on hC)
 clear hC HB a0 a1 a2
 have HB := HB2
 clear HB2
 obtain ⟨a0, a1, a2⟩ := HB.out.cells1
 go_wp2_with fail
 refine (H2.out _ (HT.out.ch HB.out.ch)).mono ?_
 rintro e w2 ⟨rfl, hC⟩
 have HB2 := Lib.hid (HB.out.on hC)
 clear hC HB a0 a1 a2
 have HB := HB2
 clear HB2
 obtain ⟨a0, a1, a2⟩ := HB.out.cells1
 go_wp2_with fail
 go_ret
 exact ⟨rfl, HB.out.ch⟩
end Go.Proofs.YtkeomlpecjjhiaaGreatDoor
