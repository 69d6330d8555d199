/- Package nat's Text; NatTexts: the walk. -/
import Derived.Test.YtcghnkdfhiancaaGreatDoorVg
import Derived.Test.YtcghnkdfhiancaaGreatDoorTq
import Derived.Deep.RegionHeld3
import Derived.StillTailTactics
import Derived.Lib.ConvBytes
namespace Go.Proofs.YtcghnkdfhiancaaGreatDoor
open Go.RowKit
set_option maxRecDepth 100000 in
set_option maxHeartbeats 1600000 in
theorem Text_any (a : List UInt8) (w : World) (ha : a.length ≤ 1000) (ht : pow10Is w) :
    Calls Tryz.prog 13 #[S a] w (Yld w (S (Lib.decDigits (bv a)))) := by
  have HT := Lib.hid ht; clear ht
  have hN : bv a < 10 ^ (3 * a.length) := by
    have h1 := bv_lt a
    have h2 : 256 ^ a.length ≤ 1000 ^ a.length := Nat.pow_le_pow_left (by omega) _
    have h3 : 10 ^ (3 * a.length) = 1000 ^ a.length := by rw [Nat.pow_mul]
    omega
  have hl := ds_len_bytes a
  have hl1 := trimL_len a
  have HN := Lib.hid hN; clear hN
  go_enter Tryz.func13, Tryz.ntmps13
  go_wp2_with fail
  refine (digitsOf_any a _ (by omega)).mono ?_
  rintro e w1 ⟨g1, rfl, hB1, hg1, hC1⟩
  have hn : (ds (bv a)).length ≤ 1000 := by omega
  have HB1 := Lib.hid hB1
  have HC1 := Lib.hid hC1
  have HTT := Lib.hid (fun wr (h : Ch w.heap.size none1 w1 wr) => (tab_ch HT.out (hC1.trans h) : pow10Is wr))
  clear hB1 hC1 hl hl1
  obtain ⟨n, hnn⟩ : ∃ n, (ds (bv a)).length = n := ⟨_, rfl⟩
  rw [hnn] at hn ⊢
  go_wp2_with fail
  refine (decimal_any (bv a) (3 * a.length) w.heap.size g1 n n [] w1 HN.out (by omega) hnn (by omega) hg1 (Nat.le_refl _) (by unfold maxLen; omega) (HB1.out.cast (by simp)) HTT.out).mono ?_
  rintro e w2 ⟨rfl, hC2⟩
  go_wp2_with fail
  go_ret
  exact ⟨rfl, HC1.out.trans hC2⟩
/-- A block whose first cells are these bytes, none of them frozen. -/
structure Bytes (w : World) (g : Nat) (l : List UInt8) : Prop where
  lt : g < w.heap.size
  cell : ∀ j (hj : j < l.length), w.cell? ⟨g, j, none⟩ = some (Y l[j])
  frozen : ∀ j, j < l.length → w.frozen? ⟨g, j, none⟩ = false
theorem bw_bytes (w : World) (e : TypeId) (l : List UInt8) : Bytes (Lib.bytesWorld w e ⟨l.toArray⟩) w.heap.size l := by
  refine ⟨by rw [Lib.bytesWorld_size]; omega, fun j hj => ?_, fun j hj => ?_⟩
  · rw [Lib.bytesWorld_cell w e ⟨l.toArray⟩ j (by simpa [ByteArray.size] using hj)]
    simp [List.getD, hj]
  · have hn : l.length ≤ (Lib.bytesCells w e ⟨l.toArray⟩).size := by simp [Lib.bytesCells]
    simp [World.frozen?, Lib.bytesWorld_at_new]
    omega
theorem Bytes.set {w : World} {g : Nat} {l : List UInt8} (h : Bytes w g l) (k : Nat) (b : UInt8) (hk : k < l.length) : Bytes (w.setCell ⟨g, k, none⟩ (Y b)) g (l.set k b) := by
  refine ⟨by rw [World.size_setCell]; exact h.lt, fun j hj => ?_, fun j hj => ?_⟩
  · rw [List.length_set] at hj
    by_cases e : k = j
    · subst e
      rw [World.cell?_setCell_same' _ _ _ (by rw [h.cell k hj]; rfl), List.getElem_set_self]
    · rw [World.cell?_setCell_other _ _ _ _ (by simp [e]), h.cell j hj, List.getElem_set_ne e]
  · rw [List.length_set] at hj
    rw [World.frozen?_setCell]
    exact h.frozen j hj
theorem Bytes.ch {w w' : World} {g : Nat} {l : List UInt8} (h : Bytes w g l) (hC : Ch w.heap.size none1 w w') : Bytes w' g l :=
  ⟨Nat.lt_of_lt_of_le h.lt hC.size, fun j hj => (hC.cell (p := ⟨g, j, none⟩) h.lt (fun q => q)).trans (h.cell j hj), fun j hj => (hC.frozen (p := ⟨g, j, none⟩) h.lt (fun q => q)).trans (h.frozen j hj)⟩
theorem Bytes.conv {w : World} {g : Nat} {l : List UInt8} (h : Bytes w g l) (n cap : Nat) (hn : l.length = n) : (convert 22 9 (.slice (some ⟨g, 0, none⟩) n cap)).run Tryz.prog w = .ok (S l) w := by
  subst hn
  exact run_convert_bytes_back (P := Tryz.prog) w 22 9 5 ⟨g, 0, none⟩ cap l Tryz.underlying22 Tryz.underlying5 Tryz.underlying9 (fun j hj => by
    rw [plain_add, Nat.zero_add]; exact h.cell j hj)
theorem bw_ch {B : Nat} {R : Nat → Prop} {a b : World} (h : Ch B R a b) (hB : B ≤ b.heap.size) (e : TypeId) (s : ByteArray) : Ch B R a (Lib.bytesWorld b e s) :=
  ⟨h.os, h.tape, h.output, by rw [Lib.bytesWorld_size]; exact Nat.le_succ_of_le h.size, fun k hk hr => (Lib.bytesWorld_at_old b e s k (by omega)).trans (h.block k hk hr)⟩
theorem bw_blk {b : World} {g : Nat} {t : TypeId} {cs : List Value} (h : Blk b g t cs) (e : TypeId) (s : ByteArray) : Blk (Lib.bytesWorld b e s) g t cs := (Lib.bytesWorld_at_old b e s g h.lt).trans h
set_option maxRecDepth 100000 in
set_option maxHeartbeats 3200000 in
theorem texts_core (vx : Value) (q0 q1 : Int) (lx raw : List UInt8) (w : World) (hx : BS w vx lx) (hr : raw.length ≤ 9223372036854775807) (hq0 : (Lit.int .u8 q0).wf = true) (hq1 : (Lit.int .u8 q1).wf = true) (ht : pow10Is w) :
    Calls Tryz.prog 4 #[vx, S raw, .agg #[.int .u8 q0, .int .u8 q1]] w (Yld w (.bool true)) := by
  obtain ⟨a, ka, hma⟩ := made_all vx lx w hx
  obtain ⟨hq0a, hq0b⟩ : 0 ≤ q0 ∧ q0 ≤ 255 := by
    have h : IntKind.u8.min ≤ q0 ∧ q0 ≤ IntKind.u8.max := by simpa [Lit.wf] using hq0
    exact h
  obtain ⟨hq1a, hq1b⟩ : 0 ≤ q1 ∧ q1 ≤ 255 := by
    have h : IntKind.u8.min ≤ q1 ∧ q1 ≤ IntKind.u8.max := by simpa [Lit.wf] using hq1
    exact h
  obtain ⟨n0, rfl⟩ := Int.eq_ofNat_of_zero_le hq0a
  obtain ⟨n1, rfl⟩ := Int.eq_ofNat_of_zero_le hq1a
  obtain ⟨b1, hb1⟩ : ∃ b : UInt8, b.toNat = n1 := ⟨UInt8.ofNat n1, by rw [UInt8.toNat_ofNat']; omega⟩
  obtain ⟨s, hs⟩ : ∃ s, Lib.decDigits (bv a) = s := ⟨_, rfl⟩
  obtain ⟨c, ec, vc⟩ := has_nb (bv a)
  have ls : s.length ≤ 121 := by rw [← hs]; exact Nat.le_trans (dec_bytes a) (by omega)
  have ls0 : 0 < s.length := by rw [← hs]; exact decDigits_pos _
  have h1 : ∀ w', Ch w.heap.size none1 w w' → Calls Tryz.prog 13 #[S a] w' (Yld w' (S s)) := fun w' h => by
    have h2 := Text_any a w' (by omega) (tab_ch ht h)
    rwa [hs] at h2
  have h2 : Ans 14 #[S s] (.tuple #[S c, .bool true]) := C_parse_dec hs ec (by omega)
  have h3 : Ans 15 #[S a] (S s) := fun w' => by
    have h2 := refText_any a w' (by omega)
    rwa [hs] at h2
  have h4 : Ans 16 #[S a] (S c) := C_canon ec (by omega) rfl
  have HS := Lib.hid (sanity_all w ht)
  have HMx := Lib.hid hma
  have H1 := Lib.hid h1
  have H2 := Lib.hid h2
  have H3 := Lib.hid h3
  have H4 := Lib.hid h4
  have hne0 : s.isEmpty = false := by cases s with
    | nil => simp at ls0
    | cons _ _ => rfl
  have hz0 : ((s.length : Int) == 0) = false := by rw [beq_eq_false_iff_ne]; omega
  clear hma ht hx hq0 hq1 h1 h2 h3 h4 hs ec vc ka
  have HC := Lib.hid (Ch.refl w.heap.size none1 w)
  go_enter Tryz.func4, Tryz.ntmps4
  go_wp2_with fail
  have HB := Lib.hid (Blk.new w #[.int .u8 (n0 : Int), .int .u8 (n1 : Int)] 35)
  have HC2 := Lib.hid (HC.out.alloc HC.out.size (.cells #[.int .u8 (n0 : Int), .int .u8 (n1 : Int)] 35 (0, 0)))
  clear HC
  have HC := HC2
  clear HC2
  obtain ⟨W0, hW0⟩ : ∃ W, w.alloc (.cells #[.int .u8 (n0 : Int), .int .u8 (n1 : Int)] 35 (0, 0)) = W := ⟨_, rfl⟩
  rw [hW0] at HB HC ⊢
  clear hW0
  obtain ⟨B0, hB0⟩ : ∃ B, w.heap.size = B := ⟨_, rfl⟩
  rw [hB0] at HB ⊢
  clear hB0
  have hcvs : ∀ W : World, (convert 9 22 (S s)).run Tryz.prog W = .ok (.slice (some ⟨W.heap.size, 0, none⟩) s.length (grownCap W s.length 0 5)) (Lib.bytesWorld W 5 ⟨s.toArray⟩) := fun W =>
    Lib.run_convert_string_bytes W 9 22 5 ⟨s.toArray⟩ Tryz.underlying9 Tryz.underlying22 Tryz.underlying5
  go_wp2_with (first
    | (go_at_call 5; with_reducible refine (HS.out _ HC.out).mono ?_; rintro e w' ⟨rfl, hC⟩; have HC2 := Lib.hid (HC.out.trans (hC.mono HC.out.size (fun _ _ q => q))); have HB2 := Lib.hid (hC.blk HB.out (Blk.lt HB.out) (fun q => q)); clear hC HC HB; have HC := HC2; have HB := HB2; clear HC2 HB2)
    | (go_at_call 6; with_reducible refine (HMx.out _ HC.out).mono ?_; rintro e w' ⟨rfl, hC⟩; have HC2 := Lib.hid (HC.out.trans (hC.mono HC.out.size (fun _ _ q => q))); have HB2 := Lib.hid (hC.blk HB.out (Blk.lt HB.out) (fun q => q)); clear hC HC HB; have HC := HC2; have HB := HB2; clear HC2 HB2)
    | (go_at_call 13; with_reducible refine (H1.out _ HC.out).mono ?_; rintro e w' ⟨rfl, hC⟩; have HC2 := Lib.hid (HC.out.trans (hC.mono HC.out.size (fun _ _ q => q))); have HB2 := Lib.hid (hC.blk HB.out (Blk.lt HB.out) (fun q => q)); clear hC HC HB; have HC := HC2; have HB := HB2; clear HC2 HB2)
    | (go_at_call 14; with_reducible refine (H2.out _).mono ?_; rintro e w' ⟨rfl, hC⟩; have HC2 := Lib.hid (HC.out.trans (hC.mono HC.out.size (fun _ _ q => q))); have HB2 := Lib.hid (hC.blk HB.out (Blk.lt HB.out) (fun q => q)); clear hC HC HB; have HC := HC2; have HB := HB2; clear HC2 HB2)
    | (go_at_call 15; with_reducible refine (H3.out _).mono ?_; rintro e w' ⟨rfl, hC⟩; have HC2 := Lib.hid (HC.out.trans (hC.mono HC.out.size (fun _ _ q => q))); have HB2 := Lib.hid (hC.blk HB.out (Blk.lt HB.out) (fun q => q)); clear hC HC HB; have HC := HC2; have HB := HB2; clear HC2 HB2)
    | (go_at_call 16; with_reducible refine (H4.out _).mono ?_; rintro e w' ⟨rfl, hC⟩; have HC2 := Lib.hid (HC.out.trans (hC.mono HC.out.size (fun _ _ q => q))); have HB2 := Lib.hid (hC.blk HB.out (Blk.lt HB.out) (fun q => q)); clear hC HC HB; have HC := HC2; have HB := HB2; clear HC2 HB2))
  clear hcvs
  have hby := bw_bytes w' 5 s
  have hbb := bw_blk HB.out 5 ⟨s.toArray⟩
  have hch := bw_ch HC.out HC.out.size 5 ⟨s.toArray⟩
  have HB1 := Lib.hid HC.out.size
  obtain ⟨capb, hcapb⟩ : ∃ c, grownCap w' s.length 0 5 = c := ⟨_, rfl⟩
  obtain ⟨B1, hB1⟩ : ∃ B, w'.heap.size = B := ⟨_, rfl⟩
  obtain ⟨W1, hW1⟩ : ∃ W, Lib.bytesWorld w' 5 ⟨s.toArray⟩ = W := ⟨_, rfl⟩
  rw [hB1] at hby HB1
  rw [hW1] at hby hbb hch
  rw [hW1, hcapb, hB1]
  clear hcapb hB1 hW1 HB HC HS HMx H1 H2 H3 H4
  obtain ⟨k, hk⟩ : ∃ k, n0 % s.length = k := ⟨_, rfl⟩
  have hkl : k < s.length := by rw [← hk]; exact Nat.mod_lt _ ls0
  have hkm : ((n0 : Int)).tmod (s.length : Int) = (k : Int) := by rw [← hk]; rfl
  have c0 : W1.cell? ⟨B0, 0, none⟩ = some (.int .u8 (n0 : Int)) := hbb.cell 0
  have c1 : W1.cell? ⟨B0, 1, none⟩ = some (.int .u8 (n1 : Int)) := hbb.cell 1
  have ck : W1.cell? ⟨B1, k, none⟩ = some (Y s[k]) := hby.cell k hkl
  have fk : W1.frozen? ⟨B1, k, none⟩ = false := hby.frozen k hkl
  have hkm2 : ((n0 : Int)) % (s.length : Int) = (k : Int) := by rw [← hk]; exact (Int.natCast_emod _ _).symm
  have hk1 : (0 : Int) ≤ (k : Int) := by omega
  have hk2 : (k : Int) < (s.length : Int) := by omega
  have hsn : ¬ s.length = 0 := by omega
  have hc0 : IntKind.i64.wrap (n0 : Int) = (n0 : Int) := IntWalk.i64_in _ (by omega)
  go_region
  have hby2 : Bytes ((W1.setCell ⟨B1, k, none⟩ (.int .u8 (n1 : Int))).drew) B1 (s.set k b1) := by
    subst hb1
    have h := hby.set k b1 hkl
    exact ⟨h.lt, h.cell, h.frozen⟩
  have hch2 : Ch w.heap.size none1 w ((W1.setCell ⟨B1, k, none⟩ (.int .u8 (n1 : Int))).drew) := (hch.setCell (p := ⟨B1, k, none⟩) (.inl HB1.out) _).drew
  obtain ⟨W2, hW2⟩ : ∃ W, (W1.setCell ⟨B1, k, none⟩ (.int .u8 (n1 : Int))).drew = W := ⟨_, rfl⟩
  rw [hW2] at hby2 hch2 ⊢
  clear hW2 hby hch hbb c0 c1 ck fk hkm hkm2 hk1 hk2 hc0 hk hb1
  obtain ⟨t, ht⟩ : ∃ t, s.set k b1 = t := ⟨_, rfl⟩
  have htl : t.length = s.length := by rw [← ht, List.length_set]
  rw [ht] at hby2
  clear ht hkl
  have hcv : ∀ W', Ch W2.heap.size none1 W2 W' → (convert 22 9 (.slice (some ⟨B1, 0, none⟩) s.length capb)).run Tryz.prog W' = .ok (S t) W' := fun W' h => (hby2.ch h).conv _ _ htl
  have hcv0 := hcv W2 (Ch.refl _ _ _)
  have hcv1 := hcv W2.drew (Ch.refl _ _ _).drew
  have q1 : (ByteArray.mk #[48] ++ ByteArray.mk s.toArray) = ByteArray.mk (48 :: s).toArray := cat_bytes [48] s
  have q2 : (ByteArray.mk s.toArray ++ ByteArray.mk #[48]) = ByteArray.mk (s ++ [48]).toArray := cat_bytes s [48]
  have q3 : (ByteArray.mk s.toArray ++ ByteArray.mk #[32]) = ByteArray.mk (s ++ [32]).toArray := cat_bytes s [32]
  have q4 : (ByteArray.mk s.toArray).extract 1 s.length = ByteArray.mk (s.drop 1).toArray := ext_drop s 1 _ rfl
  have q5 : (ByteArray.mk raw.toArray).extract 0 (min (raw.length : Int) 100).toNat = ByteArray.mk (raw.take 100).toArray := by
    apply ByteArray.ext
    rw [ByteArray.data_extract]
    apply Array.toList_inj.1
    simp
    omega
  have m1 : (0 : Int) ≤ min (raw.length : Int) 100 := by omega
  have m2 : min (raw.length : Int) 100 ≤ (raw.length : Int) := by omega
  have m3 : (1 : Int) ≤ (s.length : Int) := by omega
  have m4 : 1 ≤ s.length := by omega
  clear hby2
  have hls : s.length ≤ 121 := ls
  have hlt2 : t.length ≤ 121 := by omega
  go_wp2_with fail
  go_region
  clear hcv hcv0 hcv1 q1 q2 q3 q4 q5 m1 m2 m3 m4
  obtain ⟨ws, hws⟩ : ∃ ws : List (List UInt8), ws = [raw.take 100, t, 48 :: s, s ++ [48], s.tail, s ++ [32]] := ⟨_, rfl⟩
  have hwl : ws.length = 6 := by subst hws; rfl
  have hall : ∀ k (h : k < ws.length), (ws[k]).length ≤ 999 := by
    subst hws
    intro k h
    have : k = 0 ∨ k = 1 ∨ k = 2 ∨ k = 3 ∨ k = 4 ∨ k = 5 := by simp at h; omega
    rcases this with rfl | rfl | rfl | rfl | rfl | rfl <;> simp <;> omega
  have hblk : Blk ((W2.alloc (.cells #[S (raw.take 100), S t, S (48 :: s), S (s ++ [48]), S s.tail, S (s ++ [32])] 9 (0, 0))).drew) W2.heap.size 9 (ws.map S) := by
    subst hws
    exact (Blk.new W2 #[S (raw.take 100), S t, S (48 :: s), S (s ++ [48]), S s.tail, S (s ++ [32])] 9).drew
  have hch3 := (hch2.alloc hch2.size (.cells #[S (raw.take 100), S t, S (48 :: s), S (s ++ [48]), S s.tail, S (s ++ [32])] 9 (0, 0))).drew
  obtain ⟨W3, hW3⟩ : ∃ W, (W2.alloc (.cells #[S (raw.take 100), S t, S (48 :: s), S (s ++ [48]), S s.tail, S (s ++ [32])] 9 (0, 0))).drew = W := ⟨_, rfl⟩
  rw [hW3] at hblk hch3 ⊢
  obtain ⟨B, hB⟩ : ∃ B, W2.heap.size = B := ⟨_, rfl⟩
  rw [hB] at hblk ⊢
  have HALL := Lib.hid hall
  have HWL := Lib.hid hwl
  clear hW3 hB hall hwl hws hls hlt2 hch2
  go_wp2_with fail
  go_loopw [77] (fun i wr => ∃ k : Nat, k ≤ 6 ∧ i = I k ∧ Ch w.heap.size none1 w wr ∧ Blk wr B 9 (ws.map S)) (fun i _ => 6 - (intOf i).toNat)
  case atStart => exact ⟨0, Nat.zero_le _, rfl, hch3, hblk⟩
  case round =>
    clear hch3 hblk
    obtain ⟨k, hk, rfl, hC, hB'⟩ := hrel
    have HB := Lib.hid hB'
    have HC := Lib.hid hC
    clear hC hB'
    by_cases hlt : k < 6
    · have hkm : k < ws.length := by rw [HWL.out]; exact hlt
      have hb := HALL.out k hkm
      have c0 : wr.cell? ⟨B, k, none⟩ = some (S (ws[k])) := by rw [HB.out.cell]; simp [hkm]
      obtain ⟨x, hx⟩ : ∃ x, ws[k] = x := ⟨_, rfl⟩
      rw [hx] at c0 hb
      obtain ⟨o, ok, h1, h2⟩ := C_parse_both hb
      have G1 := Lib.hid h1
      have G2 := Lib.hid h2
      clear hx hb h1 h2
      go_wp2_with fail
      refine (G1.out _).mono ?_
      rintro e w5 ⟨rfl, hC5⟩
      have HB5 := Lib.hid (hC5.blk HB.out HB.out.lt (fun q => q))
      have HC5 := Lib.hid (HC.out.step0 hC5 (Nat.le_refl _))
      clear c0 hC5 HB HC
      go_wp2_with fail
      refine (G2.out _).mono ?_
      rintro e w6 ⟨rfl, hC6⟩
      have HB6 := Lib.hid (hC6.blk HB5.out HB5.out.lt (fun q => q))
      have HC6 := Lib.hid (HC5.out.step0 hC6 (Nat.le_refl _))
      clear hC6 HC5 HB5
      go_wp2_with fail
      go_roundw
      case rel => exact ⟨k + 1, by omega, by go_num, HC6.out, HB6.out⟩
      case measure => simp [intOf]; omega
    · obtain rfl : k = 6 := by omega
      go_wp2_with fail
      go_ret
      exact ⟨rfl, HC.out⟩
end Go.Proofs.YtcghnkdfhiancaaGreatDoor
