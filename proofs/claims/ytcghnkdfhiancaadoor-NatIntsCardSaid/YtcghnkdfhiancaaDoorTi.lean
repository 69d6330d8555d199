/- NatInts: the walk. -/
import Derived.Test.YtcghnkdfhiancaaDoorTk
import Derived.Test.YtcghnkdfhiancaaDoorUo
namespace Go.Proofs.YtcghnkdfhiancaaDoor
open Go.RowKit
theorem and_bounds (x y : Int) : -9223372036854775808 ≤ bits BinOp.and IntKind.i64 x y ∧ bits BinOp.and IntKind.i64 x y ≤ 9223372036854775807 := by
  unfold bits
  rw [IntKind.wrap_i64]
  omega
set_option maxRecDepth 100000 in
set_option maxHeartbeats 3200000 in
theorem ints_core (n : Int) (vx : Value) (lx : List UInt8) (w : World) (hn : (Lit.int .i64 n).wf = true) (hx : BS w vx lx) (ht : pow10Is w) :
    Calls Tryd.prog 7 #[.int .i64 n, vx] w (Yld w (.bool true)) := by
  obtain ⟨a, ka, hma⟩ := made_all vx lx w hx
  obtain ⟨hn1, hn2⟩ : -9223372036854775808 ≤ n ∧ n ≤ 9223372036854775807 := by
    have h : IntKind.i64.min ≤ n ∧ n ≤ IntKind.i64.max := by simpa [Lit.wf] using hn
    exact h
  have HS := Lib.hid (sanity_all w ht)
  have HMx := Lib.hid hma
  have HC := Lib.hid (Ch.refl w.heap.size none1 w)
  have HK := Lib.hid ka
  clear hma ht hx hn ka
  go_enter Tryd.func7, Tryd.ntmps7
  go_wp2_with (first
    | (go_at_call 11; with_reducible refine (HS.out _ HC.out).mono ?_; rintro e w' ⟨rfl, hC⟩; have HC2 := Lib.hid (HC.out.trans (hC.mono HC.out.size (fun _ _ q => q))); clear hC HC; have HC := HC2; clear HC2)
    | (go_at_call 12; with_reducible refine (HMx.out _ HC.out).mono ?_; rintro e w' ⟨rfl, hC⟩; have HC2 := Lib.hid (HC.out.trans (hC.mono HC.out.size (fun _ _ q => q))); clear hC HC; have HC := HC2; clear HC2))
  clear HS HMx
  obtain ⟨q1, e1⟩ : ∃ q, wrap64 (-n) = q := ⟨_, rfl⟩
  obtain ⟨q3, e3⟩ : ∃ q, bits BinOp.and IntKind.i64 n 255 = q := ⟨_, rfl⟩
  have b1 : -9223372036854775808 ≤ q1 ∧ q1 ≤ 9223372036854775807 := by
    rw [← e1]; unfold wrap64; omega
  have b3 : -9223372036854775808 ≤ q3 ∧ q3 ≤ 9223372036854775807 := by
    rw [← e3]; exact and_bounds n 255
  rw [e1, e3]
  clear e1 e3
  obtain ⟨ms, hms⟩ : ∃ ms : List Int, ms = [n, q1, n / 256, q3, 9223372036854775807, -9223372036854775808] := ⟨_, rfl⟩
  have hall : ∀ k (h : k < ms.length), -9223372036854775808 ≤ ms[k] ∧ ms[k] ≤ 9223372036854775807 := by
    subst hms
    intro k h
    have : k = 0 ∨ k = 1 ∨ k = 2 ∨ k = 3 ∨ k = 4 ∨ k = 5 := by simp at h; omega
    rcases this with rfl | rfl | rfl | rfl | rfl | rfl <;> simp <;> omega
  have hml : ms.length = 6 := by subst hms; rfl
  have hblk := Blk.new w' #[Value.int .i64 n, .int .i64 q1, .int .i64 (n / 256), .int .i64 q3, .int .i64 9223372036854775807, .int .i64 (-9223372036854775808)] 3
  have hblk2 : Blk (w'.alloc (.cells #[Value.int .i64 n, .int .i64 q1, .int .i64 (n / 256), .int .i64 q3, .int .i64 9223372036854775807, .int .i64 (-9223372036854775808)] 3 (0, 0))) w'.heap.size 3 (ms.map (Value.int .i64)) := by subst hms; exact hblk
  have hch2 := HC.out.alloc HC.out.size (.cells #[Value.int .i64 n, .int .i64 q1, .int .i64 (n / 256), .int .i64 q3, .int .i64 9223372036854775807, .int .i64 (-9223372036854775808)] 3 (0, 0))
  obtain ⟨W1, hW1⟩ : ∃ W, w'.alloc (.cells #[Value.int .i64 n, .int .i64 q1, .int .i64 (n / 256), .int .i64 q3, .int .i64 9223372036854775807, .int .i64 (-9223372036854775808)] 3 (0, 0)) = W := ⟨_, rfl⟩
  rw [hW1] at hblk2 hch2 ⊢
  obtain ⟨B, hB⟩ : ∃ B, w'.heap.size = B := ⟨_, rfl⟩
  rw [hB] at hblk2 ⊢
  have HALL := Lib.hid hall
  have HML := Lib.hid hml
  clear hblk hW1 hB hall hml hms b1 b3 HC hn1 hn2
  go_loopw [30] (fun i wr => ∃ k : Nat, k ≤ 6 ∧ i = I k ∧ Ch w.heap.size none1 w wr ∧ Blk wr B 3 (ms.map (Value.int .i64))) (fun i _ => 6 - (intOf i).toNat)
  case atStart => exact ⟨0, Nat.zero_le _, rfl, hch2, hblk2⟩
  case round =>
    clear hch2 hblk2
    obtain ⟨k, hk, rfl, hC, hB'⟩ := hrel
    have HB := Lib.hid hB'
    have HC := Lib.hid hC
    clear hC hB'
    by_cases hlt : k < 6
    · have hkm : k < ms.length := by rw [HML.out]; exact hlt
      have hb := HALL.out k hkm
      have hc : wr.cell? ⟨B, k, none⟩ = some (.int .i64 ms[k]) := by
        rw [HB.out.cell k, List.getElem?_map, List.getElem?_eq_getElem hkm]; rfl
      obtain ⟨m, hm⟩ : ∃ m, ms[k] = m := ⟨_, rfl⟩
      rw [hm] at hb hc
      clear hm
      obtain ⟨lm, elm, vlm⟩ := has_nb m.toNat
      have llm := nbl 8 elm (show m.toNat < 256 ^ 8 by omega) (by decide)
      have H1 := Lib.hid (C_of elm hb.1 hb.2)
      have H2 := Lib.hid (C_int (k := max m 0) llm (by rw [vlm, Int.max_def]; split <;> omega) (by rw [Int.max_def]; split <;> omega))
      have H3 := Lib.hid (C_refOf elm hb.1 hb.2)
      clear elm vlm llm hb
      have HBK := Lib.hid (Blk.lt HB.out)
      go_wp2_with (first
        | (go_at_call 27; with_reducible refine (H1.out _).mono ?_; rintro e w' ⟨rfl, hC⟩; have HC2 := Lib.hid (HC.out.trans (hC.mono HC.out.size (fun _ _ q => q))); have HB2 := Lib.hid (hC.blk HB.out (Blk.lt HB.out) (fun q => q)); clear hC HC HB; have HC := HC2; have HB := HB2; clear HC2 HB2)
        | (go_at_call 28; with_reducible refine (H2.out _).mono ?_; rintro e w' ⟨rfl, hC⟩; have HC2 := Lib.hid (HC.out.trans (hC.mono HC.out.size (fun _ _ q => q))); have HB2 := Lib.hid (hC.blk HB.out (Blk.lt HB.out) (fun q => q)); clear hC HC HB; have HC := HC2; have HB := HB2; clear HC2 HB2)
        | (go_at_call 29; with_reducible refine (H3.out _).mono ?_; rintro e w' ⟨rfl, hC⟩; have HC2 := Lib.hid (HC.out.trans (hC.mono HC.out.size (fun _ _ q => q))); have HB2 := Lib.hid (hC.blk HB.out (Blk.lt HB.out) (fun q => q)); clear hC HC HB; have HC := HC2; have HB := HB2; clear HC2 HB2))
      go_roundw
      case rel => exact ⟨k + 1, by omega, by go_num, HC.out, HB.out⟩
      case measure => simp [intOf]; omega
    · obtain rfl : k = 6 := by omega
      have hka : a.length ≤ 40 := HK.out
      have hcat : (ByteArray.mk #[0] ++ ByteArray.mk a.toArray) = ByteArray.mk (0 :: a).toArray := by
        apply ByteArray.ext
        simp
      go_wp2_with fail
      clear hcat
      obtain ⟨bs, hbs⟩ : ∃ bs : List (List UInt8), bs = [a, [128, 0, 0, 0, 0, 0, 0, 0], [127, 255, 255, 255, 255, 255, 255, 255], 0 :: a] := ⟨_, rfl⟩
      have hbl : bs.length = 4 := by subst hbs; rfl
      have hall : ∀ k (h : k < bs.length), (bs[k]).length ≤ 10000 := by
        subst hbs
        intro k h
        have : k = 0 ∨ k = 1 ∨ k = 2 ∨ k = 3 := by simp at h; omega
        rcases this with rfl | rfl | rfl | rfl <;> simp <;> omega
      have hblk := Blk.new wr #[S a, .string ⟨#[128, 0, 0, 0, 0, 0, 0, 0]⟩, .string ⟨#[127, 255, 255, 255, 255, 255, 255, 255]⟩, S (0 :: a)] 24
      have hblk2 : Blk (wr.alloc (.cells #[S a, .string ⟨#[128, 0, 0, 0, 0, 0, 0, 0]⟩, .string ⟨#[127, 255, 255, 255, 255, 255, 255, 255]⟩, S (0 :: a)] 24 (0, 0))) wr.heap.size 24 (bs.map S) := by subst hbs; exact hblk
      have hch2 := HC.out.alloc HC.out.size (.cells #[S a, .string ⟨#[128, 0, 0, 0, 0, 0, 0, 0]⟩, .string ⟨#[127, 255, 255, 255, 255, 255, 255, 255]⟩, S (0 :: a)] 24 (0, 0))
      obtain ⟨W2, hW2⟩ : ∃ W, wr.alloc (.cells #[S a, .string ⟨#[128, 0, 0, 0, 0, 0, 0, 0]⟩, .string ⟨#[127, 255, 255, 255, 255, 255, 255, 255]⟩, S (0 :: a)] 24 (0, 0)) = W := ⟨_, rfl⟩
      rw [hW2] at hblk2 hch2 ⊢
      obtain ⟨B2, hB2⟩ : ∃ B, wr.heap.size = B := ⟨_, rfl⟩
      rw [hB2] at hblk2 ⊢
      have HALL2 := Lib.hid hall
      have HBL := Lib.hid hbl
      clear hblk hW2 hB2 hall hbl hbs HC HB HALL HML HK
      go_loopw [61] (fun i wr => ∃ k : Nat, k ≤ 4 ∧ i = I k ∧ Ch w.heap.size none1 w wr ∧ Blk wr B2 24 (bs.map S)) (fun i _ => 4 - (intOf i).toNat)
      case atStart => exact ⟨0, Nat.zero_le _, rfl, hch2, hblk2⟩
      case round =>
        clear hch2 hblk2
        obtain ⟨k, hk, rfl, hC, hB'⟩ := hrel
        have HB := Lib.hid hB'
        have HC := Lib.hid hC
        clear hC hB'
        by_cases hlt : k < 4
        · have hkm : k < bs.length := by rw [HBL.out]; exact hlt
          have hb := HALL2.out k hkm
          have hc : wr.cell? ⟨B2, k, none⟩ = some (S bs[k]) := by
            rw [HB.out.cell k, List.getElem?_map, List.getElem?_eq_getElem hkm]; rfl
          obtain ⟨m, hm⟩ : ∃ m, bs[k] = m := ⟨_, rfl⟩
          rw [hm] at hb hc
          clear hm
          obtain ⟨q, ok, h1, h2⟩ := C_int_both hb
          obtain ⟨nb', hnb⟩ : ∃ z : Int, (nbits (bv m) : Int) = z := ⟨_, rfl⟩
          obtain ⟨rb, hrb⟩ : ∃ z, rightB m = z := ⟨_, rfl⟩
          have H1 := Lib.hid h1
          have H2 := Lib.hid h2
          have H3 := Lib.hid (C_bits hb hnb)
          have H4 := Lib.hid (C_refBits hb hnb)
          have H5 := Lib.hid (C_right hb hrb)
          have H6 := Lib.hid (C_refRight hb hrb)
          clear h1 h2 hnb hrb hb
          go_wp2_with (first
        | (go_at_call 28; with_reducible refine (H1.out _).mono ?_; rintro e w' ⟨rfl, hC⟩; have HC2 := Lib.hid (HC.out.trans (hC.mono HC.out.size (fun _ _ q => q))); have HB2 := Lib.hid (hC.blk HB.out (Blk.lt HB.out) (fun q => q)); clear hC HC HB; have HC := HC2; have HB := HB2; clear HC2 HB2)
        | (go_at_call 30; with_reducible refine (H2.out _).mono ?_; rintro e w' ⟨rfl, hC⟩; have HC2 := Lib.hid (HC.out.trans (hC.mono HC.out.size (fun _ _ q => q))); have HB2 := Lib.hid (hC.blk HB.out (Blk.lt HB.out) (fun q => q)); clear hC HC HB; have HC := HC2; have HB := HB2; clear HC2 HB2)
        | (go_at_call 31; with_reducible refine (H3.out _).mono ?_; rintro e w' ⟨rfl, hC⟩; have HC2 := Lib.hid (HC.out.trans (hC.mono HC.out.size (fun _ _ q => q))); have HB2 := Lib.hid (hC.blk HB.out (Blk.lt HB.out) (fun q => q)); clear hC HC HB; have HC := HC2; have HB := HB2; clear HC2 HB2)
        | (go_at_call 32; with_reducible refine (H4.out _).mono ?_; rintro e w' ⟨rfl, hC⟩; have HC2 := Lib.hid (HC.out.trans (hC.mono HC.out.size (fun _ _ q => q))); have HB2 := Lib.hid (hC.blk HB.out (Blk.lt HB.out) (fun q => q)); clear hC HC HB; have HC := HC2; have HB := HB2; clear HC2 HB2)
        | (go_at_call 19; with_reducible refine (H5.out _).mono ?_; rintro e w' ⟨rfl, hC⟩; have HC2 := Lib.hid (HC.out.trans (hC.mono HC.out.size (fun _ _ q => q))); have HB2 := Lib.hid (hC.blk HB.out (Blk.lt HB.out) (fun q => q)); clear hC HC HB; have HC := HC2; have HB := HB2; clear HC2 HB2)
        | (go_at_call 20; with_reducible refine (H6.out _).mono ?_; rintro e w' ⟨rfl, hC⟩; have HC2 := Lib.hid (HC.out.trans (hC.mono HC.out.size (fun _ _ q => q))); have HB2 := Lib.hid (hC.blk HB.out (Blk.lt HB.out) (fun q => q)); clear hC HC HB; have HC := HC2; have HB := HB2; clear HC2 HB2))
          go_roundw
          case rel => exact ⟨k + 1, by omega, by go_num, HC.out, HB.out⟩
          case measure => simp [intOf]; omega
        · obtain rfl : k = 4 := by omega
          go_wp2_with fail
          go_ret
          exact ⟨rfl, HC.out⟩
end Go.Proofs.YtcghnkdfhiancaaDoor
