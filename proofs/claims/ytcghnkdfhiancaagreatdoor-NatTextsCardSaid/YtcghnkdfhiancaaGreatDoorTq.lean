/- NatQuos: the walk. -/
import Derived.Test.YtcghnkdfhiancaaGreatDoorUj
import Derived.Test.YtcghnkdfhiancaaGreatDoorUn
namespace Go.Proofs.YtcghnkdfhiancaaGreatDoor
open Go.RowKit
theorem C_rquoQ {a b : List UInt8} (ha : a.length ≤ 1000) (hb : b.length ≤ 1000) :
    ∃ (l m : List UInt8) (ok : Bool), Ans 11 #[S a, S b] (.tuple #[S l, S m, .bool ok]) ∧ Ans 12 #[S a, S b] (.tuple #[S l, S m, .bool ok]) := by
  rcases Nat.eq_zero_or_pos (bv b) with h | h
  · exact ⟨[], [], false, C_quo_no (by omega) h, fun w => rquo_no a b w hb h⟩
  · exact ⟨_, _, true, C_quo rfl rfl (by omega) (by omega) h rfl rfl, fun w => rquo_any a b w ha hb h⟩
theorem C_rsubQ {a b : List UInt8} (k : Nat) (ha : a.length ≤ k) (hk : k ≤ 10000) (hb : b.length ≤ 10000) :
    ∃ (l : List UInt8) (ok : Bool), l.length ≤ k ∧ Ans 10 #[S a, S b] (.tuple #[S l, .bool ok]) := by
  rcases Nat.lt_or_ge (bv a) (bv b) with h | h
  · exact ⟨[], false, Nat.zero_le _, fun w => refSub_no a b w (by omega) hb h⟩
  · exact ⟨_, true, (nb_len _ _).2 (Nat.lt_of_le_of_lt (Nat.sub_le _ _) (bv_b ha)), fun w => refSub_yes a b w (by omega) hb h⟩
theorem cat_bytes (l m : List UInt8) : (ByteArray.mk l.toArray ++ ByteArray.mk m.toArray) = ByteArray.mk (l ++ m).toArray := by
  apply ByteArray.ext
  simp
set_option maxRecDepth 100000 in
set_option maxHeartbeats 3200000 in
theorem quos_core (vx vy : Value) (more : Int) (lx ly : List UInt8) (w : World) (hx : BS w vx lx) (hy : BS w vy ly) (hmw : (Lit.int .u8 more).wf = true) (ht : pow10Is w) :
    Calls Tryz.prog 3 #[vx, vy, .int .u8 more] w (Yld w (.bool true)) := by
  obtain ⟨a, ka, hma⟩ := made_all vx lx w hx
  obtain ⟨b, kb, hmb⟩ := made_all vy ly w hy
  obtain ⟨hm0, hm1⟩ : 0 ≤ more ∧ more ≤ 255 := by
    have h : IntKind.u8.min ≤ more ∧ more ≤ IntKind.u8.max := by simpa [Lit.wf] using hmw
    exact h
  obtain ⟨ab, eab, vab⟩ := has_nb (bv a * bv b)
  have lab : ab.length ≤ 40 + 40 := by rw [← eab]; exact (nb_len _ _).2 (mulb (bv_b ka) (bv_b kb))
  obtain ⟨sm, esm, vsm⟩ := has_nb more.toNat
  have lsm : sm.length ≤ 1 := by rw [← esm]; exact (nb_len _ _).2 (by omega)
  obtain ⟨near, enear, vnear⟩ := has_nb (bv ab + bv sm)
  have lnear : near.length ≤ 81 := by rw [← enear]; exact (nb_len _ _).2 (add_bound (bv_b lab) (bv_b (show sm.length ≤ 40 + 40 by omega)))
  obtain ⟨low, okl, llow, hlow⟩ := C_rsubQ (a := ab) (b := sm) 80 lab (by decide) (by omega)
  have h1 : Ans 8 #[S a, S b] (S ab) := C_rmul eab (by omega) (by omega) rfl
  have h2 : Ans 9 #[.int .i64 more] (S sm) := fun w => (refOf_any more w (by omega) (by omega)).mono fun _ _ ⟨he, hC⟩ => ⟨by rw [he, esm], hC⟩
  have h3 : Ans 7 #[S ab, S sm] (S near) := C_radd enear (by omega) (by omega) rfl
  have HS := Lib.hid (sanity_all w ht)
  have HMx := Lib.hid hma
  have HMy := Lib.hid hmb
  have H1 := Lib.hid h1
  have H2 := Lib.hid h2
  have H3 := Lib.hid h3
  have H4 := Lib.hid hlow
  have KA := Lib.hid ka
  have KB := Lib.hid kb
  have KN := Lib.hid lnear
  have KL := Lib.hid llow
  obtain ⟨H0, hH0⟩ : ∃ H0 : List UInt8, H0 = [127, 255, 255, 255, 128, 0, 0, 0, 0, 0, 0, 0, 0, 0, 0, 0] := ⟨_, rfl⟩
  obtain ⟨H1', hH1⟩ : ∃ H1 : List UInt8, H1 = [128, 0, 0, 0, 0, 0, 0, 0, 0, 0, 0, 1] := ⟨_, rfl⟩
  have hc1 : (ByteArray.mk #[127, 255, 255, 255, 128, 0, 0, 0, 0, 0, 0, 0, 0, 0, 0, 0] ++ ByteArray.mk a.toArray) = ByteArray.mk (H0 ++ a).toArray := by rw [hH0]; exact cat_bytes _ _
  have hc2 : (ByteArray.mk #[128, 0, 0, 0, 0, 0, 0, 0, 0, 0, 0, 1] ++ ByteArray.mk b.toArray) = ByteArray.mk (H1' ++ b).toArray := by rw [hH1]; exact cat_bytes _ _
  have HH0 := Lib.hid hH0
  have HH1 := Lib.hid hH1
  have hka : a.length ≤ 40 := ka
  have hkb : b.length ≤ 40 := kb
  clear hma hmb ht hx hy hmw h1 h2 h3 hlow eab vab lab esm vsm lsm enear vnear lnear llow hH0 hH1 ka kb
  have HC := Lib.hid (Ch.refl w.heap.size none1 w)
  go_enter Tryz.func3, Tryz.ntmps3
  go_wp2_with (first
    | (go_at_call 5; with_reducible refine (HS.out _ HC.out).mono ?_; rintro e w' ⟨rfl, hC⟩; have HC2 := Lib.hid (HC.out.trans (hC.mono HC.out.size (fun _ _ q => q))); clear hC HC; have HC := HC2; clear HC2)
    | (go_at_call 6; with_reducible refine (HMx.out _ HC.out).mono ?_; rintro e w' ⟨rfl, hC⟩; have HC2 := Lib.hid (HC.out.trans (hC.mono HC.out.size (fun _ _ q => q))); clear hC HC; have HC := HC2; clear HC2)
    | (go_at_call 6; with_reducible refine (HMy.out _ HC.out).mono ?_; rintro e w' ⟨rfl, hC⟩; have HC2 := Lib.hid (HC.out.trans (hC.mono HC.out.size (fun _ _ q => q))); clear hC HC; have HC := HC2; clear HC2)
    | (go_at_call 8; with_reducible refine (H1.out _).mono ?_; rintro e w' ⟨rfl, hC⟩; have HC2 := Lib.hid (HC.out.trans (hC.mono HC.out.size (fun _ _ q => q))); clear hC HC; have HC := HC2; clear HC2)
    | (go_at_call 9; with_reducible refine (H2.out _).mono ?_; rintro e w' ⟨rfl, hC⟩; have HC2 := Lib.hid (HC.out.trans (hC.mono HC.out.size (fun _ _ q => q))); clear hC HC; have HC := HC2; clear HC2)
    | (go_at_call 7; with_reducible refine (H3.out _).mono ?_; rintro e w' ⟨rfl, hC⟩; have HC2 := Lib.hid (HC.out.trans (hC.mono HC.out.size (fun _ _ q => q))); clear hC HC; have HC := HC2; clear HC2)
    | (go_at_call 10; with_reducible refine (H4.out _).mono ?_; rintro e w' ⟨rfl, hC⟩; have HC2 := Lib.hid (HC.out.trans (hC.mono HC.out.size (fun _ _ q => q))); clear hC HC; have HC := HC2; clear HC2))
  clear hc1 hc2 HS HMx HMy H1 H2 H3 H4
  obtain ⟨ps, hps⟩ : ∃ ps : List (List UInt8 × List UInt8), ps = [(a, b), (b, a), (near, b), (low, b), (near, a), ([127, 255, 255, 255, 128, 0, 0, 0, 0, 0, 0, 0, 0, 0, 0, 0], [128, 0, 0, 0, 0, 0, 0, 0, 0, 0, 0, 1]), (H0 ++ a, H1' ++ b)] := ⟨_, rfl⟩
  obtain ⟨cs, hcs⟩ : ∃ cs : List Value, cs = [S a, S b, S b, S a, S near, S b, S low, S b, S near, S a, .string ⟨#[127, 255, 255, 255, 128, 0, 0, 0, 0, 0, 0, 0, 0, 0, 0, 0]⟩, .string ⟨#[128, 0, 0, 0, 0, 0, 0, 0, 0, 0, 0, 1]⟩, S (H0 ++ a), S (H1' ++ b)] := ⟨_, rfl⟩
  have hpl : ps.length = 7 := by subst hps; rfl
  have hl0 : H0.length = 16 := by rw [HH0.out]; rfl
  have hl1 : H1'.length = 12 := by rw [HH1.out]; rfl
  have hka := KA.out
  have hkb := KB.out
  have hkn := KN.out
  have hkl := KL.out
  have hall : ∀ k (h : k < ps.length), (ps[k]).1.length ≤ 1000 ∧ (ps[k]).2.length ≤ 1000 ∧ cs[2 * k]? = some (S (ps[k]).1) ∧ cs[2 * k + 1]? = some (S (ps[k]).2) := by
    subst hps hcs
    intro k h
    have : k = 0 ∨ k = 1 ∨ k = 2 ∨ k = 3 ∨ k = 4 ∨ k = 5 ∨ k = 6 := by simp at h; omega
    rcases this with rfl | rfl | rfl | rfl | rfl | rfl | rfl <;> simp <;> omega
  have hblk := Blk.new (w'.alloc (.cells #[.string ⟨#[127, 255, 255, 255, 128, 0, 0, 0, 0, 0, 0, 0, 0, 0, 0, 0]⟩, .string ⟨#[128, 0, 0, 0, 0, 0, 0, 0, 0, 0, 0, 1]⟩] 30 (0, 0))) #[S a, S b, S b, S a, S near, S b, S low, S b, S near, S a, .string ⟨#[127, 255, 255, 255, 128, 0, 0, 0, 0, 0, 0, 0, 0, 0, 0, 0]⟩, .string ⟨#[128, 0, 0, 0, 0, 0, 0, 0, 0, 0, 0, 1]⟩, S (H0 ++ a), S (H1' ++ b)] 30
  have hch1 := HC.out.alloc HC.out.size (.cells #[.string ⟨#[127, 255, 255, 255, 128, 0, 0, 0, 0, 0, 0, 0, 0, 0, 0, 0]⟩, .string ⟨#[128, 0, 0, 0, 0, 0, 0, 0, 0, 0, 0, 1]⟩] 30 (0, 0))
  have hch2 := hch1.alloc hch1.size (.cells #[S a, S b, S b, S a, S near, S b, S low, S b, S near, S a, .string ⟨#[127, 255, 255, 255, 128, 0, 0, 0, 0, 0, 0, 0, 0, 0, 0, 0]⟩, .string ⟨#[128, 0, 0, 0, 0, 0, 0, 0, 0, 0, 0, 1]⟩, S (H0 ++ a), S (H1' ++ b)] 30 (0, 0))
  rw [World.size_alloc] at hblk
  have hblk2 : Blk ((w'.alloc (.cells #[.string ⟨#[127, 255, 255, 255, 128, 0, 0, 0, 0, 0, 0, 0, 0, 0, 0, 0]⟩, .string ⟨#[128, 0, 0, 0, 0, 0, 0, 0, 0, 0, 0, 1]⟩] 30 (0, 0))).alloc (.cells #[S a, S b, S b, S a, S near, S b, S low, S b, S near, S a, .string ⟨#[127, 255, 255, 255, 128, 0, 0, 0, 0, 0, 0, 0, 0, 0, 0, 0]⟩, .string ⟨#[128, 0, 0, 0, 0, 0, 0, 0, 0, 0, 0, 1]⟩, S (H0 ++ a), S (H1' ++ b)] 30 (0, 0))) (w'.heap.size + 1) 30 cs := by subst hcs; exact hblk
  obtain ⟨W1, hW1⟩ : ∃ W, (w'.alloc (.cells #[.string ⟨#[127, 255, 255, 255, 128, 0, 0, 0, 0, 0, 0, 0, 0, 0, 0, 0]⟩, .string ⟨#[128, 0, 0, 0, 0, 0, 0, 0, 0, 0, 0, 1]⟩] 30 (0, 0))).alloc (.cells #[S a, S b, S b, S a, S near, S b, S low, S b, S near, S a, .string ⟨#[127, 255, 255, 255, 128, 0, 0, 0, 0, 0, 0, 0, 0, 0, 0, 0]⟩, .string ⟨#[128, 0, 0, 0, 0, 0, 0, 0, 0, 0, 0, 1]⟩, S (H0 ++ a), S (H1' ++ b)] 30 (0, 0)) = W := ⟨_, rfl⟩
  rw [hW1] at hblk2 hch2 ⊢
  obtain ⟨B, hB⟩ : ∃ B, w'.heap.size + 1 = B := ⟨_, rfl⟩
  rw [hB] at hblk2 ⊢
  have HALL := Lib.hid hall
  have HPL := Lib.hid hpl
  clear hblk hch1 hW1 hB hall hpl hps hcs HC hka hkb hkn hkl hl0 hl1 HH0 HH1 KA KB KN KL
  go_loopw [72] (fun i wr => ∃ k : Nat, k ≤ 7 ∧ i = I k ∧ Ch w.heap.size none1 w wr ∧ Blk wr B 30 cs) (fun i _ => 7 - (intOf i).toNat)
  case atStart => exact ⟨0, Nat.zero_le _, rfl, hch2, hblk2⟩
  case round =>
    clear hch2 hblk2
    obtain ⟨k, hk, rfl, hC, hB'⟩ := hrel
    have HB := Lib.hid hB'
    have HC := Lib.hid hC
    clear hC hB'
    by_cases hlt : k < 7
    · have hkm : k < ps.length := by rw [HPL.out]; exact hlt
      have hb := HALL.out k hkm
      have c0 : wr.cell? ⟨B, 2 * k, none⟩ = some (S (ps[k]).1) := (HB.out.cell _).trans hb.2.2.1
      have c1 : wr.cell? ⟨B, 2 * k + 1, none⟩ = some (S (ps[k]).2) := (HB.out.cell _).trans hb.2.2.2
      have c0' : wr.cell? ⟨B, k * 2, none⟩ = some (S (ps[k]).1) := by rw [Nat.mul_comm]; exact c0
      have c1' : wr.cell? ⟨B, k * 2 + 1, none⟩ = some (S (ps[k]).2) := by rw [Nat.mul_comm]; exact c1
      obtain ⟨x, hx⟩ : ∃ x, (ps[k]).1 = x := ⟨_, rfl⟩
      obtain ⟨y, hy⟩ : ∃ y, (ps[k]).2 = y := ⟨_, rfl⟩
      rw [hx] at c0 c0' hb
      rw [hy] at c1 c1' hb
      obtain ⟨l, m, ok, h1, h2⟩ := C_rquoQ hb.1 hb.2.1
      have G1 := Lib.hid h1
      have G2 := Lib.hid h2
      clear hx hy hb h1 h2
      go_wp2_with fail
      clear c0 c1 c0' c1'
      have hT0 := Blk.new wr #[S x, S y] 30
      have hB0 := HB.out.alloc (.cells #[S x, S y] 30 (0, 0))
      have hC0 := HC.out.alloc HC.out.size (.cells #[S x, S y] 30 (0, 0))
      refine (G1.out _).mono ?_
      rintro e w5 ⟨rfl, hC5⟩
      have hT5 := hC5.blk hT0 hT0.lt (fun q => q)
      have hB5 := hC5.blk hB0 hB0.lt (fun q => q)
      have HC5 := Lib.hid (hC0.step0 hC5 (Nat.le_refl _))
      obtain ⟨bt, hbt⟩ : ∃ b, wr.heap.size = b := ⟨_, rfl⟩
      rw [hbt] at hT5 ⊢
      clear hT0 hB0 hC0 hC5 hbt HB HC
      have d0 : w5.cell? ⟨bt, 0, none⟩ = some (S x) := hT5.cell 0
      have d1 : w5.cell? ⟨bt, 1, none⟩ = some (S y) := hT5.cell 1
      have HB5 := Lib.hid hB5
      clear hT5 hB5
      go_wp2_with fail
      clear d0 d1
      refine (G2.out _).mono ?_
      rintro e w6 ⟨rfl, hC6⟩
      have HB6 := Lib.hid (hC6.blk HB5.out HB5.out.lt (fun q => q))
      have HC6 := Lib.hid (HC5.out.step0 hC6 (Nat.le_refl _))
      clear hC6 HC5 HB5
      go_wp2_with fail
      go_roundw
      case rel => exact ⟨k + 1, by omega, by go_num, HC6.out, HB6.out⟩
      case measure => simp [intOf]; omega
    · obtain rfl : k = 7 := by omega
      go_wp2_with fail
      go_ret
      exact ⟨rfl, HC.out⟩
end Go.Proofs.YtcghnkdfhiancaaGreatDoor
