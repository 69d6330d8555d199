/- The laws of layer 2: RatioRaw. -/
import Derived.Test.YtggphkpnjnpbaaaGreatDoorLt
namespace Go.Proofs.YtggphkpnjnpbaaaGreatDoor
open Go.RowKit
theorem Kq.cut4 {w W : World} {a b : Nat} {t : TypeId} {x0 x1 x2 y0 y1 y2 : Value} (u1 u2 v1 v2 : Value) (h : Kq w W [(b, t, [y0, y1, y2]), (a, t, [x0, x1, x2])]) (ha : w.heap.size ≤ a) (hb : w.heap.size ≤ b) (hne : a ≠ b) :
    Kq w ((((W.setCell ⟨a, 1, none⟩ u1).setCell ⟨a, 2, none⟩ u2).setCell ⟨b, 1, none⟩ v1).setCell ⟨b, 2, none⟩ v2) [(b, t, [y0, v1, v2]), (a, t, [x0, u1, u2])] :=
  ⟨(((h.ch.setCell (p := ⟨a, 1, none⟩) (.inl ha) u1).setCell (p := ⟨a, 2, none⟩) (.inl ha) u2).setCell (p := ⟨b, 1, none⟩) (.inl hb) v1).setCell (p := ⟨b, 2, none⟩) (.inl hb) v2, fun p hp => by
    rcases List.mem_cons.1 hp with rfl | hp
    · exact ((((h.row _ (.head _)).set_other hne.symm 1 u1).set_other hne.symm 2 u2).set 1 v1).set 2 v2
    · obtain rfl := List.mem_singleton.1 hp
      exact ((((h.row _ (.tail _ (.head _))).set 1 u1).set 2 u2).set_other hne 1 v1).set_other hne 2 v2⟩
theorem cut20 (l : List UInt8) : (ByteArray.mk l.toArray).extract 0 (min (l.length : Int) 20).toNat = ByteArray.mk (l.take 20).toArray := by
  apply ByteArray.ext
  rw [ByteArray.data_extract]
  apply Array.toList_inj.1
  simp
  omega
set_option maxRecDepth 100000 in
set_option maxHeartbeats 3200000 in
/-- The reference's Sum of three. -/
theorem rSum3 {g : Nat} {W : World} {sa sb sc s0 s1 s2 s3 : Bool} {na da nb db nc dc n0 d0 n1 d1 n2 d2 n3 d3 : List UInt8} (hb : Blk W g 24 [.bool sa, S na, S da, .bool sb, S nb, S db, .bool sc, S nc, S dc])
    (h0 : Ans 61 #[.int .i64 0] (Rv s0 n0 d0)) (h1 : Ans 12 #[Rv s0 n0 d0, Rv sa na da] (Rv s1 n1 d1)) (h2 : Ans 12 #[Rv s1 n1 d1, Rv sb nb db] (Rv s2 n2 d2)) (h3 : Ans 12 #[Rv s2 n2 d2, Rv sc nc dc] (Rv s3 n3 d3)) :
    Calls Tryz.prog 26 #[.slice (some ⟨g, 0, none⟩) 3 3] W (Yld W (Rv s3 n3 d3)) := by
  obtain ⟨R0, hR0⟩ : ∃ R0, W.heap.size = R0 := ⟨_, rfl⟩
  have hlt := hb.lt
  rw [hR0] at hlt
  have HK := Lib.hid ((Kq.nil W).new #[.bool false, S [], S []] 24)
  rw [hR0] at HK
  have HB := Lib.hid hb
  have HR0 := Lib.hid hR0
  have H0 := Lib.hid h0
  have H1 := Lib.hid h1
  have H2 := Lib.hid h2
  have H3 := Lib.hid h3
  clear hb h0 h1 h2 h3
  go_enter Tryz.func26, Tryz.ntmps26
  go_wp2_with fail
  clear hR0
  refine (H0.out _).mono ?_
  rintro e w1 ⟨rfl, hC⟩
  have HK2 := Lib.hid (HK.out.on hC)
  clear hC HK
  have HK := HK2
  clear HK2
  obtain ⟨O, hO⟩ : ∃ O, w1.heap.size = O := ⟨_, rfl⟩
  have HO := Lib.hid (show R0 < O by rw [← hO]; exact (HK.out.row _ (.head _)).lt)
  have HK2 := Lib.hid (HK.out.new #[.bool s0, S n0, S d0] 24)
  rw [hO] at HK2
  clear HK
  have HK := HK2
  clear HK2
  go_wp2_with fail
  clear hO
  go_loopw [4] (fun x wr => (x = .int .i64 0 ∧ Kq W wr [(O, 24, [.bool s0, S n0, S d0]), (R0, 24, [.bool false, S [], S []])]) ∨ (x = .int .i64 1 ∧ Kq W wr [(O, 24, [.bool s1, S n1, S d1]), (R0, 24, [.bool false, S [], S []])]) ∨ (x = .int .i64 2 ∧ Kq W wr [(O, 24, [.bool s2, S n2, S d2]), (R0, 24, [.bool false, S [], S []])]) ∨ (x = .int .i64 3 ∧ Kq W wr [(O, 24, [.bool s3, S n3, S d3]), (R0, 24, [.bool false, S [], S []])])) (fun x _ => 3 - (intOf x).toNat)
  case atStart => exact .inl ⟨rfl, HK.out⟩
  case round =>
    have HBW := Lib.hid (show ∀ l V, Kq W V l → Blk V g 24 [.bool sa, S na, S da, .bool sb, S nb, S db, .bool sc, S nc, S dc] from fun l V h => h.ch.blk HB.out HB.out.lt (fun q => q))
    clear HK
    rcases hrel with ⟨rfl, hKK⟩ | ⟨rfl, hKK⟩ | ⟨rfl, hKK⟩ | ⟨rfl, hKK⟩
    · have HK := Lib.hid hKK
      have HE := Lib.hid (show ∀ l V, Kq W V l → V.cell? ⟨g, 0, none⟩ = some (.bool sa) ∧ V.cell? ⟨g, 1, none⟩ = some (S na) ∧ V.cell? ⟨g, 2, none⟩ = some (S da) from fun l V h => ⟨(HBW.out l V h).cell 0, (HBW.out l V h).cell 1, (HBW.out l V h).cell 2⟩)
      clear hKK
      go_upto_region 5 with fail
      have HKD := Lib.hid HK.out.drew
      clear HK
      have HK := HKD
      clear HKD
      refine wp_region_held_drew (S := fun w' => w'.cell? ⟨g, 0, none⟩ = some (.bool sa) ∧ w'.cell? ⟨g, 1, none⟩ = some (S na) ∧ w'.cell? ⟨g, 2, none⟩ = some (S da)) (by kernel_rfl) ?_ (fun hHeld => ?_)
      · (try dsimp only); exact HE.out _ _ HK.out
      obtain ⟨Wd, hWd⟩ : ∃ V, wr.drew = V := ⟨_, rfl⟩
      rw [hWd] at HK hHeld ⊢
      clear hWd
      refine tk 1 (v := ?_) hHeld ?_ ?_
      rotate_left 1
      · intro _ hw; (try dsimp only at hw); go_simp; try with_reducible rfl
      (try simp only [Act.put, List.setIfInBounds_toArray, List.set_cons_zero, List.set_cons_succ])
      refine tk 2 (v := ?_) hHeld ?_ ?_
      rotate_left 1
      · intro _ hw; (try dsimp only at hw); go_simp; try with_reducible rfl
      (try simp only [Act.put, List.setIfInBounds_toArray, List.set_cons_zero, List.set_cons_succ])
      refine tk 3 (v := ?_) hHeld ?_ ?_
      rotate_left 1
      · intro _ hw; (try dsimp only at hw); go_simp; try with_reducible rfl
      (try simp only [Act.put, List.setIfInBounds_toArray, List.set_cons_zero, List.set_cons_succ])
      refine tk 4 (v := ?_) hHeld ?_ ?_
      rotate_left 1
      · intro _ hw; (try dsimp only at hw); go_simp; try with_reducible rfl
      (try simp only [Act.put, List.setIfInBounds_toArray, List.set_cons_zero, List.set_cons_succ])
      have e0 := (HK.out.row _ (.head _)).cell 0
      have e1 := (HK.out.row _ (.head _)).cell 1
      have e2 := (HK.out.row _ (.head _)).cell 2
      refine wpAnyH_ready (rs := [0]) (by kernel_rfl) (by simp) ?_
      refine AllReadyH.cons (at_list rfl) (fun K hK => ?_) (AllReadyH.nil)
      go_simp
      clear hHeld
      refine hK.out _ _ ?_ (fun hHeld => ?_)
      · (try dsimp only); exact HE.out _ _ HK.out
      clear hK K
      (try simp only [Act.put, List.setIfInBounds_toArray, List.set_cons_zero, List.set_cons_succ])
      clear e0 e1 e2
      refine wpAnyH_ready (rs := [5]) (by kernel_rfl) (by simp) ?_
      refine AllReadyH.cons (at_list rfl) (fun K hK => ?_) (AllReadyH.nil)
      go_simp
      go_at_call 12; with_reducible refine (H1.out _).mono ?_; rintro e wq ⟨rfl, hCq⟩; have HK2 := Lib.hid (HK.out.on hCq); clear hCq HK; have HK := HK2; clear HK2
      clear hHeld
      first | (refine hK.out _ _ ?_ (fun hHeld => ?_)) | skip
      · (try dsimp only); exact HE.out _ _ HK.out
      clear hK K
      (try simp only [Act.put, List.setIfInBounds_toArray, List.set_cons_zero, List.set_cons_succ])
      have e0 := (HK.out.row _ (.head _)).cell 0
      have e1 := (HK.out.row _ (.head _)).cell 1
      have e2 := (HK.out.row _ (.head _)).cell 2
      have f0 := (HK.out.row _ (.head _)).frozen 0
      have f1 := (HK.out.row _ (.head _)).frozen 1
      have f2 := (HK.out.row _ (.head _)).frozen 2
      refine wpAnyH_ready (rs := [6]) (by kernel_rfl) (by simp) ?_
      refine AllReadyH.cons (at_list rfl) (fun K hK => ?_) (AllReadyH.nil)
      go_simp
      clear hHeld e0 e1 e2 f0 f1 f2
      have HK2 := Lib.hid (HK.out.put3 (by rw [HR0.out]; exact Nat.le_of_lt HO.out) (fun p hp => by obtain rfl := List.mem_singleton.1 hp; exact Nat.ne_of_lt HO.out) (.bool s1) (S n1) (S d1))
      refine hK.out _ _ ?_ (fun hHeld => ?_)
      · (try dsimp only); exact HE.out _ _ HK2.out
      clear hK K HK hHeld
      have HK := HK2
      clear HK2
      (try simp only [Act.put, List.setIfInBounds_toArray, List.set_cons_zero, List.set_cons_succ])
      refine wpAnyH_done (by kernel_rfl) ?_ _
      go_wp2_with fail
      go_roundw
      case rel => exact .inr (.inl ⟨rfl, HK.out⟩)
      case measure => simp [intOf]
    · have HK := Lib.hid hKK
      have HE := Lib.hid (show ∀ l V, Kq W V l → V.cell? ⟨g, 3, none⟩ = some (.bool sb) ∧ V.cell? ⟨g, 4, none⟩ = some (S nb) ∧ V.cell? ⟨g, 5, none⟩ = some (S db) from fun l V h => ⟨(HBW.out l V h).cell 3, (HBW.out l V h).cell 4, (HBW.out l V h).cell 5⟩)
      clear hKK
      go_upto_region 5 with fail
      have HKD := Lib.hid HK.out.drew
      clear HK
      have HK := HKD
      clear HKD
      refine wp_region_held_drew (S := fun w' => w'.cell? ⟨g, 3, none⟩ = some (.bool sb) ∧ w'.cell? ⟨g, 4, none⟩ = some (S nb) ∧ w'.cell? ⟨g, 5, none⟩ = some (S db)) (by kernel_rfl) ?_ (fun hHeld => ?_)
      · (try dsimp only); exact HE.out _ _ HK.out
      obtain ⟨Wd, hWd⟩ : ∃ V, wr.drew = V := ⟨_, rfl⟩
      rw [hWd] at HK hHeld ⊢
      clear hWd
      refine tk 1 (v := ?_) hHeld ?_ ?_
      rotate_left 1
      · intro _ hw; (try dsimp only at hw); go_simp; try with_reducible rfl
      (try simp only [Act.put, List.setIfInBounds_toArray, List.set_cons_zero, List.set_cons_succ])
      refine tk 2 (v := ?_) hHeld ?_ ?_
      rotate_left 1
      · intro _ hw; (try dsimp only at hw); go_simp; try with_reducible rfl
      (try simp only [Act.put, List.setIfInBounds_toArray, List.set_cons_zero, List.set_cons_succ])
      refine tk 3 (v := ?_) hHeld ?_ ?_
      rotate_left 1
      · intro _ hw; (try dsimp only at hw); go_simp; try with_reducible rfl
      (try simp only [Act.put, List.setIfInBounds_toArray, List.set_cons_zero, List.set_cons_succ])
      refine tk 4 (v := ?_) hHeld ?_ ?_
      rotate_left 1
      · intro _ hw; (try dsimp only at hw); go_simp; try with_reducible rfl
      (try simp only [Act.put, List.setIfInBounds_toArray, List.set_cons_zero, List.set_cons_succ])
      have e0 := (HK.out.row _ (.head _)).cell 0
      have e1 := (HK.out.row _ (.head _)).cell 1
      have e2 := (HK.out.row _ (.head _)).cell 2
      refine wpAnyH_ready (rs := [0]) (by kernel_rfl) (by simp) ?_
      refine AllReadyH.cons (at_list rfl) (fun K hK => ?_) (AllReadyH.nil)
      go_simp
      clear hHeld
      refine hK.out _ _ ?_ (fun hHeld => ?_)
      · (try dsimp only); exact HE.out _ _ HK.out
      clear hK K
      (try simp only [Act.put, List.setIfInBounds_toArray, List.set_cons_zero, List.set_cons_succ])
      clear e0 e1 e2
      refine wpAnyH_ready (rs := [5]) (by kernel_rfl) (by simp) ?_
      refine AllReadyH.cons (at_list rfl) (fun K hK => ?_) (AllReadyH.nil)
      go_simp
      go_at_call 12; with_reducible refine (H2.out _).mono ?_; rintro e wq ⟨rfl, hCq⟩; have HK2 := Lib.hid (HK.out.on hCq); clear hCq HK; have HK := HK2; clear HK2
      clear hHeld
      first | (refine hK.out _ _ ?_ (fun hHeld => ?_)) | skip
      · (try dsimp only); exact HE.out _ _ HK.out
      clear hK K
      (try simp only [Act.put, List.setIfInBounds_toArray, List.set_cons_zero, List.set_cons_succ])
      have e0 := (HK.out.row _ (.head _)).cell 0
      have e1 := (HK.out.row _ (.head _)).cell 1
      have e2 := (HK.out.row _ (.head _)).cell 2
      have f0 := (HK.out.row _ (.head _)).frozen 0
      have f1 := (HK.out.row _ (.head _)).frozen 1
      have f2 := (HK.out.row _ (.head _)).frozen 2
      refine wpAnyH_ready (rs := [6]) (by kernel_rfl) (by simp) ?_
      refine AllReadyH.cons (at_list rfl) (fun K hK => ?_) (AllReadyH.nil)
      go_simp
      clear hHeld e0 e1 e2 f0 f1 f2
      have HK2 := Lib.hid (HK.out.put3 (by rw [HR0.out]; exact Nat.le_of_lt HO.out) (fun p hp => by obtain rfl := List.mem_singleton.1 hp; exact Nat.ne_of_lt HO.out) (.bool s2) (S n2) (S d2))
      refine hK.out _ _ ?_ (fun hHeld => ?_)
      · (try dsimp only); exact HE.out _ _ HK2.out
      clear hK K HK hHeld
      have HK := HK2
      clear HK2
      (try simp only [Act.put, List.setIfInBounds_toArray, List.set_cons_zero, List.set_cons_succ])
      refine wpAnyH_done (by kernel_rfl) ?_ _
      go_wp2_with fail
      go_roundw
      case rel => exact .inr (.inr (.inl ⟨rfl, HK.out⟩))
      case measure => simp [intOf]
    · have HK := Lib.hid hKK
      have HE := Lib.hid (show ∀ l V, Kq W V l → V.cell? ⟨g, 6, none⟩ = some (.bool sc) ∧ V.cell? ⟨g, 7, none⟩ = some (S nc) ∧ V.cell? ⟨g, 8, none⟩ = some (S dc) from fun l V h => ⟨(HBW.out l V h).cell 6, (HBW.out l V h).cell 7, (HBW.out l V h).cell 8⟩)
      clear hKK
      go_upto_region 5 with fail
      have HKD := Lib.hid HK.out.drew
      clear HK
      have HK := HKD
      clear HKD
      refine wp_region_held_drew (S := fun w' => w'.cell? ⟨g, 6, none⟩ = some (.bool sc) ∧ w'.cell? ⟨g, 7, none⟩ = some (S nc) ∧ w'.cell? ⟨g, 8, none⟩ = some (S dc)) (by kernel_rfl) ?_ (fun hHeld => ?_)
      · (try dsimp only); exact HE.out _ _ HK.out
      obtain ⟨Wd, hWd⟩ : ∃ V, wr.drew = V := ⟨_, rfl⟩
      rw [hWd] at HK hHeld ⊢
      clear hWd
      refine tk 1 (v := ?_) hHeld ?_ ?_
      rotate_left 1
      · intro _ hw; (try dsimp only at hw); go_simp; try with_reducible rfl
      (try simp only [Act.put, List.setIfInBounds_toArray, List.set_cons_zero, List.set_cons_succ])
      refine tk 2 (v := ?_) hHeld ?_ ?_
      rotate_left 1
      · intro _ hw; (try dsimp only at hw); go_simp; try with_reducible rfl
      (try simp only [Act.put, List.setIfInBounds_toArray, List.set_cons_zero, List.set_cons_succ])
      refine tk 3 (v := ?_) hHeld ?_ ?_
      rotate_left 1
      · intro _ hw; (try dsimp only at hw); go_simp; try with_reducible rfl
      (try simp only [Act.put, List.setIfInBounds_toArray, List.set_cons_zero, List.set_cons_succ])
      refine tk 4 (v := ?_) hHeld ?_ ?_
      rotate_left 1
      · intro _ hw; (try dsimp only at hw); go_simp; try with_reducible rfl
      (try simp only [Act.put, List.setIfInBounds_toArray, List.set_cons_zero, List.set_cons_succ])
      have e0 := (HK.out.row _ (.head _)).cell 0
      have e1 := (HK.out.row _ (.head _)).cell 1
      have e2 := (HK.out.row _ (.head _)).cell 2
      refine wpAnyH_ready (rs := [0]) (by kernel_rfl) (by simp) ?_
      refine AllReadyH.cons (at_list rfl) (fun K hK => ?_) (AllReadyH.nil)
      go_simp
      clear hHeld
      refine hK.out _ _ ?_ (fun hHeld => ?_)
      · (try dsimp only); exact HE.out _ _ HK.out
      clear hK K
      (try simp only [Act.put, List.setIfInBounds_toArray, List.set_cons_zero, List.set_cons_succ])
      clear e0 e1 e2
      refine wpAnyH_ready (rs := [5]) (by kernel_rfl) (by simp) ?_
      refine AllReadyH.cons (at_list rfl) (fun K hK => ?_) (AllReadyH.nil)
      go_simp
      go_at_call 12; with_reducible refine (H3.out _).mono ?_; rintro e wq ⟨rfl, hCq⟩; have HK2 := Lib.hid (HK.out.on hCq); clear hCq HK; have HK := HK2; clear HK2
      clear hHeld
      first | (refine hK.out _ _ ?_ (fun hHeld => ?_)) | skip
      · (try dsimp only); exact HE.out _ _ HK.out
      clear hK K
      (try simp only [Act.put, List.setIfInBounds_toArray, List.set_cons_zero, List.set_cons_succ])
      have e0 := (HK.out.row _ (.head _)).cell 0
      have e1 := (HK.out.row _ (.head _)).cell 1
      have e2 := (HK.out.row _ (.head _)).cell 2
      have f0 := (HK.out.row _ (.head _)).frozen 0
      have f1 := (HK.out.row _ (.head _)).frozen 1
      have f2 := (HK.out.row _ (.head _)).frozen 2
      refine wpAnyH_ready (rs := [6]) (by kernel_rfl) (by simp) ?_
      refine AllReadyH.cons (at_list rfl) (fun K hK => ?_) (AllReadyH.nil)
      go_simp
      clear hHeld e0 e1 e2 f0 f1 f2
      have HK2 := Lib.hid (HK.out.put3 (by rw [HR0.out]; exact Nat.le_of_lt HO.out) (fun p hp => by obtain rfl := List.mem_singleton.1 hp; exact Nat.ne_of_lt HO.out) (.bool s3) (S n3) (S d3))
      refine hK.out _ _ ?_ (fun hHeld => ?_)
      · (try dsimp only); exact HE.out _ _ HK2.out
      clear hK K HK hHeld
      have HK := HK2
      clear HK2
      (try simp only [Act.put, List.setIfInBounds_toArray, List.set_cons_zero, List.set_cons_succ])
      refine wpAnyH_done (by kernel_rfl) ?_ _
      go_wp2_with fail
      go_roundw
      case rel => exact .inr (.inr (.inr ⟨rfl, HK.out⟩))
      case measure => simp [intOf]
    · have HK := Lib.hid hKK
      have e0 := (HK.out.row _ (.head _)).cell 0
      have e1 := (HK.out.row _ (.head _)).cell 1
      have e2 := (HK.out.row _ (.head _)).cell 2
      have g0 := (HK.out.row _ (.tail _ (.head _))).cell 0
      have g1 := (HK.out.row _ (.tail _ (.head _))).cell 1
      have g2 := (HK.out.row _ (.tail _ (.head _))).cell 2
      have f0 := (HK.out.row _ (.tail _ (.head _))).frozen 0
      have f1 := (HK.out.row _ (.tail _ (.head _))).frozen 1
      have f2 := (HK.out.row _ (.tail _ (.head _))).frozen 2
      clear hKK
      go_wp2_with fail
      have hB := (((HK.out.row _ (.tail _ (.head _))).set 0 (.bool s3)).set 1 (S n3)).set 2 (S d3)
      have hle : W.heap.size ≤ R0 := by rw [HR0.out]; exact Nat.le_refl _
      refine bodyPost_ret (results_cell_row (P := Tryz.prog) rfl _ _ R0 24 _ (0, 0) _ rfl hB Tryz.underlying24 rfl (by kernel_rfl)) rfl ?_
      exact ⟨rfl, ((HK.out.ch.setCell (p := ⟨R0, 0, none⟩) (.inl hle) _).setCell (p := ⟨R0, 1, none⟩) (.inl hle) _).setCell (p := ⟨R0, 2, none⟩) (.inl hle) _⟩
set_option maxRecDepth 100000 in
set_option maxHeartbeats 3200000 in
theorem raw_walk {sa sb sc se sf sg sh sq ok rr : Bool} {ma ea mb eb na da nb db nc dc ne de nf df ng dg nh dh nq dq tx : List UInt8} {k1 k2 : Int} (w : World) (ht : Tb w)
    (ha : ma.take 20 = na) (hda : ea.take 20 = da) (hnb : mb.take 20 = nb) (hdb : eb.take 20 = db)
    (hH0 : AnsT 6 #[] (.bool true)) (hH1 : AnsT 7 #[Rv sa na da, Rv sb nb db] (.tuple #[Rv sq nq dq, .bool ok])) (hH2 : Ans 8 #[Rv sa na da, Rv sb nb db] (.tuple #[Rv sq nq dq, .bool ok])) (hH3 : AnsT 9 #[Rv sa na da] (.bool rr)) (hH4 : Ans 10 #[Rv sa na da] (.bool rr)) (hH5 : AnsT 11 #[Rv sa na da, Rv sb nb db] (Rv sc nc dc)) (hH6 : Ans 12 #[Rv sa na da, Rv sb nb db] (Rv sc nc dc)) (hH7 : AnsT 13 #[Rv sa na da, Rv sb nb db] (Rv se ne de)) (hH8 : Ans 14 #[Rv sa na da, Rv sb nb db] (Rv se ne de)) (hH9 : AnsT 15 #[Rv sa na da, Rv sb nb db] (Rv sf nf df)) (hH10 : Ans 16 #[Rv sa na da, Rv sb nb db] (Rv sf nf df)) (hH11 : AnsT 17 #[Rv sa na da, Rv sb nb db] (.int .i64 k1)) (hH12 : Ans 18 #[Rv sa na da, Rv sb nb db] (.int .i64 k1)) (hH13 : AnsT 19 #[Rv sa na da] (.int .i64 k2)) (hH14 : Ans 20 #[Rv sa na da] (.int .i64 k2)) (hH15 : AnsT 21 #[Rv sa na da] (Rv sg ng dg)) (hH16 : Ans 22 #[Rv sa na da] (Rv sg ng dg)) (hH17 : AnsT 23 #[Rv sa na da] (S tx)) (hH18 : Ans 24 #[Rv sa na da] (S tx)) (hH19 : AnsT 9 #[Rv sc nc dc] (.bool true)) (hH20 : AnsT 9 #[Rv sg ng dg] (.bool true)) (hH21 : ∀ W G, Tb W → Blk W G 24 [.bool sa, S na, S da, .bool sb, S nb, S db, .bool sa, S na, S da] → Calls Tryz.prog 25 #[.slice (some ⟨G, 0, none⟩) 3 3] W (Yld W (Rv sh nh dh))) (hH22 : ∀ W G, Blk W G 24 [.bool sa, S na, S da, .bool sb, S nb, S db, .bool sa, S na, S da] → Calls Tryz.prog 26 #[.slice (some ⟨G, 0, none⟩) 3 3] W (Yld W (Rv sh nh dh))) :
    Calls Tryz.prog 3 #[Rv sa ma ea, Rv sb mb eb] w (Yld w (.bool true)) := by
  have H0 := Lib.hid hH0
  have H1 := Lib.hid hH1
  have H2 := Lib.hid hH2
  have H3 := Lib.hid hH3
  have H4 := Lib.hid hH4
  have H5 := Lib.hid hH5
  have H6 := Lib.hid hH6
  have H7 := Lib.hid hH7
  have H8 := Lib.hid hH8
  have H9 := Lib.hid hH9
  have H10 := Lib.hid hH10
  have H11 := Lib.hid hH11
  have H12 := Lib.hid hH12
  have H13 := Lib.hid hH13
  have H14 := Lib.hid hH14
  have H15 := Lib.hid hH15
  have H16 := Lib.hid hH16
  have H17 := Lib.hid hH17
  have H18 := Lib.hid hH18
  have H19 := Lib.hid hH19
  have H20 := Lib.hid hH20
  have H21 := Lib.hid hH21
  have H22 := Lib.hid hH22
  have HT := Lib.hid ht
  have q1 := cut20 ma
  have q2 := cut20 ea
  have q3 := cut20 mb
  have q4 := cut20 eb
  rw [ha] at q1
  rw [hda] at q2
  rw [hnb] at q3
  rw [hdb] at q4
  have c1 : (0 : Int) ≤ min (ma.length : Int) 20 := by omega
  have c2 : min (ma.length : Int) 20 ≤ (ma.length : Int) := by omega
  have c3 : (0 : Int) ≤ min (ea.length : Int) 20 := by omega
  have c4 : min (ea.length : Int) 20 ≤ (ea.length : Int) := by omega
  have c5 : (0 : Int) ≤ min (mb.length : Int) 20 := by omega
  have c6 : min (mb.length : Int) 20 ≤ (mb.length : Int) := by omega
  have c7 : (0 : Int) ≤ min (eb.length : Int) 20 := by omega
  have c8 : min (eb.length : Int) 20 ≤ (eb.length : Int) := by omega
  clear ht ha hda hnb hdb hH0 hH1 hH2 hH3 hH4 hH5 hH6 hH7 hH8 hH9 hH10 hH11 hH12 hH13 hH14 hH15 hH16 hH17 hH18 hH19 hH20 hH21 hH22
  have HK := Lib.hid (((Kq.nil w).new #[.bool sa, S ma, S ea] 24).new #[.bool sb, S mb, S eb] 24)
  rw [World.size_alloc] at HK
  obtain ⟨B, hB⟩ : ∃ B, w.heap.size = B := ⟨_, rfl⟩
  rw [hB] at HK
  have HBA := Lib.hid (show w.heap.size ≤ B by omega)
  have HBB := Lib.hid (show w.heap.size ≤ B + 1 by omega)
  have HF1 := Lib.hid (show ∀ W, Kq w W [(B + 1, 24, [.bool sb, S mb, S eb]), (B, 24, [.bool sa, S ma, S ea])] → W.cell? ⟨B + 1, 0, none⟩ = some (.bool sb) ∧ W.cell? ⟨B + 1, 1, none⟩ = some (S mb) ∧ W.cell? ⟨B + 1, 2, none⟩ = some (S eb) ∧ W.cell? ⟨B, 0, none⟩ = some (.bool sa) ∧ W.cell? ⟨B, 1, none⟩ = some (S ma) ∧ W.cell? ⟨B, 2, none⟩ = some (S ea) from fun W h => ⟨(h.row _ (.head _)).cell 0, (h.row _ (.head _)).cell 1, (h.row _ (.head _)).cell 2, (h.row _ (.tail _ (.head _))).cell 0, (h.row _ (.tail _ (.head _))).cell 1, (h.row _ (.tail _ (.head _))).cell 2⟩)
  obtain ⟨cc0, cc1, cc2, cc3, cc4, cc5⟩ := HF1.out _ HK.out
  go_enter Tryz.func3, Tryz.ntmps3
  go_wp2_with fail
  clear hB
  refine (H0.out _ (HT.out.ch HK.out.ch)).mono ?_
  rintro e w1 ⟨rfl, hC⟩
  have HK2 := Lib.hid (HK.out.on hC)
  clear cc0 cc1 cc2 cc3 cc4 cc5
  clear hC HK
  have HK := HK2
  clear HK2
  obtain ⟨cc0, cc1, cc2, cc3, cc4, cc5⟩ := HF1.out _ HK.out
  have f0 := (HK.out.row _ (.head _)).frozen 1
  have f1 := (HK.out.row _ (.head _)).frozen 2
  have f2 := (HK.out.row _ (.tail _ (.head _))).frozen 1
  have f3 := (HK.out.row _ (.tail _ (.head _))).frozen 2
  go_wp2_with fail
  clear cc0 cc1 cc2 cc3 cc4 cc5
  have HK2 := Lib.hid (HK.out.cut4 (S na) (S da) (S nb) (S db) HBA.out HBB.out (by omega))
  obtain ⟨w50, hW⟩ : ∃ W, ((((w1.setCell ⟨B, 1, none⟩ (S na)).setCell ⟨B, 2, none⟩ (S da)).setCell ⟨B + 1, 1, none⟩ (S nb)).setCell ⟨B + 1, 2, none⟩ (S db)) = W := ⟨_, rfl⟩
  rw [hW] at HK2 ⊢
  clear hW HK f0 f1 f2 f3 c1 c2 c3 c4 c5 c6 c7 c8 q1 q2 q3 q4
  have HK := HK2
  clear HK2
  have HF2 := Lib.hid (show ∀ W, Kq w W [(B + 1, 24, [.bool sb, S nb, S db]), (B, 24, [.bool sa, S na, S da])] → W.cell? ⟨B + 1, 0, none⟩ = some (.bool sb) ∧ W.cell? ⟨B + 1, 1, none⟩ = some (S nb) ∧ W.cell? ⟨B + 1, 2, none⟩ = some (S db) ∧ W.cell? ⟨B, 0, none⟩ = some (.bool sa) ∧ W.cell? ⟨B, 1, none⟩ = some (S na) ∧ W.cell? ⟨B, 2, none⟩ = some (S da) from fun W h => ⟨(h.row _ (.head _)).cell 0, (h.row _ (.head _)).cell 1, (h.row _ (.head _)).cell 2, (h.row _ (.tail _ (.head _))).cell 0, (h.row _ (.tail _ (.head _))).cell 1, (h.row _ (.tail _ (.head _))).cell 2⟩)
  obtain ⟨cc0, cc1, cc2, cc3, cc4, cc5⟩ := HF2.out _ HK.out
  refine (H1.out _ (HT.out.ch HK.out.ch)).mono ?_
  rintro e w51 ⟨rfl, hC⟩
  have HK2 := Lib.hid (HK.out.on hC)
  clear cc0 cc1 cc2 cc3 cc4 cc5
  clear hC HK
  have HK := HK2
  clear HK2
  obtain ⟨cc0, cc1, cc2, cc3, cc4, cc5⟩ := HF2.out _ HK.out
  have hall := fun o : Obj => HF2.out _ (HK.out.other o)
  have dd0 : ∀ o : Obj, (w51.alloc o).cell? ⟨B + 1, 0, none⟩ = some (.bool sb) := fun o => (hall o).1
  have dd1 : ∀ o : Obj, (w51.alloc o).cell? ⟨B + 1, 1, none⟩ = some (S nb) := fun o => (hall o).2.1
  have dd2 : ∀ o : Obj, (w51.alloc o).cell? ⟨B + 1, 2, none⟩ = some (S db) := fun o => (hall o).2.2.1
  have dd3 : ∀ o : Obj, (w51.alloc o).cell? ⟨B, 0, none⟩ = some (.bool sa) := fun o => (hall o).2.2.2.1
  have dd4 : ∀ o : Obj, (w51.alloc o).cell? ⟨B, 1, none⟩ = some (S na) := fun o => (hall o).2.2.2.2.1
  have dd5 : ∀ o : Obj, (w51.alloc o).cell? ⟨B, 2, none⟩ = some (S da) := fun o => (hall o).2.2.2.2.2
  clear hall
  go_wp2_with fail
  clear cc0 cc1 cc2 cc3 cc4 cc5 dd0 dd1 dd2 dd3 dd4 dd5
  have HK2 := Lib.hid (HK.out.new #[.bool sq, S nq, S dq] 24)
  obtain ⟨w52, hW⟩ : ∃ W, w51.alloc (.cells #[.bool sq, S nq, S dq] 24 (0, 0)) = W := ⟨_, rfl⟩
  rw [hW] at HK2 ⊢
  obtain ⟨P, hA⟩ : ∃ A, w51.heap.size = A := ⟨_, rfl⟩
  rw [hA] at HK2 ⊢
  clear hA hW HK
  have HK := HK2
  clear HK2
  have HF3 := Lib.hid (show ∀ W, Kq w W [(P, 24, [.bool sq, S nq, S dq]), (B + 1, 24, [.bool sb, S nb, S db]), (B, 24, [.bool sa, S na, S da])] → W.cell? ⟨P, 0, none⟩ = some (.bool sq) ∧ W.cell? ⟨P, 1, none⟩ = some (S nq) ∧ W.cell? ⟨P, 2, none⟩ = some (S dq) ∧ W.cell? ⟨B + 1, 0, none⟩ = some (.bool sb) ∧ W.cell? ⟨B + 1, 1, none⟩ = some (S nb) ∧ W.cell? ⟨B + 1, 2, none⟩ = some (S db) ∧ W.cell? ⟨B, 0, none⟩ = some (.bool sa) ∧ W.cell? ⟨B, 1, none⟩ = some (S na) ∧ W.cell? ⟨B, 2, none⟩ = some (S da) from fun W h => ⟨(h.row _ (.head _)).cell 0, (h.row _ (.head _)).cell 1, (h.row _ (.head _)).cell 2, (h.row _ (.tail _ (.head _))).cell 0, (h.row _ (.tail _ (.head _))).cell 1, (h.row _ (.tail _ (.head _))).cell 2, (h.row _ (.tail _ (.tail _ (.head _)))).cell 0, (h.row _ (.tail _ (.tail _ (.head _)))).cell 1, (h.row _ (.tail _ (.tail _ (.head _)))).cell 2⟩)
  obtain ⟨cc0, cc1, cc2, cc3, cc4, cc5, cc6, cc7, cc8⟩ := HF3.out _ HK.out
  refine (H2.out _).mono ?_
  rintro e w53 ⟨rfl, hC⟩
  have HK2 := Lib.hid (HK.out.on hC)
  clear cc0 cc1 cc2 cc3 cc4 cc5 cc6 cc7 cc8
  clear hC HK
  have HK := HK2
  clear HK2
  obtain ⟨cc0, cc1, cc2, cc3, cc4, cc5, cc6, cc7, cc8⟩ := HF3.out _ HK.out
  have hall := fun o : Obj => HF3.out _ (HK.out.other o)
  have dd0 : ∀ o : Obj, (w53.alloc o).cell? ⟨P, 0, none⟩ = some (.bool sq) := fun o => (hall o).1
  have dd1 : ∀ o : Obj, (w53.alloc o).cell? ⟨P, 1, none⟩ = some (S nq) := fun o => (hall o).2.1
  have dd2 : ∀ o : Obj, (w53.alloc o).cell? ⟨P, 2, none⟩ = some (S dq) := fun o => (hall o).2.2.1
  have dd3 : ∀ o : Obj, (w53.alloc o).cell? ⟨B + 1, 0, none⟩ = some (.bool sb) := fun o => (hall o).2.2.2.1
  have dd4 : ∀ o : Obj, (w53.alloc o).cell? ⟨B + 1, 1, none⟩ = some (S nb) := fun o => (hall o).2.2.2.2.1
  have dd5 : ∀ o : Obj, (w53.alloc o).cell? ⟨B + 1, 2, none⟩ = some (S db) := fun o => (hall o).2.2.2.2.2.1
  have dd6 : ∀ o : Obj, (w53.alloc o).cell? ⟨B, 0, none⟩ = some (.bool sa) := fun o => (hall o).2.2.2.2.2.2.1
  have dd7 : ∀ o : Obj, (w53.alloc o).cell? ⟨B, 1, none⟩ = some (S na) := fun o => (hall o).2.2.2.2.2.2.2.1
  have dd8 : ∀ o : Obj, (w53.alloc o).cell? ⟨B, 2, none⟩ = some (S da) := fun o => (hall o).2.2.2.2.2.2.2.2
  clear hall
  go_wp2_with fail
  clear cc0 cc1 cc2 cc3 cc4 cc5 cc6 cc7 cc8 dd0 dd1 dd2 dd3 dd4 dd5 dd6 dd7 dd8
  have HK2 := Lib.hid (HK.out.new #[.bool sq, S nq, S dq] 24)
  obtain ⟨w54, hW⟩ : ∃ W, w53.alloc (.cells #[.bool sq, S nq, S dq] 24 (0, 0)) = W := ⟨_, rfl⟩
  rw [hW] at HK2 ⊢
  obtain ⟨Qb, hA⟩ : ∃ A, w53.heap.size = A := ⟨_, rfl⟩
  rw [hA] at HK2 ⊢
  clear hA hW HK
  have HK := HK2
  clear HK2
  have HF4 := Lib.hid (show ∀ W, Kq w W [(Qb, 24, [.bool sq, S nq, S dq]), (P, 24, [.bool sq, S nq, S dq]), (B + 1, 24, [.bool sb, S nb, S db]), (B, 24, [.bool sa, S na, S da])] → W.cell? ⟨Qb, 0, none⟩ = some (.bool sq) ∧ W.cell? ⟨Qb, 1, none⟩ = some (S nq) ∧ W.cell? ⟨Qb, 2, none⟩ = some (S dq) ∧ W.cell? ⟨P, 0, none⟩ = some (.bool sq) ∧ W.cell? ⟨P, 1, none⟩ = some (S nq) ∧ W.cell? ⟨P, 2, none⟩ = some (S dq) ∧ W.cell? ⟨B + 1, 0, none⟩ = some (.bool sb) ∧ W.cell? ⟨B + 1, 1, none⟩ = some (S nb) ∧ W.cell? ⟨B + 1, 2, none⟩ = some (S db) ∧ W.cell? ⟨B, 0, none⟩ = some (.bool sa) ∧ W.cell? ⟨B, 1, none⟩ = some (S na) ∧ W.cell? ⟨B, 2, none⟩ = some (S da) from fun W h => ⟨(h.row _ (.head _)).cell 0, (h.row _ (.head _)).cell 1, (h.row _ (.head _)).cell 2, (h.row _ (.tail _ (.head _))).cell 0, (h.row _ (.tail _ (.head _))).cell 1, (h.row _ (.tail _ (.head _))).cell 2, (h.row _ (.tail _ (.tail _ (.head _)))).cell 0, (h.row _ (.tail _ (.tail _ (.head _)))).cell 1, (h.row _ (.tail _ (.tail _ (.head _)))).cell 2, (h.row _ (.tail _ (.tail _ (.tail _ (.head _))))).cell 0, (h.row _ (.tail _ (.tail _ (.tail _ (.head _))))).cell 1, (h.row _ (.tail _ (.tail _ (.tail _ (.head _))))).cell 2⟩)
  obtain ⟨cc0, cc1, cc2, cc3, cc4, cc5, cc6, cc7, cc8, cc9, cc10, cc11⟩ := HF4.out _ HK.out
  clear cc0 cc1 cc2 cc3 cc4 cc5 cc6 cc7 cc8 cc9 cc10 cc11
  have HKD := Lib.hid HK.out.drew
  clear HK
  have HK := HKD
  clear HKD
  go_region_held3 (fun w' => w'.cell? ⟨Qb, 0, none⟩ = some (.bool sq) ∧ w'.cell? ⟨Qb, 1, none⟩ = some (S nq) ∧ w'.cell? ⟨Qb, 2, none⟩ = some (S dq) ∧ w'.cell? ⟨P, 0, none⟩ = some (.bool sq) ∧ w'.cell? ⟨P, 1, none⟩ = some (S nq) ∧ w'.cell? ⟨P, 2, none⟩ = some (S dq) ∧ w'.cell? ⟨B + 1, 0, none⟩ = some (.bool sb) ∧ w'.cell? ⟨B + 1, 1, none⟩ = some (S nb) ∧ w'.cell? ⟨B + 1, 2, none⟩ = some (S db) ∧ w'.cell? ⟨B, 0, none⟩ = some (.bool sa) ∧ w'.cell? ⟨B, 1, none⟩ = some (S na) ∧ w'.cell? ⟨B, 2, none⟩ = some (S da))
    (first
      | (with_reducible exact HF4.out _ HK.out)
      | go_keep)
    (first
      | (go_at_call 9; with_reducible refine (H3.out _ (HT.out.ch HK.out.ch)).mono ?_; rintro e wq ⟨rfl, hCq⟩; have HK2 := Lib.hid (HK.out.on hCq); clear hCq HK; have HK := HK2; clear HK2)
      | (go_at_call 10; with_reducible refine (H4.out _).mono ?_; rintro e wq ⟨rfl, hCq⟩; have HK2 := Lib.hid (HK.out.on hCq); clear hCq HK; have HK := HK2; clear HK2)
      | (go_at_call 11; with_reducible refine (H5.out _ (HT.out.ch HK.out.ch)).mono ?_; rintro e wq ⟨rfl, hCq⟩; have HK2 := Lib.hid (HK.out.on hCq); clear hCq HK; have HK := HK2; clear HK2)
      | (go_at_call 12; with_reducible refine (H6.out _).mono ?_; rintro e wq ⟨rfl, hCq⟩; have HK2 := Lib.hid (HK.out.on hCq); clear hCq HK; have HK := HK2; clear HK2)
      | (go_at_call 13; with_reducible refine (H7.out _ (HT.out.ch HK.out.ch)).mono ?_; rintro e wq ⟨rfl, hCq⟩; have HK2 := Lib.hid (HK.out.on hCq); clear hCq HK; have HK := HK2; clear HK2)
      | (go_at_call 14; with_reducible refine (H8.out _).mono ?_; rintro e wq ⟨rfl, hCq⟩; have HK2 := Lib.hid (HK.out.on hCq); clear hCq HK; have HK := HK2; clear HK2)
      | (go_at_call 15; with_reducible refine (H9.out _ (HT.out.ch HK.out.ch)).mono ?_; rintro e wq ⟨rfl, hCq⟩; have HK2 := Lib.hid (HK.out.on hCq); clear hCq HK; have HK := HK2; clear HK2)
      | (go_at_call 16; with_reducible refine (H10.out _).mono ?_; rintro e wq ⟨rfl, hCq⟩; have HK2 := Lib.hid (HK.out.on hCq); clear hCq HK; have HK := HK2; clear HK2))
  obtain ⟨cc0, cc1, cc2, cc3, cc4, cc5, cc6, cc7, cc8, cc9, cc10, cc11⟩ := HF4.out _ HK.out
  go_wp2_with fail
  clear cc0 cc1 cc2 cc3 cc4 cc5 cc6 cc7 cc8 cc9 cc10 cc11
  have HKD := Lib.hid HK.out.drew
  clear HK
  have HK := HKD
  clear HKD
  go_region_held3 (fun w' => w'.cell? ⟨Qb, 0, none⟩ = some (.bool sq) ∧ w'.cell? ⟨Qb, 1, none⟩ = some (S nq) ∧ w'.cell? ⟨Qb, 2, none⟩ = some (S dq) ∧ w'.cell? ⟨P, 0, none⟩ = some (.bool sq) ∧ w'.cell? ⟨P, 1, none⟩ = some (S nq) ∧ w'.cell? ⟨P, 2, none⟩ = some (S dq) ∧ w'.cell? ⟨B + 1, 0, none⟩ = some (.bool sb) ∧ w'.cell? ⟨B + 1, 1, none⟩ = some (S nb) ∧ w'.cell? ⟨B + 1, 2, none⟩ = some (S db) ∧ w'.cell? ⟨B, 0, none⟩ = some (.bool sa) ∧ w'.cell? ⟨B, 1, none⟩ = some (S na) ∧ w'.cell? ⟨B, 2, none⟩ = some (S da))
    (first
      | (with_reducible exact HF4.out _ HK.out)
      | go_keep)
    (first
      | (go_at_call 17; with_reducible refine (H11.out _ (HT.out.ch HK.out.ch)).mono ?_; rintro e wq ⟨rfl, hCq⟩; have HK2 := Lib.hid (HK.out.on hCq); clear hCq HK; have HK := HK2; clear HK2)
      | (go_at_call 18; with_reducible refine (H12.out _).mono ?_; rintro e wq ⟨rfl, hCq⟩; have HK2 := Lib.hid (HK.out.on hCq); clear hCq HK; have HK := HK2; clear HK2)
      | (go_at_call 19; with_reducible refine (H13.out _ (HT.out.ch HK.out.ch)).mono ?_; rintro e wq ⟨rfl, hCq⟩; have HK2 := Lib.hid (HK.out.on hCq); clear hCq HK; have HK := HK2; clear HK2)
      | (go_at_call 20; with_reducible refine (H14.out _).mono ?_; rintro e wq ⟨rfl, hCq⟩; have HK2 := Lib.hid (HK.out.on hCq); clear hCq HK; have HK := HK2; clear HK2)
      | (go_at_call 21; with_reducible refine (H15.out _ (HT.out.ch HK.out.ch)).mono ?_; rintro e wq ⟨rfl, hCq⟩; have HK2 := Lib.hid (HK.out.on hCq); clear hCq HK; have HK := HK2; clear HK2)
      | (go_at_call 22; with_reducible refine (H16.out _).mono ?_; rintro e wq ⟨rfl, hCq⟩; have HK2 := Lib.hid (HK.out.on hCq); clear hCq HK; have HK := HK2; clear HK2)
      | (go_at_call 23; with_reducible refine (H17.out _ (HT.out.ch HK.out.ch)).mono ?_; rintro e wq ⟨rfl, hCq⟩; have HK2 := Lib.hid (HK.out.on hCq); clear hCq HK; have HK := HK2; clear HK2)
      | (go_at_call 24; with_reducible refine (H18.out _).mono ?_; rintro e wq ⟨rfl, hCq⟩; have HK2 := Lib.hid (HK.out.on hCq); clear hCq HK; have HK := HK2; clear HK2))
  obtain ⟨cc0, cc1, cc2, cc3, cc4, cc5, cc6, cc7, cc8, cc9, cc10, cc11⟩ := HF4.out _ HK.out
  go_wp2_with fail
  clear cc0 cc1 cc2 cc3 cc4 cc5 cc6 cc7 cc8 cc9 cc10 cc11
  have HKD := Lib.hid HK.out.drew
  clear HK
  have HK := HKD
  clear HKD
  refine wp_region_held_drew (S := fun w' => w'.cell? ⟨Qb, 0, none⟩ = some (.bool sq) ∧ w'.cell? ⟨Qb, 1, none⟩ = some (S nq) ∧ w'.cell? ⟨Qb, 2, none⟩ = some (S dq) ∧ w'.cell? ⟨P, 0, none⟩ = some (.bool sq) ∧ w'.cell? ⟨P, 1, none⟩ = some (S nq) ∧ w'.cell? ⟨P, 2, none⟩ = some (S dq) ∧ w'.cell? ⟨B + 1, 0, none⟩ = some (.bool sb) ∧ w'.cell? ⟨B + 1, 1, none⟩ = some (S nb) ∧ w'.cell? ⟨B + 1, 2, none⟩ = some (S db) ∧ w'.cell? ⟨B, 0, none⟩ = some (.bool sa) ∧ w'.cell? ⟨B, 1, none⟩ = some (S na) ∧ w'.cell? ⟨B, 2, none⟩ = some (S da)) (by kernel_rfl) ?_ (fun hHeld => ?_)
  · (try dsimp only); exact HF4.out _ HK.out
  refine tk 0 (v := ?_) hHeld ?_ ?_
  rotate_left 1
  · intro _ hw; (try dsimp only at hw); go_simp; try with_reducible rfl
  (try simp only [Act.put, List.setIfInBounds_toArray, List.set_cons_zero, List.set_cons_succ])
  refine tk 1 (v := ?_) hHeld ?_ ?_
  rotate_left 1
  · intro _ hw; (try dsimp only at hw); go_simp; try with_reducible rfl
  (try simp only [Act.put, List.setIfInBounds_toArray, List.set_cons_zero, List.set_cons_succ])
  refine tk 2 (v := ?_) hHeld ?_ ?_
  rotate_left 1
  · intro _ hw; (try dsimp only at hw); go_simp; try with_reducible rfl
  (try simp only [Act.put, List.setIfInBounds_toArray, List.set_cons_zero, List.set_cons_succ])
  refine tk 3 (v := ?_) hHeld ?_ ?_
  rotate_left 1
  · intro _ hw; (try dsimp only at hw); go_simp; try with_reducible rfl
  (try simp only [Act.put, List.setIfInBounds_toArray, List.set_cons_zero, List.set_cons_succ])
  refine tk 4 (v := ?_) hHeld ?_ ?_
  rotate_left 1
  · intro _ hw; (try dsimp only at hw); go_simp; try with_reducible rfl
  (try simp only [Act.put, List.setIfInBounds_toArray, List.set_cons_zero, List.set_cons_succ])
  refine tk 5 (v := ?_) hHeld ?_ ?_
  rotate_left 1
  · intro _ hw; (try dsimp only at hw); go_simp; try with_reducible rfl
  (try simp only [Act.put, List.setIfInBounds_toArray, List.set_cons_zero, List.set_cons_succ])
  refine tk 6 (v := ?_) hHeld ?_ ?_
  rotate_left 1
  · intro _ hw; (try dsimp only at hw); go_simp; try with_reducible rfl
  (try simp only [Act.put, List.setIfInBounds_toArray, List.set_cons_zero, List.set_cons_succ])
  refine tk 7 (v := ?_) hHeld ?_ ?_
  rotate_left 1
  · intro _ hw; (try dsimp only at hw); go_simp; try with_reducible rfl
  (try simp only [Act.put, List.setIfInBounds_toArray, List.set_cons_zero, List.set_cons_succ])
  refine tk 8 (v := ?_) hHeld ?_ ?_
  rotate_left 1
  · intro _ hw; (try dsimp only at hw); go_simp; try with_reducible rfl
  (try simp only [Act.put, List.setIfInBounds_toArray, List.set_cons_zero, List.set_cons_succ])
  refine tk 9 (v := ?_) hHeld ?_ ?_
  rotate_left 1
  · intro _ hw; (try dsimp only at hw); go_simp; try with_reducible rfl
  (try simp only [Act.put, List.setIfInBounds_toArray, List.set_cons_zero, List.set_cons_succ])
  refine wpAnyH_ready (rs := [10]) (by kernel_rfl) (by simp) ?_
  refine AllReadyH.cons (at_list rfl) (fun K hK => ?_) AllReadyH.nil
  go_simp
  go_at_call 11; with_reducible refine (H5.out _ (HT.out.ch HK.out.ch)).mono ?_; rintro e wq ⟨rfl, hCq⟩; have HK2 := Lib.hid (HK.out.on hCq); clear hCq HK; have HK := HK2; clear HK2
  clear hHeld
  first | (refine hK.out _ _ ?_ (fun hHeld => ?_)) | (go_wp2_with fail; refine hK.out _ _ ?_ (fun hHeld => ?_))
  · (try dsimp only); exact HF4.out _ HK.out
  clear hK K
  (try simp only [Act.put, List.setIfInBounds_toArray, List.set_cons_zero, List.set_cons_succ])
  refine wpAnyH_ready (rs := [11]) (by kernel_rfl) (by simp) ?_
  refine AllReadyH.cons (at_list rfl) (fun K hK => ?_) AllReadyH.nil
  go_simp
  go_at_call 9; with_reducible refine (H19.out _ (HT.out.ch HK.out.ch)).mono ?_; rintro e wq ⟨rfl, hCq⟩; have HK2 := Lib.hid (HK.out.on hCq); clear hCq HK; have HK := HK2; clear HK2
  clear hHeld
  first | (refine hK.out _ _ ?_ (fun hHeld => ?_)) | (go_wp2_with fail; refine hK.out _ _ ?_ (fun hHeld => ?_))
  · (try dsimp only); exact HF4.out _ HK.out
  clear hK K
  (try simp only [Act.put, List.setIfInBounds_toArray, List.set_cons_zero, List.set_cons_succ])
  refine tk 12 (v := ?_) hHeld ?_ ?_
  rotate_left 1
  · intro _ hw; (try dsimp only at hw); go_simp; try with_reducible rfl
  (try simp only [Act.put, List.setIfInBounds_toArray, List.set_cons_zero, List.set_cons_succ])
  refine tk 13 (v := ?_) hHeld ?_ ?_
  rotate_left 1
  · intro _ hw; (try dsimp only at hw); go_simp; try with_reducible rfl
  (try simp only [Act.put, List.setIfInBounds_toArray, List.set_cons_zero, List.set_cons_succ])
  refine tk 14 (v := ?_) hHeld ?_ ?_
  rotate_left 1
  · intro _ hw; (try dsimp only at hw); go_simp; try with_reducible rfl
  (try simp only [Act.put, List.setIfInBounds_toArray, List.set_cons_zero, List.set_cons_succ])
  refine wpAnyH_ready (rs := [15]) (by kernel_rfl) (by simp) ?_
  refine AllReadyH.cons (at_list rfl) (fun K hK => ?_) AllReadyH.nil
  go_simp
  go_at_call 21; with_reducible refine (H15.out _ (HT.out.ch HK.out.ch)).mono ?_; rintro e wq ⟨rfl, hCq⟩; have HK2 := Lib.hid (HK.out.on hCq); clear hCq HK; have HK := HK2; clear HK2
  clear hHeld
  first | (refine hK.out _ _ ?_ (fun hHeld => ?_)) | (go_wp2_with fail; refine hK.out _ _ ?_ (fun hHeld => ?_))
  · (try dsimp only); exact HF4.out _ HK.out
  clear hK K
  (try simp only [Act.put, List.setIfInBounds_toArray, List.set_cons_zero, List.set_cons_succ])
  refine wpAnyH_ready (rs := [16]) (by kernel_rfl) (by simp) ?_
  refine AllReadyH.cons (at_list rfl) (fun K hK => ?_) AllReadyH.nil
  go_simp
  go_at_call 9; with_reducible refine (H20.out _ (HT.out.ch HK.out.ch)).mono ?_; rintro e wq ⟨rfl, hCq⟩; have HK2 := Lib.hid (HK.out.on hCq); clear hCq HK; have HK := HK2; clear HK2
  clear hHeld
  first | (refine hK.out _ _ ?_ (fun hHeld => ?_)) | (go_wp2_with fail; refine hK.out _ _ ?_ (fun hHeld => ?_))
  · (try dsimp only); exact HF4.out _ HK.out
  clear hK K
  (try simp only [Act.put, List.setIfInBounds_toArray, List.set_cons_zero, List.set_cons_succ])
  refine tk 17 (v := ?_) hHeld ?_ ?_
  rotate_left 1
  · intro _ hw; (try dsimp only at hw); go_simp; try with_reducible rfl
  (try simp only [Act.put, List.setIfInBounds_toArray, List.set_cons_zero, List.set_cons_succ])
  refine tk 18 (v := ?_) hHeld ?_ ?_
  rotate_left 1
  · intro _ hw; (try dsimp only at hw); go_simp; try with_reducible rfl
  (try simp only [Act.put, List.setIfInBounds_toArray, List.set_cons_zero, List.set_cons_succ])
  refine tk 19 (v := ?_) hHeld ?_ ?_
  rotate_left 1
  · intro _ hw; (try dsimp only at hw); go_simp; try with_reducible rfl
  (try simp only [Act.put, List.setIfInBounds_toArray, List.set_cons_zero, List.set_cons_succ])
  refine tk 20 (v := ?_) hHeld ?_ ?_
  rotate_left 1
  · intro _ hw; (try dsimp only at hw); go_simp; try with_reducible rfl
  (try simp only [Act.put, List.setIfInBounds_toArray, List.set_cons_zero, List.set_cons_succ])
  refine tk 21 (v := ?_) hHeld ?_ ?_
  rotate_left 1
  · intro _ hw; (try dsimp only at hw); go_simp; try with_reducible rfl
  (try simp only [Act.put, List.setIfInBounds_toArray, List.set_cons_zero, List.set_cons_succ])
  refine tk 24 (v := ?_) hHeld ?_ ?_
  rotate_left 1
  · intro _ hw; (try dsimp only at hw); go_simp; try with_reducible rfl
  (try simp only [Act.put, List.setIfInBounds_toArray, List.set_cons_zero, List.set_cons_succ])
  refine tk 25 (v := ?_) hHeld ?_ ?_
  rotate_left 1
  · intro _ hw; (try dsimp only at hw); go_simp; try with_reducible rfl
  (try simp only [Act.put, List.setIfInBounds_toArray, List.set_cons_zero, List.set_cons_succ])
  refine tk 26 (v := ?_) hHeld ?_ ?_
  rotate_left 1
  · intro _ hw; (try dsimp only at hw); go_simp; try with_reducible rfl
  (try simp only [Act.put, List.setIfInBounds_toArray, List.set_cons_zero, List.set_cons_succ])
  refine wpAnyH_ready (rs := [22, 27]) (by kernel_rfl) (by simp) ?_
  refine AllReadyH.cons (at_list rfl) (fun K hK => ?_) (AllReadyH.cons (at_list rfl) (fun K hK => ?_) (AllReadyH.nil))
  · go_simp
    clear hHeld
    have HK2 := Lib.hid (HK.out.new #[.bool sa, S na, S da, .bool sb, S nb, S db, .bool sa, S na, S da] 24)
    refine hK.out _ _ ?_ (fun hHeld => ?_)
    · (try dsimp only); exact HF4.out _ (HK.out.other _)
    clear hK K HK
    have HK := HK2
    clear HK2
    obtain ⟨Y1, hg⟩ : ∃ g, wq.heap.size = g := ⟨_, rfl⟩
    rw [hg] at HK ⊢
    clear hg
    obtain ⟨V1, hW⟩ : ∃ W, wq.alloc (.cells #[.bool sa, S na, S da, .bool sb, S nb, S db, .bool sa, S na, S da] 24 (0, 0)) = W := ⟨_, rfl⟩
    rw [hW] at HK hHeld ⊢
    clear hW
    (try simp only [Act.put, List.setIfInBounds_toArray, List.set_cons_zero, List.set_cons_succ])
    refine wpAnyH_ready (rs := [23, 27]) (by kernel_rfl) (by simp) ?_
    refine AllReadyH.cons (at_list rfl) (fun K hK => ?_) (AllReadyH.cons (at_list rfl) (fun K hK => ?_) (AllReadyH.nil))
    · go_simp
      go_at_call 25; with_reducible refine (H21.out _ _ (HT.out.ch HK.out.ch) (HK.out.row (Y1, 24, [.bool sa, S na, S da, .bool sb, S nb, S db, .bool sa, S na, S da]) (List.Mem.head _))).mono ?_; rintro e V2 ⟨rfl, hCq⟩; have HK2 := Lib.hid (HK.out.on hCq); clear hCq HK; have HK := HK2; clear HK2
      clear hHeld
      refine hK.out _ _ ?_ (fun hHeld => ?_)
      · (try dsimp only); exact HF4.out _ HK.out.tail
      clear hK K
      (try simp only [Act.put, List.setIfInBounds_toArray, List.set_cons_zero, List.set_cons_succ])
      refine wpAnyH_ready (rs := [27]) (by kernel_rfl) (by simp) ?_
      refine AllReadyH.cons (at_list rfl) (fun K hK => ?_) (AllReadyH.nil)
      go_simp
      clear hHeld
      have HK2 := Lib.hid (HK.out.new #[.bool sa, S na, S da, .bool sb, S nb, S db, .bool sa, S na, S da] 24)
      refine hK.out _ _ ?_ (fun hHeld => ?_)
      · (try dsimp only); exact HF4.out _ (HK.out.other _).tail
      clear hK K HK
      have HK := HK2
      clear HK2
      obtain ⟨Y2, hg⟩ : ∃ g, V2.heap.size = g := ⟨_, rfl⟩
      rw [hg] at HK ⊢
      clear hg
      obtain ⟨V3, hW⟩ : ∃ W, V2.alloc (.cells #[.bool sa, S na, S da, .bool sb, S nb, S db, .bool sa, S na, S da] 24 (0, 0)) = W := ⟨_, rfl⟩
      rw [hW] at HK hHeld ⊢
      clear hW
      (try simp only [Act.put, List.setIfInBounds_toArray, List.set_cons_zero, List.set_cons_succ])
      refine wpAnyH_ready (rs := [28]) (by kernel_rfl) (by simp) ?_
      refine AllReadyH.cons (at_list rfl) (fun K hK => ?_) (AllReadyH.nil)
      go_simp
      go_at_call 26; with_reducible refine (H22.out _ _ (HK.out.row (Y2, 24, [.bool sa, S na, S da, .bool sb, S nb, S db, .bool sa, S na, S da]) (List.Mem.head _))).mono ?_; rintro e V4 ⟨rfl, hCq⟩; have HK2 := Lib.hid (HK.out.on hCq); clear hCq HK; have HK := HK2; clear HK2
      clear hHeld
      refine hK.out _ _ ?_ (fun hHeld => ?_)
      · (try dsimp only); exact HF4.out _ HK.out.tail.tail
      clear hK K
      (try simp only [Act.put, List.setIfInBounds_toArray, List.set_cons_zero, List.set_cons_succ])
      refine tk 29 (v := ?_) hHeld ?_ ?_
      rotate_left 1
      · intro _ hw; (try dsimp only at hw); go_simp; try with_reducible rfl
      (try simp only [Act.put, List.setIfInBounds_toArray, List.set_cons_zero, List.set_cons_succ])
      refine tk 30 (v := ?_) hHeld ?_ ?_
      rotate_left 1
      · intro _ hw; (try dsimp only at hw); go_simp; try with_reducible rfl
      (try simp only [Act.put, List.setIfInBounds_toArray, List.set_cons_zero, List.set_cons_succ])
      refine tk 31 (v := ?_) hHeld ?_ ?_
      rotate_left 1
      · intro _ hw; (try dsimp only at hw); go_simp; try with_reducible rfl
      (try simp only [Act.put, List.setIfInBounds_toArray, List.set_cons_zero, List.set_cons_succ])
      refine wpAnyH_done (by kernel_rfl) ?_ _
      clear hHeld
      go_wp2_with fail
      go_ret
      exact ⟨rfl, HK.out.ch⟩
    · go_simp
      clear hHeld
      have HK2 := Lib.hid (HK.out.new #[.bool sa, S na, S da, .bool sb, S nb, S db, .bool sa, S na, S da] 24)
      refine hK.out _ _ ?_ (fun hHeld => ?_)
      · (try dsimp only); exact HF4.out _ (HK.out.other _).tail
      clear hK K HK
      have HK := HK2
      clear HK2
      obtain ⟨Y2, hg⟩ : ∃ g, V1.heap.size = g := ⟨_, rfl⟩
      rw [hg] at HK ⊢
      clear hg
      obtain ⟨V2, hW⟩ : ∃ W, V1.alloc (.cells #[.bool sa, S na, S da, .bool sb, S nb, S db, .bool sa, S na, S da] 24 (0, 0)) = W := ⟨_, rfl⟩
      rw [hW] at HK hHeld ⊢
      clear hW
      (try simp only [Act.put, List.setIfInBounds_toArray, List.set_cons_zero, List.set_cons_succ])
      refine wpAnyH_ready (rs := [23]) (by kernel_rfl) (by simp) ?_
      refine AllReadyH.cons (at_list rfl) (fun K hK => ?_) (AllReadyH.nil)
      go_simp
      go_at_call 25; with_reducible refine (H21.out _ _ (HT.out.ch HK.out.ch) (HK.out.row (Y1, 24, [.bool sa, S na, S da, .bool sb, S nb, S db, .bool sa, S na, S da]) (List.Mem.tail _ (List.Mem.head _)))).mono ?_; rintro e V3 ⟨rfl, hCq⟩; have HK2 := Lib.hid (HK.out.on hCq); clear hCq HK; have HK := HK2; clear HK2
      clear hHeld
      refine hK.out _ _ ?_ (fun hHeld => ?_)
      · (try dsimp only); exact HF4.out _ HK.out.tail.tail
      clear hK K
      (try simp only [Act.put, List.setIfInBounds_toArray, List.set_cons_zero, List.set_cons_succ])
      refine wpAnyH_ready (rs := [28]) (by kernel_rfl) (by simp) ?_
      refine AllReadyH.cons (at_list rfl) (fun K hK => ?_) (AllReadyH.nil)
      go_simp
      go_at_call 26; with_reducible refine (H22.out _ _ (HK.out.row (Y2, 24, [.bool sa, S na, S da, .bool sb, S nb, S db, .bool sa, S na, S da]) (List.Mem.head _))).mono ?_; rintro e V4 ⟨rfl, hCq⟩; have HK2 := Lib.hid (HK.out.on hCq); clear hCq HK; have HK := HK2; clear HK2
      clear hHeld
      refine hK.out _ _ ?_ (fun hHeld => ?_)
      · (try dsimp only); exact HF4.out _ HK.out.tail.tail
      clear hK K
      (try simp only [Act.put, List.setIfInBounds_toArray, List.set_cons_zero, List.set_cons_succ])
      refine tk 29 (v := ?_) hHeld ?_ ?_
      rotate_left 1
      · intro _ hw; (try dsimp only at hw); go_simp; try with_reducible rfl
      (try simp only [Act.put, List.setIfInBounds_toArray, List.set_cons_zero, List.set_cons_succ])
      refine tk 30 (v := ?_) hHeld ?_ ?_
      rotate_left 1
      · intro _ hw; (try dsimp only at hw); go_simp; try with_reducible rfl
      (try simp only [Act.put, List.setIfInBounds_toArray, List.set_cons_zero, List.set_cons_succ])
      refine tk 31 (v := ?_) hHeld ?_ ?_
      rotate_left 1
      · intro _ hw; (try dsimp only at hw); go_simp; try with_reducible rfl
      (try simp only [Act.put, List.setIfInBounds_toArray, List.set_cons_zero, List.set_cons_succ])
      refine wpAnyH_done (by kernel_rfl) ?_ _
      clear hHeld
      go_wp2_with fail
      go_ret
      exact ⟨rfl, HK.out.ch⟩
  · go_simp
    clear hHeld
    have HK2 := Lib.hid (HK.out.new #[.bool sa, S na, S da, .bool sb, S nb, S db, .bool sa, S na, S da] 24)
    refine hK.out _ _ ?_ (fun hHeld => ?_)
    · (try dsimp only); exact HF4.out _ (HK.out.other _)
    clear hK K HK
    have HK := HK2
    clear HK2
    obtain ⟨Y2, hg⟩ : ∃ g, wq.heap.size = g := ⟨_, rfl⟩
    rw [hg] at HK ⊢
    clear hg
    obtain ⟨V1, hW⟩ : ∃ W, wq.alloc (.cells #[.bool sa, S na, S da, .bool sb, S nb, S db, .bool sa, S na, S da] 24 (0, 0)) = W := ⟨_, rfl⟩
    rw [hW] at HK hHeld ⊢
    clear hW
    (try simp only [Act.put, List.setIfInBounds_toArray, List.set_cons_zero, List.set_cons_succ])
    refine wpAnyH_ready (rs := [22]) (by kernel_rfl) (by simp) ?_
    refine AllReadyH.cons (at_list rfl) (fun K hK => ?_) (AllReadyH.nil)
    go_simp
    clear hHeld
    have HK2 := Lib.hid (HK.out.new #[.bool sa, S na, S da, .bool sb, S nb, S db, .bool sa, S na, S da] 24)
    refine hK.out _ _ ?_ (fun hHeld => ?_)
    · (try dsimp only); exact HF4.out _ (HK.out.other _).tail
    clear hK K HK
    have HK := HK2
    clear HK2
    obtain ⟨Y1, hg⟩ : ∃ g, V1.heap.size = g := ⟨_, rfl⟩
    rw [hg] at HK ⊢
    clear hg
    obtain ⟨V2, hW⟩ : ∃ W, V1.alloc (.cells #[.bool sa, S na, S da, .bool sb, S nb, S db, .bool sa, S na, S da] 24 (0, 0)) = W := ⟨_, rfl⟩
    rw [hW] at HK hHeld ⊢
    clear hW
    (try simp only [Act.put, List.setIfInBounds_toArray, List.set_cons_zero, List.set_cons_succ])
    refine wpAnyH_ready (rs := [23]) (by kernel_rfl) (by simp) ?_
    refine AllReadyH.cons (at_list rfl) (fun K hK => ?_) (AllReadyH.nil)
    go_simp
    go_at_call 25; with_reducible refine (H21.out _ _ (HT.out.ch HK.out.ch) (HK.out.row (Y1, 24, [.bool sa, S na, S da, .bool sb, S nb, S db, .bool sa, S na, S da]) (List.Mem.head _))).mono ?_; rintro e V3 ⟨rfl, hCq⟩; have HK2 := Lib.hid (HK.out.on hCq); clear hCq HK; have HK := HK2; clear HK2
    clear hHeld
    refine hK.out _ _ ?_ (fun hHeld => ?_)
    · (try dsimp only); exact HF4.out _ HK.out.tail.tail
    clear hK K
    (try simp only [Act.put, List.setIfInBounds_toArray, List.set_cons_zero, List.set_cons_succ])
    refine wpAnyH_ready (rs := [28]) (by kernel_rfl) (by simp) ?_
    refine AllReadyH.cons (at_list rfl) (fun K hK => ?_) (AllReadyH.nil)
    go_simp
    go_at_call 26; with_reducible refine (H22.out _ _ (HK.out.row (Y2, 24, [.bool sa, S na, S da, .bool sb, S nb, S db, .bool sa, S na, S da]) (List.Mem.tail _ (List.Mem.head _)))).mono ?_; rintro e V4 ⟨rfl, hCq⟩; have HK2 := Lib.hid (HK.out.on hCq); clear hCq HK; have HK := HK2; clear HK2
    clear hHeld
    refine hK.out _ _ ?_ (fun hHeld => ?_)
    · (try dsimp only); exact HF4.out _ HK.out.tail.tail
    clear hK K
    (try simp only [Act.put, List.setIfInBounds_toArray, List.set_cons_zero, List.set_cons_succ])
    refine tk 29 (v := ?_) hHeld ?_ ?_
    rotate_left 1
    · intro _ hw; (try dsimp only at hw); go_simp; try with_reducible rfl
    (try simp only [Act.put, List.setIfInBounds_toArray, List.set_cons_zero, List.set_cons_succ])
    refine tk 30 (v := ?_) hHeld ?_ ?_
    rotate_left 1
    · intro _ hw; (try dsimp only at hw); go_simp; try with_reducible rfl
    (try simp only [Act.put, List.setIfInBounds_toArray, List.set_cons_zero, List.set_cons_succ])
    refine tk 31 (v := ?_) hHeld ?_ ?_
    rotate_left 1
    · intro _ hw; (try dsimp only at hw); go_simp; try with_reducible rfl
    (try simp only [Act.put, List.setIfInBounds_toArray, List.set_cons_zero, List.set_cons_succ])
    refine wpAnyH_done (by kernel_rfl) ?_ _
    clear hHeld
    go_wp2_with fail
    go_ret
    exact ⟨rfl, HK.out.ch⟩
theorem raw_core (sa : Bool) (ma ea : List UInt8) (sb : Bool) (mb eb : List UInt8) (w : World) (_ : ma.length ≤ 9223372036854775807) (_ : ea.length ≤ 9223372036854775807) (_ : mb.length ≤ 9223372036854775807) (_ : eb.length ≤ 9223372036854775807) (ht : Tb w) :
    Calls Tryz.prog 3 #[Rv sa ma ea, Rv sb mb eb] w (Yld w (.bool true)) := by
  have la1 : (ma.take 20).length ≤ 20 := by rw [List.length_take]; omega
  have la2 : (ea.take 20).length ≤ 20 := by rw [List.length_take]; omega
  have lb1 : (mb.take 20).length ≤ 20 := by rw [List.length_take]; omega
  have lb2 : (eb.take 20).length ≤ 20 := by rw [List.length_take]; omega
  obtain ⟨na, ha⟩ : ∃ l, ma.take 20 = l := ⟨_, rfl⟩
  obtain ⟨da, hda⟩ : ∃ l, ea.take 20 = l := ⟨_, rfl⟩
  obtain ⟨nb, hnb⟩ : ∃ l, mb.take 20 = l := ⟨_, rfl⟩
  obtain ⟨db, hdb⟩ : ∃ l, eb.take 20 = l := ⟨_, rfl⟩
  rw [ha] at la1
  rw [hda] at la2
  rw [hnb] at lb1
  rw [hdb] at lb2
  obtain ⟨qa, ra⟩ : ∃ q, ratOf sa na da = q := ⟨_, rfl⟩
  obtain ⟨qb, rb⟩ : ∃ q, ratOf sb nb db = q := ⟨_, rfl⟩
  have za : Szq qa 20 := by rw [← ra]; exact Szq.of_len la1 la2 (by omega)
  have zb : Szq qb 20 := by rw [← rb]; exact Szq.of_len lb1 lb2 (by omega)
  obtain ⟨sq, nq, dq, ok, hk1, hk2⟩ := C_quo_both (s := sa) (n := na) (d := da) (t := sb) (m := nb) (e := db) (by omega) (by omega) (by omega) (by omega) ra rb
  obtain ⟨k1, hs1⟩ : ∃ k, sgr (qa - qb) = k := ⟨_, rfl⟩
  obtain ⟨k2, hs2⟩ : ∃ k, sgr qa = k := ⟨_, rfl⟩
  obtain ⟨tx, htx⟩ : ∃ l, rtx (pt qa) = l := ⟨_, rfl⟩
  obtain ⟨rr, hrr⟩ : ∃ r, rightR sa na da = r := ⟨_, rfl⟩
  have ic := pt_is (qa + qb)
  obtain ⟨⟨sc, nc, dc⟩, hpc⟩ : ∃ t, pt (qa + qb) = t := ⟨_, rfl⟩
  rw [hpc] at ic
  simp only at ic
  have ie := pt_is (qa - qb)
  obtain ⟨⟨se, ne, de⟩, hpe⟩ : ∃ t, pt (qa - qb) = t := ⟨_, rfl⟩
  rw [hpe] at ie
  simp only at ie
  have if_ := pt_is (qa * qb)
  obtain ⟨⟨sf, nf, df⟩, hpf⟩ : ∃ t, pt (qa * qb) = t := ⟨_, rfl⟩
  rw [hpf] at if_
  simp only at if_
  have ig := pt_is (-qa)
  obtain ⟨⟨sg, ng, dg⟩, hpg⟩ : ∃ t, pt (-qa) = t := ⟨_, rfl⟩
  rw [hpg] at ig
  simp only at ig
  have lc := (za.add zb).len ic
  have lg := za.neg.len ig
  have h1 := pt_is (0 + qa)
  have h2 := pt_is (0 + qa + qb)
  have h3 := pt_is (0 + qa + qb + qa)
  have z0 : Szq (0 + qa) 20 := by rw [Rat.zero_add]; exact za
  have l1 := z0.len h1
  have l2 := (z0.add zb).len h2
  have r0 : ratOf false [] [1] = 0 := by decide +kernel
  have hsum : rsum [qa, qb, qa] = 0 + qa + qb + qa := by
    show qa + (qb + (qa + 0)) = 0 + qa + qb + qa
    rw [Rat.add_zero, Rat.zero_add, Rat.add_assoc]
  have hS : ∀ W G, Tb W → Blk W G 24 [.bool sa, S na, S da, .bool sb, S nb, S db, .bool sa, S na, S da] → Calls Tryz.prog 25 #[.slice (some ⟨G, 0, none⟩) 3 3] W (Yld W (Tv (pt (0 + qa + qb + qa)))) := fun W G hT hB => by
    have h := C_Sum 20 W (some ⟨G, 0, none⟩) 3 3 [(sa, na, da), (sb, nb, db), (sa, na, da)] (Rs.blk hB rfl) hT (by omega) (by omega) (by omega) (by omega) (by
      intro t ht
      simp only [List.mem_cons, List.not_mem_nil, or_false] at ht
      rcases ht with rfl | rfl | rfl
      · exact ⟨la1, la2⟩
      · exact ⟨lb1, lb2⟩
      · exact ⟨la1, la2⟩)
    have e : ([(sa, na, da), (sb, nb, db), (sa, na, da)] : List T3).map rof = [qa, qb, qa] := by
      show [ratOf sa na da, ratOf sb nb db, ratOf sa na da] = _
      rw [ra, rb]
    rw [e, hsum] at h
    exact h
  have hU : ∀ W G, Blk W G 24 [.bool sa, S na, S da, .bool sb, S nb, S db, .bool sa, S na, S da] → Calls Tryz.prog 26 #[.slice (some ⟨G, 0, none⟩) 3 3] W (Yld W (Tv (pt (0 + qa + qb + qa)))) := fun W G hB =>
    rSum3 hB (C_rOf 0 (by decide) (by decide) nb_zero) (C_rAdd (by decide) (by decide) (by omega) (by omega) r0 ra h1) (C_rAdd (by omega) (by omega) (by omega) (by omega) (rof_pt (0 + qa)) rb h2) (C_rAdd (by omega) (by omega) (by omega) (by omega) (rof_pt (0 + qa + qb)) ra h3)
  exact raw_walk w ht ha hda hnb hdb sanity_true hk1 hk2 (C_Right (by omega) (by omega) hrr) (C_rRight (by omega) (by omega) hrr)
    (C_Add (by omega) (by omega) (by omega) (by omega) ra rb ic) (C_rAdd (by omega) (by omega) (by omega) (by omega) ra rb ic)
    (C_Sub (by omega) (by omega) (by omega) (by omega) ra rb ie) (C_rSub (by omega) (by omega) (by omega) (by omega) ra rb ie)
    (C_Mul (by omega) (by omega) (by omega) (by omega) ra rb if_) (C_rMul (by omega) (by omega) (by omega) (by omega) ra rb if_)
    (C_Cmp (by omega) (by omega) (by omega) (by omega) ra rb hs1) (C_rCmp (by omega) (by omega) (by omega) (by omega) ra rb hs1)
    (C_Sign (by omega) (by omega) ra hs2) (C_rSign (by omega) (by omega) ra hs2)
    (C_Neg (by omega) (by omega) ra ig) (C_rNeg (by omega) (by omega) ra ig) (C_Text (by omega) (by omega) ra htx) (C_rText (by omega) (by omega) ra htx)
    (C_Right (by omega) (by omega) (rightR_of ic)) (C_Right (by omega) (by omega) (rightR_of ig)) hS hU
end Go.Proofs.YtggphkpnjnpbaaaGreatDoor
