/- Package money: what divided does, in bytes: quotas and rests; blocks that its loops keep. -/
import Derived.Test.YtkeomlpecjjhiaaGreatDoorAo
import Derived.Test.YtkeomlpecjjhiaaGreatDoorAk
namespace Go.Proofs.YtkeomlpecjjhiaaGreatDoor
open Go.RowKit Go.Shelf
def nvs (l : List Nat) : List Value := l.map fun x => S (nb x)
theorem nvs_len (l : List Nat) : (nvs l).length = l.length := by unfold nvs; rw [List.length_map]
theorem nvs_bytes (l : List Nat) : nvs l = (l.map nb).map S := by unfold nvs; rw [List.map_map]; rfl
theorem ko_ch {W W' : World} (h : Ch W.heap.size none1 W W') : KeepsOthers W W' := ⟨h.size, fun k _ hk _ => (h.block k (Array.getElem?_eq_some_iff.1 hk).1 (fun q => q)).trans hk⟩
theorem blk_put {W : World} {g k : Nat} {t : TypeId} {cs : List Value} {o o' : Obj} (h : Blk W g t cs) (hk : W.heap[k]? = some o) (ho : o.isCells = false) : Blk (W.putObj k o') g t cs := by
 unfold Blk at h ⊢
 rw [World.putObj_heap_other (fun e => by subst e; rw [h] at hk; rw [← Option.some.inj hk] at ho; exact Bool.noConfusion ho)]
 exact h
structure DI (w : World) (G n : Nat) (P : Nat → List Nat) (n1 s : Nat) (W : World) : Prop where
 pb : Blk W G 24 (nvs (P s))
 bx : Blk W (G + 1) 66 [.slice (some ⟨G, 0, none⟩) n n]
 ch : Ch G none1 w W
 sz : n1 ≤ W.heap.size
theorem DI.own {w A B : World} {G n n0 n1 s : Nat} {P : Nat → List Nat} (h : DI w G n P n1 s A) (ho : OwI n0 n1 A B) (hn : G + 1 < n0) : DI w G n P n1 s B := by
 have e0 := h.pb.lt
 have e1 := h.bx.lt
 refine ⟨?_, ?_, ?_, Nat.le_trans h.sz ho.2.1⟩
 ·unfold Blk; rw [ho.2.2 _ e0 (.inl (by omega))]; exact h.pb
 ·unfold Blk; rw [ho.2.2 _ e1 (.inl (by omega))]; exact h.bx
 ·exact h.ch.trans ⟨ho.1.1, ho.1.2.1, ho.1.2.2, ho.2.1, fun k hk _ => ho.2.2 k (by omega) (.inl (by omega))⟩
theorem DI.put {w W : World} {G n n1 s : Nat} {P : Nat → List Nat} (h : DI w G n P n1 s W) {k : Nat} {o : Obj} (o' : Obj) (hk : W.heap[k]? = some o) (ho : o.isCells = false) (hG : G ≤ k) : DI w G n P n1 s (W.putObj k o') :=
 ⟨blk_put h.pb hk ho, blk_put h.bx hk ho, h.ch.trans ⟨rfl, rfl, rfl, by simp, fun j hj _ => World.putObj_heap_other (by omega)⟩, by simp; exact h.sz⟩
structure D2 (w wr : World) (G n : Nat) (P R : List Value) (k : Nat) : Prop where
 p : Fk w wr none1 G n P k
 r : Fk w wr none1 (G + 1 + 1) n R k
 bx : Blk wr (G + 1) 66 [.slice (some ⟨G, 0, none⟩) n n]
theorem D2.on {w wr W : World} {G n k : Nat} {P R : List Value} (h : D2 w wr G n P R k) (hC : Ch wr.heap.size none1 wr W) : D2 w W G n P R k :=
 ⟨h.p.on hC (fun q => q) (fun _ _ q => q.elim), h.r.on hC (fun q => q) (fun _ _ q => q.elim), hC.blk h.bx h.bx.lt (fun q => q)⟩
theorem D2.drew {w wr : World} {G n k : Nat} {P R : List Value} (h : D2 w wr G n P R k) : D2 w wr.drew G n P R k := h.on (Ch.refl _ _ _).drew
theorem D2.put {w wr : World} {G n k : Nat} {P R : List Value} (h : D2 w wr G n P R k) (hk : k < n) {v u : Value} (hv : P[k]? = some v) (hu : R[k]? = some u) : D2 w ((wr.setCell ⟨G, k, none⟩ v).setCell ⟨G + 1 + 1, k, none⟩ u) G n P R (k + 1) := by
 have h1 := h.p.put hk hv
 have c1 : Ch wr.heap.size (· = G) wr (wr.setCell ⟨G, k, none⟩ v) := (Ch.refl wr.heap.size (· = G) wr).setCell (p := ⟨G, k, none⟩) (.inr rfl) v
 have g1 := h.p.ge
 have h2 := h.r.on c1 (by omega) (fun j hj q => by have : j = G := q; omega)
 have h3 := h2.put hk hu
 have c2 : Ch (wr.setCell ⟨G, k, none⟩ v).heap.size (· = G + 1 + 1) (wr.setCell ⟨G, k, none⟩ v) ((wr.setCell ⟨G, k, none⟩ v).setCell ⟨G + 1 + 1, k, none⟩ u) := (Ch.refl _ (· = G + 1 + 1) (wr.setCell ⟨G, k, none⟩ v)).setCell (p := ⟨G + 1 + 1, k, none⟩) (.inr rfl) u
 refine ⟨h1.on c2 (by omega) (fun j hj q => by have : j = G + 1 + 1 := q; omega), h3, ?_⟩
 exact (h.bx.set_other (g' := G) (by omega) k v).set_other (g' := G + 1 + 1) (by omega) k u
theorem D2.start {w : World} {G : Nat} (hG : w.heap.size = G) (n : Nat) (P R : List Value) :
  D2 w (((w.alloc (.cells (madeCells #[S []] n) 24 (0, 0))).alloc (.cells #[.slice (some ⟨G, 0, none⟩) n n] 66 (0, 0))).alloc (.cells (madeCells #[S []] n) 24 (0, 0))) G n P R 0 := by
 have hp := ((Fk.start (R := none1) hG n P).alloc (.cells #[.slice (some ⟨G, 0, none⟩) n n] 66 (0, 0))).alloc (.cells (madeCells #[S []] n) 24 (0, 0))
 have hs : ((w.alloc (.cells (madeCells #[S []] n) 24 (0, 0))).alloc (.cells #[.slice (some ⟨G, 0, none⟩) n n] 66 (0, 0))).heap.size = G + 1 + 1 := by rw [World.size_alloc, World.size_alloc, hG]
 have hr := Fk.start (R := none1) hs n R
 refine ⟨hp, ⟨hr.blk, hp.ch, by omega⟩, ?_⟩
 have hb := (Blk.new (w.alloc (.cells (madeCells #[S []] n) 24 (0, 0))) #[.slice (some ⟨G, 0, none⟩) n n] 66).alloc (.cells (madeCells #[S []] n) 24 (0, 0))
 rw [World.size_alloc, hG] at hb
 exact hb
def qvs (c s : Nat) (L : List (List UInt8)) : List Value := nvs (qus c s (L.map bv))
def rvb (c s : Nat) (L : List (List UInt8)) : List (List UInt8) := (rss c s (L.map bv)).map nb
theorem qvs_at {c s : Nat} {L : List (List UInt8)} {k : Nat} {x : List UInt8} (h : L[k]? = some x) : (qvs c s L)[k]? = some (S (nb (c * bv x / s))) := by
 unfold qvs nvs qus
 rw [List.getElem?_map, List.getElem?_map, List.getElem?_map, h]
 rfl
theorem rvb_at {c s : Nat} {L : List (List UInt8)} {k : Nat} {x : List UInt8} (h : L[k]? = some x) : ((rvb c s L).map S)[k]? = some (S (nb (c * bv x % s))) := by
 unfold rvb rss
 rw [List.getElem?_map, List.getElem?_map, List.getElem?_map, List.getElem?_map, h]
 rfl
theorem qvs_len (c s : Nat) (L : List (List UInt8)) : (qvs c s L).length = L.length := by unfold qvs qus; rw [nvs_len, List.length_map, List.length_map]
theorem rvb_len (c s : Nat) (L : List (List UInt8)) : (rvb c s L).length = L.length := by unfold rvb rss; rw [List.length_map, List.length_map, List.length_map]
theorem rvb_rest (c s : Nat) (L : List (List UInt8)) : restOf (rvb c s L) = fun i => (rss c s (L.map bv)).getD i 0 := by
 funext i
 unfold restOf rvb
 rw [List.getD_eq_getElem?_getD, List.getD_eq_getElem?_getD, List.getElem?_map]
 cases (rss c s (L.map bv))[i]? with
 | none => rfl
 | some x => show bv (nb x) = x; exact bv_nb x
theorem map_bv_nb (l : List Nat) : (l.map nb).map bv = l := by
 rw [List.map_map]
 conv => rhs; rw [← List.map_id l]
 exact List.map_congr_left fun x _ => bv_nb x
theorem bsum_nb (l : List Nat) : bsum (l.map nb) = l.sum := by unfold bsum; rw [map_bv_nb]
theorem qvs_bytes (c s : Nat) (L : List (List UInt8)) : qvs c s L = ((qus c s (L.map bv)).map nb).map S := nvs_bytes _
def partsAt (c : Nat) (X : List Nat) (j : Nat) : List Nat := served (qus c X.sum X) ((srv (fun i => (rss c X.sum X).getD i 0) X.length).take j)
theorem partsAt_zero (c : Nat) (X : List Nat) : partsAt c X 0 = qus c X.sum X := rfl
theorem partsAt_end (c : Nat) (X : List Nat) : partsAt c X (c - (qus c X.sum X).sum) = partsOf c X := rfl
theorem partsAt_len (c : Nat) (X : List Nat) (j : Nat) : (partsAt c X j).length = X.length := by unfold partsAt qus; rw [served_len, List.length_map]
theorem served_append (P : List Nat) (l m : List Nat) : served P (l ++ m) = served (served P l) m := by unfold served; exact List.foldl_append
theorem partsAt_succ (c : Nat) (X : List Nat) {j i : Nat} (h : (srv (fun i => (rss c X.sum X).getD i 0) X.length)[j]? = some i) : partsAt c X (j + 1) = up1 (partsAt c X j) i := by
 unfold partsAt
 rw [List.take_add_one, h]
 show served _ (_ ++ [i]) = _
 rw [served_append]
 rfl
theorem nvs_up (P : List Nat) {i x : Nat} (h : P[i]? = some x) : (nvs P).set i (S (nb (x + 1))) = nvs (up1 P i) := by
 unfold nvs up1
 rw [List.map_set, List.getD_eq_getElem?_getD, h]
 rfl
theorem le_sum_mem {x : Nat} : ∀ {l : List Nat}, x ∈ l → x ≤ l.sum
 | a :: l, h => by
  rw [List.sum_cons]
  rcases List.mem_cons.1 h with rfl | h
  ·omega
  ·have := le_sum_mem h
   omega
theorem partsAt_le (c : Nat) (X : List Nat) (hs : 0 < X.sum) (j : Nat) (hj : j ≤ c - (qus c X.sum X).sum) : ∀ x ∈ partsAt c X j, x ≤ c := by
 intro x hx
 have h1 := left_le c X hs
 have h2 : (partsAt c X j).sum = (qus c X.sum X).sum + ((srv (fun i => (rss c X.sum X).getD i 0) X.length).take j).length := by
  unfold partsAt
  exact served_sum _ _ (fun i hi => by
   have := (srv_mem _ _ i).1 (List.mem_of_mem_take hi)
   unfold qus
   rw [List.length_map]
   exact this)
 rw [List.length_take] at h2
 have h3 : x ≤ (partsAt c X j).sum := le_sum_mem hx
 omega
end Go.Proofs.YtkeomlpecjjhiaaGreatDoor
