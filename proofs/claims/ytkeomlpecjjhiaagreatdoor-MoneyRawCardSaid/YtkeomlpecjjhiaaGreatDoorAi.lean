/- Package money: the places, sorted. -/
import Derived.Test.YtkeomlpecjjhiaaGreatDoorAe
import Derived.BigQuiet
import Derived.Deep.QuietTactic
namespace Go.Proofs.YtkeomlpecjjhiaaGreatDoor
open Go.RowKit Go.Shelf Go.Lib Go.Sort
set_option maxRecDepth 100000
set_option maxHeartbeats 3200000 in
theorem stableCmp_any {α : Type} [Inhabited α] (enc : α → Value) (hO : OneCell enc) (cf : α → α → Int) (g : Nat) (cb : Array Value) (blk off cap : Nat) (d : Array α) (w : World) (eg : ∀ args w, (callFunc g args).run Tryz.prog w = .ok (.enter g args) w) (hcmp : CmpReads Tryz.prog g cb enc cf blk off d.size w) (hH : Holds enc w blk off d) (hn : d.size ≤ 19) :
  Calls Tryz.prog 182 #[.slice (some ⟨blk, off, none⟩) d.size cap, .int .i64 (d.size : Int), .func (.func g) #[] cb] w fun e w' => e = .returned (.tuple #[]) ∧ ∃ n, w' = (putRow enc w blk off (Sort.insertionSort (ltOf cf) d 0 d.size)).drewN n := by
 have H1 := Lib.hid (Tryz.insertionSortCmpFunc_one enc hO cf g cb blk off cap 0 d.size d w eg hcmp hH (Nat.zero_le _) (Nat.le_refl _) (by omega))
 obtain ⟨R, hR⟩ : ∃ R, putRow enc w blk off (Sort.insertionSort (ltOf cf) d 0 d.size) = R := ⟨_, rfl⟩
 rw [hR] at H1 ⊢
 clear hR hcmp hH
 obtain ⟨n, hsz⟩ : ∃ n, d.size = n := ⟨_, rfl⟩
 rw [hsz] at H1 hn ⊢
 clear hsz
 go_enter Tryz.func182, Tryz.ntmps182
 go_wp2_with fail
 go_loopw [7, 8] (fun a b wr => a = .int .i64 0 ∧ b = .int .i64 20 ∧ wr = w) (fun _ _ _ => 0)
 case atStart => exact ⟨rfl, rfl, rfl⟩
 case round =>
  obtain ⟨rfl, rfl, hw⟩ := hrel
  subst hw
  go_wp2_with fail
  refine H1.out.mono ?_
  rintro e w1 ⟨rfl, q, hq⟩
  have HQ := Lib.hid hq
  clear hq
  go_wp2_with fail
  go_loopw [6] (fun b wr => b = .int .i64 20 ∧ wr = w1) (fun _ _ => 0)
  case atStart => exact ⟨rfl, rfl⟩
  case round =>
   obtain ⟨rfl, hw⟩ := hrel
   subst hw
   go_wp2_with fail
   go_end0
   exact ⟨rfl, q, HQ.out⟩
def restOf (L : List (List UInt8)) (i : Nat) : Nat := bv (L.getD i [])
def cmpG (L : List (List UInt8)) (i j : Nat) : Int := cmpN (restOf L j) (restOf L i)
set_option maxHeartbeats 3200000 in
theorem cmpG_any (L : List (List UInt8)) (p : Option Addr) (n c B i j : Nat) (w : World) (hB : w.cell? ⟨B, 0, none⟩ = some (.slice p n c)) (hv : Vs w p n (L.map S)) (hi : i < n) (hj : j < n) (hn : n ≤ 200) (hsz : ∀ x ∈ L, x.length ≤ 900) :
  Calls Tryz.prog 149 #[.int .i64 (i : Int), .int .i64 (j : Int), .pointer (some ⟨B, 0, none⟩)] w fun e w' => e = .returned (.int .i64 (cmpG L i j)) ∧ ∃ q, w' = w.drewN q := by
 have hlen : L.length = n := by rw [← hv.len, List.length_map]
 obtain ⟨g, o, rfl⟩ := hv.addr (by omega)
 obtain ⟨x, hx⟩ : ∃ x, L[i]? = some x := ⟨L[i]'(by omega), List.getElem?_eq_getElem _⟩
 obtain ⟨y, hy⟩ : ∃ y, L[j]? = some y := ⟨L[j]'(by omega), List.getElem?_eq_getElem _⟩
 have c1 := hv.get (i := i) (t := S x) (by rw [List.getElem?_map, hx]; rfl)
 have c2 := hv.get (i := j) (t := S y) (by rw [List.getElem?_map, hy]; rfl)
 have lx := hsz x (List.mem_of_getElem? hx)
 have ly := hsz y (List.mem_of_getElem? hy)
 obtain ⟨k, hk⟩ : ∃ k, cmpG L i j = k := ⟨_, rfl⟩
 have hk2 : cmpN (bv y) (bv x) = k := by
  rw [← hk]
  unfold cmpG restOf
  rw [List.getD_eq_getElem?_getD, List.getD_eq_getElem?_getD, hx, hy]
  rfl
 rw [hk]
 have H1 := Lib.hid (fun W : World => (cmp_any y x W (max_k (by omega)) (max_k (by omega))).mono (fun e w' h => (⟨by rw [h.1, hk2], 0, h.2⟩ : e = .returned (.int .i64 k) ∧ ∃ q, w' = W.drewN q)))
 have hb1 : 0 ≤ (i : Int) ∧ (i : Int) < (n : Int) := by omega
 have hb2 : 0 ≤ (j : Int) ∧ (j : Int) < (n : Int) := by omega
 clear hv hsz hx hy lx ly hk hk2 hlen
 go_enter Tryz.func149, Tryz.ntmps149
 go_wp2_with fail
 go_quiet ((go_at_call 141; exact Calls.quiet_of (H1.out _)))
 go_wp2_with fail
 go_ret
 exact ⟨rfl, nq, rfl⟩
set_option maxHeartbeats 3200000 in
theorem stable_any {α : Type} [Inhabited α] (enc : α → Value) (hO : OneCell enc) (cf : α → α → Int) (g : Nat) (cb : Array Value) (blk off cap : Nat) (d : Array α) (w : World) (eg : ∀ args w, (callFunc g args).run Tryz.prog w = .ok (.enter g args) w) (hcmp : CmpReads Tryz.prog g cb enc cf blk off d.size w) (hH : Holds enc w blk off d) (hn : d.size ≤ 19) :
  Calls Tryz.prog 148 #[.slice (some ⟨blk, off, none⟩) d.size cap, .func (.func g) #[] cb] w fun e w' => e = .returned (.tuple #[]) ∧ ∃ n, w' = (putRow enc w blk off (Sort.insertionSort (ltOf cf) d 0 d.size)).drewN n := by
 have H1 := Lib.hid (stableCmp_any enc hO cf g cb blk off cap d w eg hcmp hH hn)
 obtain ⟨R, hR⟩ : ∃ R, putRow enc w blk off (Sort.insertionSort (ltOf cf) d 0 d.size) = R := ⟨_, rfl⟩
 rw [hR] at H1 ⊢
 clear hR hcmp hH
 obtain ⟨n, hsz⟩ : ∃ n, d.size = n := ⟨_, rfl⟩
 rw [hsz] at H1 hn ⊢
 clear hsz
 go_enter Tryz.func148, Tryz.ntmps148
 go_wp2_with fail
 refine H1.out.mono ?_
 rintro e w1 ⟨rfl, q, hq⟩
 have HQ := Lib.hid hq
 clear hq
 go_wp2_with fail
 go_end0
 exact ⟨rfl, q, HQ.out⟩
open Go.Sort
section
variable {α : Type} [Inhabited α]
theorem insInner_perm (lt : α → α → Bool) (a b : Nat) : ∀ (j : Nat) (d : Array α), a ≤ j → j < b → b ≤ d.size → PermIn a b d (insInner lt a j d)
 | 0, d, _, _, _ => by unfold insInner; exact permIn_refl d a b
 | j + 1, d, haj, hjb, hb => by
  unfold insInner
  split
  ·rename_i hc
   simp only [Bool.and_eq_true, decide_eq_true_eq] at hc
   exact permIn_trans _ _ _ a b (swp_permIn d a b (j + 1) j haj hjb (by omega) (by omega) hb) (insInner_perm lt a b j (swp d (j + 1) j) (by omega) (by omega) (by rw [swp_size]; exact hb))
  ·exact permIn_refl d a b
theorem insInner_cong (lt lt' : α → α → Bool) (a : Nat) : ∀ (j : Nat) (d : Array α), j < d.size → (∀ k, k < j → lt d[j]! d[k]! = lt' d[j]! d[k]!) → insInner lt a j d = insInner lt' a j d
 | 0, d, _, _ => by unfold insInner; rfl
 | j + 1, d, hj, h => by
  unfold insInner
  rw [h j (by omega)]
  have hs : (swp d (j + 1) j)[j]! = d[j + 1]! := by
   unfold swp
   rw [getElem!_pos _ _ (by simp; omega), Array.getElem_setIfInBounds (by simp; omega)]
   simp
  have ho : ∀ k, k < j → (swp d (j + 1) j)[k]! = d[k]! := by
   intro k hk
   unfold swp
   rw [getElem!_pos _ _ (by simp; omega), Array.getElem_setIfInBounds (by simp; omega), if_neg (by omega), Array.getElem_setIfInBounds (by omega), if_neg (by omega), getElem!_pos d k (by omega)]
  rw [insInner_cong lt lt' a j (swp d (j + 1) j) (by rw [swp_size]; omega) (fun k hk => by rw [hs, ho k hk]; exact h k (by omega))]
theorem insOuter_cong (lt lt' : α → α → Bool) (d0 : Array α) (b : Nat) (hb : b ≤ d0.size) (h : ∀ i k, k < i → i < b → lt d0[i]! d0[k]! = lt' d0[i]! d0[k]!) :
  ∀ (n i : Nat) (d : Array α), b - i = n → PermIn 0 i d0 d → insOuter lt 0 b i d = insOuter lt' 0 b i d
 | 0, i, d, hn, _ => by rw [insOuter, if_neg (by omega), insOuter, if_neg (by omega)]
 | n + 1, i, d, hn, hp => by
  have hi : i < b := by omega
  have hin : insInner lt 0 i d = insInner lt' 0 i d := by
   refine insInner_cong lt lt' 0 i d (by rw [hp.1]; omega) fun k hk => ?_
   rw [hp.2.1 i (.inr (Nat.le_refl _))]
   exact permIn_all d0 d 0 i (fun x => lt d0[i]! x = lt' d0[i]! x) (by omega) hp (fun k _ hk => h i k hk hi) k (Nat.zero_le _) hk
  conv => lhs; rw [insOuter, if_pos hi]
  conv => rhs; rw [insOuter, if_pos hi]
  rw [hin]
  refine insOuter_cong lt lt' d0 b hb h n (i + 1) _ (by omega) ?_
  exact permIn_trans _ _ _ 0 (i + 1) (permIn_mono d0 d 0 i 0 (i + 1) (Nat.le_refl _) (by omega) (by omega) hp) (insInner_perm lt' 0 (i + 1) i d (Nat.zero_le _) (by omega) (by rw [hp.1]; omega))
theorem insertionSort_cong (lt lt' : α → α → Bool) (d : Array α) (h : ∀ i k, k < i → i < d.size → lt d[i]! d[k]! = lt' d[i]! d[k]!) : Sort.insertionSort lt d 0 d.size = Sort.insertionSort lt' d 0 d.size := by
 unfold Sort.insertionSort
 by_cases h0 : d.size = 0
 ·rw [insOuter, if_neg (by omega), insOuter, if_neg (by omega)]
 ·exact insOuter_cong lt lt' d d.size (Nat.le_refl _) h (d.size - 1) 1 d rfl (permIn_refl d 0 1)
end
def ltp (f : Nat → Nat) (x y : Nat) : Bool := decide (f y < f x ∨ (f x = f y ∧ x < y))
def srv (f : Nat → Nat) (n : Nat) : List Nat := (List.range n).mergeSort (fun x y => !ltp f y x)
theorem ltp_iff (f : Nat → Nat) (x y : Nat) : ltp f x y = true ↔ f y < f x ∨ (f x = f y ∧ x < y) := by unfold ltp; rw [decide_eq_true_eq]
theorem ltp_not (f : Nat → Nat) (x y : Nat) : ltp f x y = false ↔ ¬ (f y < f x ∨ (f x = f y ∧ x < y)) := by unfold ltp; rw [decide_eq_false_iff_not]
theorem srv_perm (f : Nat → Nat) (n : Nat) : (srv f n).Perm (List.range n) := List.mergeSort_perm _ _
theorem srv_len (f : Nat → Nat) (n : Nat) : (srv f n).length = n := by rw [(srv_perm f n).length_eq, List.length_range]
theorem srv_mem (f : Nat → Nat) (n i : Nat) : i ∈ srv f n ↔ i < n := by rw [(srv_perm f n).mem_iff, List.mem_range]
theorem srv_nodup (f : Nat → Nat) (n : Nat) : (srv f n).Nodup := (srv_perm f n).nodup_iff.2 List.nodup_range
theorem srv_sorted (f : Nat → Nat) (n : Nat) : (srv f n).Pairwise (fun x y => ltp f x y = true) := by
 have h1 : (srv f n).Pairwise (fun x y => (!ltp f y x) = true) := by
  refine List.pairwise_mergeSort ?_ ?_ _
  ·intro a b c
   simp only [Bool.not_eq_true', ltp_not]
   omega
  ·intro a b
   simp only [Bool.or_eq_true, Bool.not_eq_true', ltp_not]
   omega
 have h2 := srv_nodup f n
 refine (h1.and h2).imp ?_
 rintro a b ⟨h, hne⟩
 rw [Bool.not_eq_true', ltp_not] at h
 rw [ltp_iff]
 omega
theorem sort_srv (m : Nat) (f : Nat → Nat) (lt : Fin (m + 1) → Fin (m + 1) → Bool) (hlt : ∀ x y, lt x y = decide (f y.val < f x.val)) :
  (Sort.insertionSort lt (Array.ofFn (fun i : Fin (m + 1) => i)) 0 (m + 1)).toList.map Fin.val = srv f (m + 1) := by
 have hsz : (Array.ofFn (fun i : Fin (m + 1) => i)).size = m + 1 := Array.size_ofFn
 have hg : ∀ i (h : i < m + 1), (Array.ofFn (fun i : Fin (m + 1) => i))[i]! = ⟨i, h⟩ := by
  intro i h
  rw [getElem!_pos _ _ (by rw [hsz]; exact h), Array.getElem_ofFn]
 have hc := insertionSort_cong lt (fun x y => ltp f x.val y.val) (Array.ofFn (fun i : Fin (m + 1) => i)) (by
  rw [hsz]
  intro i k hk hi
  rw [hg i hi, hg k (by omega), hlt]
  unfold ltp
  refine decide_eq_decide.2 ?_
  show f k < f i ↔ (f k < f i ∨ (f i = f k ∧ i < k))
  omega)
 rw [hsz] at hc
 rw [hc]
 have hS : SWO (fun x y : Fin (m + 1) => ltp f x.val y.val) := by
  refine ⟨fun x => ?_, fun x y z => ?_, fun x y z => ?_⟩
  ·rw [ltp_not]; omega
  ·rw [ltp_iff, ltp_iff, ltp_iff]; omega
  ·rw [ltp_not, ltp_not, ltp_not]; omega
 have hi := insertionSort_holds hS (Array.ofFn (fun i : Fin (m + 1) => i)) 0 (m + 1) (Nat.zero_le _) (by rw [hsz]; exact Nat.le_refl _)
 have hu := sorted_unique_holds hS (fun x y h1 h2 => by
  rw [ltp_not] at h1 h2
  exact Fin.ext (by omega)) _ _ (by rw [hsz]; exact hi.1) (by rw [hsz]; exact hi.2)
 rw [hu]
 unfold srv
 rw [List.map_mergeSort (s := fun x y => !ltp f y x) (fun a _ b _ => rfl)]
 congr 1
 refine List.ext_getElem (by rw [List.length_map, Array.length_toList, hsz, List.length_range]) fun i h1 h2 => ?_
 rw [List.getElem_map, Array.getElem_toList, Array.getElem_ofFn, List.getElem_range]
theorem ch_put {α : Type} [Inhabited α] (enc : α → Value) (w : World) (g m : Nat) (d : Array α) (os : Array Obj) : Ch w.heap.size (· = g) w (sortWorld enc w g 0 m d os) := by
 have hs : (putRow enc (Sort.ahead w m) g 0 d).heap.size = w.heap.size := by rw [size_putRow]; rfl
 refine ⟨rfl, rfl, rfl, ?_, fun k hk hne => ?_⟩
 ·unfold sortWorld grow
  simp only [Array.size_append, hs]
  omega
 ·unfold sortWorld
  rw [heap_grow_old _ _ (by rw [hs]; exact hk)]
  unfold putRow mapBlock
  show ((Sort.ahead w m).heap.modify g _)[k]? = _
  rw [Array.getElem?_modify, if_neg (fun e => hne e.symm)]
  rfl
def encP (m : Nat) (i : Fin (m + 1)) : Value := .int .i64 ((i.val : Nat) : Int)
theorem encP_one (m : Nat) : OneCell (encP m) := fun _ => rfl
theorem restOf_cmp (L : List (List UInt8)) (i j : Nat) : decide (cmpG L i j < 0) = decide (restOf L j < restOf L i) := by
 unfold cmpG cmpN
 refine decide_eq_decide.2 ?_
 split
 ·omega
 ·split <;> omega
theorem ordered_any (L : List (List UInt8)) (p : Option Addr) (m c Bn g cap : Nat) (t : TypeId) (w : World) (hB : w.cell? ⟨Bn, 0, none⟩ = some (.slice p (m + 1) c)) (hBl : Bn < w.heap.size) (hv : Vs w p (m + 1) (L.map S)) (hBn : Bn ≠ g) (hvg : ∀ a, p = some a → a.block ≠ g)
  (hP : Blk w g t ((List.range (m + 1)).map fun i : Nat => .int .i64 (i : Int))) (hm : m ≤ 18) (hsz : ∀ x ∈ L, x.length ≤ 900) :
  Calls Tryz.prog 148 #[.slice (some ⟨g, 0, none⟩) (m + 1) cap, .func (.func 149) #[] #[.pointer (some ⟨Bn, 0, none⟩)]] w fun e w' =>
   e = .returned (.tuple #[]) ∧ (∀ j i : Nat, (srv (restOf L) (m + 1))[j]? = some i → w'.cell? ⟨g, j, none⟩ = some (.int .i64 (i : Int))) ∧ Ch w.heap.size (· = g) w w' := by
 have eg : ∀ args w, (callFunc 149 args).run Tryz.prog w = .ok (.enter 149 args) w := enters_of Tryz.func149 (by kernel_rfl) rfl
 obtain ⟨d, hd⟩ : ∃ d, Array.ofFn (fun i : Fin (m + 1) => i) = d := ⟨_, rfl⟩
 have hds : d.size = m + 1 := by rw [← hd, Array.size_ofFn]
 have hg : ∀ i (h : i < m + 1), d[i]! = ⟨i, h⟩ := by
  intro i h
  rw [← hd, getElem!_pos _ _ (by rw [Array.size_ofFn]; exact h), Array.getElem_ofFn]
 have hcmp : CmpReads Tryz.prog 149 #[.pointer (some ⟨Bn, 0, none⟩)] (encP m) (fun i j => cmpG L i.val j.val) g 0 d.size w := by
  intro k os dk hdk x y
  have hC := ch_put (encP m) w g k dk os
  exact cmpG_any L p (m + 1) c Bn x.val y.val _ (by rw [hC.cell (p := ⟨Bn, 0, none⟩) hBl hBn]; exact hB) (hv.chR hC hvg) x.isLt y.isLt (by omega) hsz
 have hH : Holds (encP m) w g 0 d := by
  intro j hj
  refine ⟨?_, hP.frozen _⟩
  rw [Nat.zero_add, hP.cell, hg j (by omega), List.getElem?_map, List.getElem?_range (by omega)]
  rfl
 have hcon := stable_any (encP m) (encP_one m) (fun i j => cmpG L i.val j.val) 149 #[.pointer (some ⟨Bn, 0, none⟩)] g 0 cap d w eg hcmp hH (by omega)
 rw [hds] at hcon
 refine hcon.mono ?_
 rintro e w' ⟨he, n, rfl⟩
 have hsrt := sort_srv m (restOf L) (ltOf (fun i j : Fin (m + 1) => cmpG L i.val j.val)) (fun x y => by unfold ltOf; exact restOf_cmp L x.val y.val)
 rw [hd] at hsrt
 obtain ⟨r, hr⟩ : ∃ r, Sort.insertionSort (ltOf (fun i j : Fin (m + 1) => cmpG L i.val j.val)) d 0 (m + 1) = r := ⟨_, rfl⟩
 rw [hr] at hsrt ⊢
 have hrs : r.size = m + 1 := by
  have := congrArg List.length hsrt
  rw [List.length_map, srv_len, Array.length_toList] at this
  exact this
 refine ⟨he, fun j i hji => ?_, ?_⟩
 ·have hj : j < m + 1 := by have := (List.getElem?_eq_some_iff.1 hji).1; rwa [srv_len] at this
  have := cell?_putRow (encP m) w g 0 d r hH (by omega) j (by omega)
  rw [Nat.zero_add] at this
  show (putRow (encP m) w g 0 r).cell? ⟨g, j, none⟩ = _
  rw [this]
  rw [← hsrt, List.getElem?_map, Array.getElem?_toList, Array.getElem?_eq_getElem (by omega)] at hji
  rw [getElem!_pos r j (by omega)]
  have := Option.some.inj hji
  unfold encP
  rw [this]
 ·have := ch_put (encP m) w g 0 r #[]
  rw [sortWorld_none] at this
  exact ⟨rfl, rfl, rfl, this.size, this.block⟩
end Go.Proofs.YtkeomlpecjjhiaaGreatDoor
