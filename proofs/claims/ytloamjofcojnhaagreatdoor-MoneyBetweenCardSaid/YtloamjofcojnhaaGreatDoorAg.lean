/- Package money: the order in which rests are served. -/
import Derived.Test.YtloamjofcojnhaaGreatDoorAd
import Derived.Test.YtloamjofcojnhaaGreatDoorAf
import Derived.BigQuiet
import Derived.Deep.QuietTactic
namespace Go.Proofs.YtloamjofcojnhaaGreatDoor
open Go.RowKit Go.Shelf Go.Lib Go.Sort
def restOf (L : List (List UInt8)) (i : Nat) : Nat := bv (L.getD i [])
/-- What the order answers for two places. -/
def cmpG (L : List (List UInt8)) (i j : Nat) : Int := cmpN (restOf L j) (restOf L i)
set_option maxRecDepth 100000 in
set_option maxHeartbeats 3200000 in
theorem cmpG_any (L : List (List UInt8)) (p : Option Addr) (n c B i j : Nat) (w : World) (hB : w.cell? ⟨B, 0, none⟩ = some (.slice p n c)) (hv : Vs w p n (L.map S)) (hi : i < n) (hj : j < n) (hn : n ≤ 200) (hsz : ∀ x ∈ L, x.length ≤ 900) :
    Calls Tryz.prog 149 #[.int .i64 (i : Int), .int .i64 (j : Int), .pointer (some ⟨B, 0, none⟩)] w fun e w' => e = .returned (.int .i64 (cmpG L i j)) ∧ ∃ q, w' = w.drewN q := by
  have hlen : L.length = n := by rw [← hv.len, List.length_map]
  obtain ⟨g, o, rfl⟩ := hv.addr (by omega)
  obtain ⟨x, hx⟩ : ∃ x, L[i]? = some x := ⟨L[i]'(by omega), List.getElem?_eq_getElem _⟩
  obtain ⟨y, hy⟩ : ∃ y, L[j]? = some y := ⟨L[j]'(by omega), List.getElem?_eq_getElem _⟩
  have c1 := hv.get (i := i) (t := S x) (by rw [List.getElem?_map, hx]; rfl)
  have c2 := hv.get (i := j) (t := S y) (by rw [List.getElem?_map, hy]; rfl)
  have lx := hsz x (List.mem_of_getElem? hx)
  have ly := hsz y (List.mem_of_getElem? hy)
  obtain ⟨k, hk⟩ : ∃ k, cmpG L i j = k := ⟨_, rfl⟩
  have hk2 : cmpN (bv y) (bv x) = k := by
    rw [← hk]
    unfold cmpG restOf
    rw [List.getD_eq_getElem?_getD, List.getD_eq_getElem?_getD, hx, hy]
    rfl
  rw [hk]
  have H1 := Lib.hid (fun W : World => (cmp_any y x W (max_k (by omega)) (max_k (by omega))).mono (fun e w' h => (⟨by rw [h.1, hk2], 0, h.2⟩ : e = .returned (.int .i64 k) ∧ ∃ q, w' = W.drewN q)))
  have hb1 : 0 ≤ (i : Int) ∧ (i : Int) < (n : Int) := by omega
  have hb2 : 0 ≤ (j : Int) ∧ (j : Int) < (n : Int) := by omega
  clear hv hsz hx hy lx ly hk hk2 hlen
  go_enter Tryz.func149, Tryz.ntmps149
  go_wp2_with fail
  go_quiet ((go_at_call 141; exact Calls.quiet_of (H1.out _)))
  go_wp2_with fail
  go_ret
  exact ⟨rfl, nq, rfl⟩
set_option maxRecDepth 100000 in
set_option maxHeartbeats 3200000 in
theorem stable_any {α : Type} [Inhabited α] (enc : α → Value) (hO : OneCell enc) (cf : α → α → Int) (g : Nat) (cb : Array Value) (blk off cap : Nat) (d : Array α) (w : World) (eg : ∀ args w, (callFunc g args).run Tryz.prog w = .ok (.enter g args) w) (hcmp : CmpReads Tryz.prog g cb enc cf blk off d.size w) (hH : Holds enc w blk off d) (hn : d.size ≤ 19) :
    Calls Tryz.prog 148 #[.slice (some ⟨blk, off, none⟩) d.size cap, .func (.func g) #[] cb] w fun e w' => e = .returned (.tuple #[]) ∧ ∃ n, w' = (putRow enc w blk off (Sort.insertionSort (ltOf cf) d 0 d.size)).drewN n := by
  have H1 := Lib.hid (stableCmp_any enc hO cf g cb blk off cap d w eg hcmp hH hn)
  obtain ⟨R, hR⟩ : ∃ R, putRow enc w blk off (Sort.insertionSort (ltOf cf) d 0 d.size) = R := ⟨_, rfl⟩
  rw [hR] at H1 ⊢
  clear hR hcmp hH
  obtain ⟨n, hsz⟩ : ∃ n, d.size = n := ⟨_, rfl⟩
  rw [hsz] at H1 hn ⊢
  clear hsz
  go_enter Tryz.func148, Tryz.ntmps148
  go_wp2_with fail
  refine H1.out.mono ?_
  rintro e w1 ⟨rfl, q, hq⟩
  have HQ := Lib.hid hq
  clear hq
  go_wp2_with fail
  go_end0
  exact ⟨rfl, q, HQ.out⟩
end Go.Proofs.YtloamjofcojnhaaGreatDoor
