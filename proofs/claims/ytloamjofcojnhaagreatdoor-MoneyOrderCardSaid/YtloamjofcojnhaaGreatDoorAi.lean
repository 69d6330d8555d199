/- Package money: the places, sorted. -/
import Derived.Test.YtloamjofcojnhaaGreatDoorAh
namespace Go.Proofs.YtloamjofcojnhaaGreatDoor
open Go.RowKit Go.Shelf Go.Lib Go.Sort
theorem ch_put {α : Type} [Inhabited α] (enc : α → Value) (w : World) (g m : Nat) (d : Array α) (os : Array Obj) : Ch w.heap.size (· = g) w (sortWorld enc w g 0 m d os) := by
  have hs : (putRow enc (Sort.ahead w m) g 0 d).heap.size = w.heap.size := by rw [size_putRow]; rfl
  refine ⟨rfl, rfl, rfl, ?_, fun k hk hne => ?_⟩
  · unfold sortWorld grow
    simp only [Array.size_append, hs]
    omega
  · unfold sortWorld
    rw [heap_grow_old _ _ (by rw [hs]; exact hk)]
    unfold putRow mapBlock
    show ((Sort.ahead w m).heap.modify g _)[k]? = _
    rw [Array.getElem?_modify, if_neg (fun e => hne e.symm)]
    rfl
/-- A place, as the machine holds it. -/
def encP (m : Nat) (i : Fin (m + 1)) : Value := .int .i64 ((i.val : Nat) : Int)
theorem encP_one (m : Nat) : OneCell (encP m) := fun _ => rfl
theorem restOf_cmp (L : List (List UInt8)) (i j : Nat) : decide (cmpG L i j < 0) = decide (restOf L j < restOf L i) := by
  unfold cmpG cmpN
  refine decide_eq_decide.2 ?_
  split
  · omega
  · split <;> omega
theorem ordered_any (L : List (List UInt8)) (p : Option Addr) (m c Bn g cap : Nat) (t : TypeId) (w : World) (hB : w.cell? ⟨Bn, 0, none⟩ = some (.slice p (m + 1) c)) (hBl : Bn < w.heap.size) (hv : Vs w p (m + 1) (L.map S)) (hBn : Bn ≠ g) (hvg : ∀ a, p = some a → a.block ≠ g)
    (hP : Blk w g t ((List.range (m + 1)).map fun i : Nat => .int .i64 (i : Int))) (hm : m ≤ 18) (hsz : ∀ x ∈ L, x.length ≤ 900) :
    Calls Tryz.prog 148 #[.slice (some ⟨g, 0, none⟩) (m + 1) cap, .func (.func 149) #[] #[.pointer (some ⟨Bn, 0, none⟩)]] w fun e w' =>
      e = .returned (.tuple #[]) ∧ (∀ j i : Nat, (srv (restOf L) (m + 1))[j]? = some i → w'.cell? ⟨g, j, none⟩ = some (.int .i64 (i : Int))) ∧ Ch w.heap.size (· = g) w w' := by
  have eg : ∀ args w, (callFunc 149 args).run Tryz.prog w = .ok (.enter 149 args) w := enters_of Tryz.func149 (by kernel_rfl) rfl
  obtain ⟨d, hd⟩ : ∃ d, Array.ofFn (fun i : Fin (m + 1) => i) = d := ⟨_, rfl⟩
  have hds : d.size = m + 1 := by rw [← hd, Array.size_ofFn]
  have hg : ∀ i (h : i < m + 1), d[i]! = ⟨i, h⟩ := by
    intro i h
    rw [← hd, getElem!_pos _ _ (by rw [Array.size_ofFn]; exact h), Array.getElem_ofFn]
  have hcmp : CmpReads Tryz.prog 149 #[.pointer (some ⟨Bn, 0, none⟩)] (encP m) (fun i j => cmpG L i.val j.val) g 0 d.size w := by
    intro k os dk hdk x y
    have hC := ch_put (encP m) w g k dk os
    exact cmpG_any L p (m + 1) c Bn x.val y.val _ (by rw [hC.cell (p := ⟨Bn, 0, none⟩) hBl hBn]; exact hB) (hv.chR hC hvg) x.isLt y.isLt (by omega) hsz
  have hH : Holds (encP m) w g 0 d := by
    intro j hj
    refine ⟨?_, hP.frozen _⟩
    rw [Nat.zero_add, hP.cell, hg j (by omega), List.getElem?_map, List.getElem?_range (by omega)]
    rfl
  have hcon := stable_any (encP m) (encP_one m) (fun i j => cmpG L i.val j.val) 149 #[.pointer (some ⟨Bn, 0, none⟩)] g 0 cap d w eg hcmp hH (by omega)
  rw [hds] at hcon
  refine hcon.mono ?_
  rintro e w' ⟨he, n, rfl⟩
  have hsrt := sort_srv m (restOf L) (ltOf (fun i j : Fin (m + 1) => cmpG L i.val j.val)) (fun x y => by unfold ltOf; exact restOf_cmp L x.val y.val)
  rw [hd] at hsrt
  obtain ⟨r, hr⟩ : ∃ r, Sort.insertionSort (ltOf (fun i j : Fin (m + 1) => cmpG L i.val j.val)) d 0 (m + 1) = r := ⟨_, rfl⟩
  rw [hr] at hsrt ⊢
  have hrs : r.size = m + 1 := by
    have := congrArg List.length hsrt
    rw [List.length_map, srv_len, Array.length_toList] at this
    exact this
  refine ⟨he, fun j i hji => ?_, ?_⟩
  · have hj : j < m + 1 := by have := (List.getElem?_eq_some_iff.1 hji).1; rwa [srv_len] at this
    have := cell?_putRow (encP m) w g 0 d r hH (by omega) j (by omega)
    rw [Nat.zero_add] at this
    show (putRow (encP m) w g 0 r).cell? ⟨g, j, none⟩ = _
    rw [this]
    rw [← hsrt, List.getElem?_map, Array.getElem?_toList, Array.getElem?_eq_getElem (by omega)] at hji
    rw [getElem!_pos r j (by omega)]
    have := Option.some.inj hji
    unfold encP
    rw [this]
  · have := ch_put (encP m) w g 0 r #[]
    rw [sortWorld_none] at this
    exact ⟨rfl, rfl, rfl, this.size, this.block⟩
end Go.Proofs.YtloamjofcojnhaaGreatDoor
