/- Package money: the order in which rests are served, as mathematics: insertion sort keeps what is equal in its order. -/
import Derived.Test.YtloamjofcojnhaaGreatDoorAg
namespace Go.Proofs.YtloamjofcojnhaaGreatDoor
open Go.Sort
section
variable {α : Type} [Inhabited α]
theorem insInner_perm (lt : α → α → Bool) (a b : Nat) : ∀ (j : Nat) (d : Array α), a ≤ j → j < b → b ≤ d.size → PermIn a b d (insInner lt a j d)
  | 0, d, _, _, _ => by unfold insInner; exact permIn_refl d a b
  | j + 1, d, haj, hjb, hb => by
    unfold insInner
    split
    · rename_i hc
      simp only [Bool.and_eq_true, decide_eq_true_eq] at hc
      exact permIn_trans _ _ _ a b (swp_permIn d a b (j + 1) j haj hjb (by omega) (by omega) hb) (insInner_perm lt a b j (swp d (j + 1) j) (by omega) (by omega) (by rw [swp_size]; exact hb))
    · exact permIn_refl d a b
theorem insInner_cong (lt lt' : α → α → Bool) (a : Nat) : ∀ (j : Nat) (d : Array α), j < d.size → (∀ k, k < j → lt d[j]! d[k]! = lt' d[j]! d[k]!) → insInner lt a j d = insInner lt' a j d
  | 0, d, _, _ => by unfold insInner; rfl
  | j + 1, d, hj, h => by
    unfold insInner
    rw [h j (by omega)]
    have hs : (swp d (j + 1) j)[j]! = d[j + 1]! := by
      unfold swp
      rw [getElem!_pos _ _ (by simp; omega), Array.getElem_setIfInBounds (by simp; omega)]
      simp
    have ho : ∀ k, k < j → (swp d (j + 1) j)[k]! = d[k]! := by
      intro k hk
      unfold swp
      rw [getElem!_pos _ _ (by simp; omega), Array.getElem_setIfInBounds (by simp; omega), if_neg (by omega), Array.getElem_setIfInBounds (by omega), if_neg (by omega), getElem!_pos d k (by omega)]
    rw [insInner_cong lt lt' a j (swp d (j + 1) j) (by rw [swp_size]; omega) (fun k hk => by rw [hs, ho k hk]; exact h k (by omega))]
theorem insOuter_cong (lt lt' : α → α → Bool) (d0 : Array α) (b : Nat) (hb : b ≤ d0.size) (h : ∀ i k, k < i → i < b → lt d0[i]! d0[k]! = lt' d0[i]! d0[k]!) :
    ∀ (n i : Nat) (d : Array α), b - i = n → PermIn 0 i d0 d → insOuter lt 0 b i d = insOuter lt' 0 b i d
  | 0, i, d, hn, _ => by rw [insOuter, if_neg (by omega), insOuter, if_neg (by omega)]
  | n + 1, i, d, hn, hp => by
    have hi : i < b := by omega
    have hin : insInner lt 0 i d = insInner lt' 0 i d := by
      refine insInner_cong lt lt' 0 i d (by rw [hp.1]; omega) fun k hk => ?_
      rw [hp.2.1 i (.inr (Nat.le_refl _))]
      exact permIn_all d0 d 0 i (fun x => lt d0[i]! x = lt' d0[i]! x) (by omega) hp (fun k _ hk => h i k hk hi) k (Nat.zero_le _) hk
    conv => lhs; rw [insOuter, if_pos hi]
    conv => rhs; rw [insOuter, if_pos hi]
    rw [hin]
    refine insOuter_cong lt lt' d0 b hb h n (i + 1) _ (by omega) ?_
    exact permIn_trans _ _ _ 0 (i + 1) (permIn_mono d0 d 0 i 0 (i + 1) (Nat.le_refl _) (by omega) (by omega) hp) (insInner_perm lt' 0 (i + 1) i d (Nat.zero_le _) (by omega) (by rw [hp.1]; omega))
theorem insertionSort_cong (lt lt' : α → α → Bool) (d : Array α) (h : ∀ i k, k < i → i < d.size → lt d[i]! d[k]! = lt' d[i]! d[k]!) : Sort.insertionSort lt d 0 d.size = Sort.insertionSort lt' d 0 d.size := by
  unfold Sort.insertionSort
  by_cases h0 : d.size = 0
  · rw [insOuter, if_neg (by omega), insOuter, if_neg (by omega)]
  · exact insOuter_cong lt lt' d d.size (Nat.le_refl _) h (d.size - 1) 1 d rfl (permIn_refl d 0 1)
end
/-- Place x is served before place y: its rest is greater, or it is the same and x comes first. -/
def ltp (f : Nat → Nat) (x y : Nat) : Bool := decide (f y < f x ∨ (f x = f y ∧ x < y))
/-- The places below n in the order in which they are served. -/
def srv (f : Nat → Nat) (n : Nat) : List Nat := (List.range n).mergeSort (fun x y => !ltp f y x)
theorem ltp_iff (f : Nat → Nat) (x y : Nat) : ltp f x y = true ↔ f y < f x ∨ (f x = f y ∧ x < y) := by unfold ltp; rw [decide_eq_true_eq]
theorem ltp_not (f : Nat → Nat) (x y : Nat) : ltp f x y = false ↔ ¬ (f y < f x ∨ (f x = f y ∧ x < y)) := by unfold ltp; rw [decide_eq_false_iff_not]
theorem srv_perm (f : Nat → Nat) (n : Nat) : (srv f n).Perm (List.range n) := List.mergeSort_perm _ _
theorem srv_len (f : Nat → Nat) (n : Nat) : (srv f n).length = n := by rw [(srv_perm f n).length_eq, List.length_range]
theorem srv_mem (f : Nat → Nat) (n i : Nat) : i ∈ srv f n ↔ i < n := by rw [(srv_perm f n).mem_iff, List.mem_range]
theorem srv_nodup (f : Nat → Nat) (n : Nat) : (srv f n).Nodup := (srv_perm f n).nodup_iff.2 List.nodup_range
theorem srv_sorted (f : Nat → Nat) (n : Nat) : (srv f n).Pairwise (fun x y => ltp f x y = true) := by
  have h1 : (srv f n).Pairwise (fun x y => (!ltp f y x) = true) := by
    refine List.pairwise_mergeSort ?_ ?_ _
    · intro a b c
      simp only [Bool.not_eq_true', ltp_not]
      omega
    · intro a b
      simp only [Bool.or_eq_true, Bool.not_eq_true', ltp_not]
      omega
  have h2 := srv_nodup f n
  refine (h1.and h2).imp ?_
  rintro a b ⟨h, hne⟩
  rw [Bool.not_eq_true', ltp_not] at h
  rw [ltp_iff]
  omega
/-- The code's stable sort of the places is that order. -/
theorem sort_srv (m : Nat) (f : Nat → Nat) (lt : Fin (m + 1) → Fin (m + 1) → Bool) (hlt : ∀ x y, lt x y = decide (f y.val < f x.val)) :
    (Sort.insertionSort lt (Array.ofFn (fun i : Fin (m + 1) => i)) 0 (m + 1)).toList.map Fin.val = srv f (m + 1) := by
  have hsz : (Array.ofFn (fun i : Fin (m + 1) => i)).size = m + 1 := Array.size_ofFn
  have hg : ∀ i (h : i < m + 1), (Array.ofFn (fun i : Fin (m + 1) => i))[i]! = ⟨i, h⟩ := by
    intro i h
    rw [getElem!_pos _ _ (by rw [hsz]; exact h), Array.getElem_ofFn]
  have hc := insertionSort_cong lt (fun x y => ltp f x.val y.val) (Array.ofFn (fun i : Fin (m + 1) => i)) (by
    rw [hsz]
    intro i k hk hi
    rw [hg i hi, hg k (by omega), hlt]
    unfold ltp
    refine decide_eq_decide.2 ?_
    show f k < f i ↔ (f k < f i ∨ (f i = f k ∧ i < k))
    omega)
  rw [hsz] at hc
  rw [hc]
  have hS : SWO (fun x y : Fin (m + 1) => ltp f x.val y.val) := by
    refine ⟨fun x => ?_, fun x y z => ?_, fun x y z => ?_⟩
    · rw [ltp_not]; omega
    · rw [ltp_iff, ltp_iff, ltp_iff]; omega
    · rw [ltp_not, ltp_not, ltp_not]; omega
  have hi := insertionSort_holds hS (Array.ofFn (fun i : Fin (m + 1) => i)) 0 (m + 1) (Nat.zero_le _) (by rw [hsz]; exact Nat.le_refl _)
  have hu := sorted_unique_holds hS (fun x y h1 h2 => by
    rw [ltp_not] at h1 h2
    exact Fin.ext (by omega)) _ _ (by rw [hsz]; exact hi.1) (by rw [hsz]; exact hi.2)
  rw [hu]
  unfold srv
  rw [List.map_mergeSort (s := fun x y => !ltp f y x) (fun a _ b _ => rfl)]
  congr 1
  refine List.ext_getElem (by rw [List.length_map, Array.length_toList, hsz, List.length_range]) fun i h1 h2 => ?_
  rw [List.getElem_map, Array.getElem_toList, Array.getElem_ofFn, List.getElem_range]
end Go.Proofs.YtloamjofcojnhaaGreatDoor
