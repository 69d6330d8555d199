/- Package span: the bounds sorted by their days (slices.SortFunc). -/
import Derived.Test.YtnbcfolmadkliaaDoorSb
import Derived.Test.YtnbcfolmadkliaaDoorShelf
import Derived.Shelf.SlSortCmp.WholeK
namespace Go.Proofs.YtnbcfolmadkliaaDoor
open Go.RowKit Go.Shelf Go.Lib Go.Sort
abbrev BdV (a b c : Int) : Value := .agg #[iz a, iz b, iz c]
def cfb (x y : Spn.Bd) : Int := Lib.compareInt x.1 y.1
theorem cfb_lt (x y : Spn.Bd) : ltOf cfb x y = decide (x.1 < y.1) := by
  unfold ltOf cfb Lib.compareInt
  by_cases h1 : x.1 < y.1
  · simp [h1]
  · by_cases h2 : y.1 < x.1 <;> simp [h1, h2]
theorem cfb_swo : SWO (ltOf cfb) where
  irrefl x := by rw [cfb_lt]; simp
  trans x y z h1 h2 := by rw [cfb_lt] at *; simp at *; omega
  ntrans x y z h1 h2 := by rw [cfb_lt] at *; simp at *; omega
set_option maxRecDepth 100000 in
set_option maxHeartbeats 1000000 in
theorem bounds1_any (a b c x y z : Int) (W : World) : Calls Tryd.prog 50 #[BdV a b c, BdV x y z] W fun e w' => e = .returned (iz (Lib.compareInt a x)) ∧ ∃ q os', w' = grow (W.drewN q) os' := by
  have hcon := fun W' => Tryd.cmp_Compare_int a x W'
  obtain ⟨r, hr⟩ : ∃ r, Lib.compareInt a x = r := ⟨_, rfl⟩
  rw [hr] at hcon ⊢
  clear hr
  have H1 := Lib.hid hcon
  clear hcon
  have b0 := (Blk.new W #[iz a, iz b, iz c] 70).alloc (.cells #[iz x, iz y, iz z] 70)
  have b1 := Blk.new (W.alloc (.cells #[iz a, iz b, iz c] 70)) #[iz x, iz y, iz z] 70
  have c0 := b0.cell 0
  have c1 := b1.cell 0
  simp only [List.getElem?_cons_zero, World.size_alloc] at c0 c1
  clear b0 b1
  go_enter Tryd.func50, Tryd.ntmps50
  go_wp2_with fail
  refine (H1.out _).mono ?_
  rintro e w' ⟨rfl, rfl⟩
  go_wp2_with fail
  go_ret
  exact ⟨rfl, 0, _, by rw [alloc_eq_grow, alloc_eq_grow, grow_grow]; rfl⟩
theorem bounds1_lays (blk off size : Nat) (w : World) : CmpLays Tryd.prog 50 #[] bdc 3 cfb blk off size w :=
  fun _ _ _ _ x y => bounds1_any x.1 x.2.1 x.2.2 y.1 y.2.1 y.2.2 _
theorem perm_in {d d' : Array Spn.Bd} (h : PermIn 0 d.size d d') : d'.toList.Perm d.toList := by
  obtain ⟨h1, _, h2⟩ := h
  have e1 : d.extract 0 d.size = d := by simp
  have e2 : d'.extract 0 d.size = d' := by rw [← h1]; simp
  rwa [e1, e2] at h2
theorem sorted_in {d' : Array Spn.Bd} {n : Nat} (hn : d'.size = n) (h : SortedIn (ltOf cfb) 0 n d') : d'.toList.Pairwise fun x y => x.1 ≤ y.1 := by
  rw [List.pairwise_iff_getElem]
  intro i j hi hj hij
  have := h i j (Nat.zero_le _) hij (by rw [← hn]; simpa using hj)
  rw [cfb_lt, decide_eq_false_iff_not, getElem!_pos d' j (by simpa using hj), getElem!_pos d' i (by simpa using hi)] at this
  simp only [Array.getElem_toList]
  omega
theorem holds_bd {w : World} {g : Nat} {t : TypeId} {cs : List Value} {d : List Spn.Bd} (hb : Blk w g t cs) (hr : Rd bdc 3 w (some ⟨g, 0, none⟩) d.length d) : HoldsK bdc 3 w g 0 d.toArray := by
  intro j hj
  rw [size_flatK] at hj
  refine ⟨?_, hb.frozen _⟩
  rw [get_flatK _ _ _ _ hj]
  have h1 : j / 3 < d.length := by simp at hj; omega
  have h2 : d[j / 3]? = some d[j / 3] := List.getElem?_eq_getElem h1
  have h3 : j % 3 < (bdc d[j / 3]).length := by rw [bdc_len]; omega
  have h4 := hr.get h2 (j % 3) (List.getElem?_eq_getElem h3)
  rw [show 0 + j / 3 * 3 + j % 3 = 0 + j by omega] at h4
  rw [h4, getElem!_pos d.toArray (j / 3) (by simpa using h1)]
  simp only [List.getElem_toArray]
  rw [getElem!_pos _ (j % 3) h3]
  rfl
theorem rd_holds {w : World} {g n : Nat} {d : Array Spn.Bd} (hg : g < w.heap.size) (h : HoldsK bdc 3 w g 0 d) (hn : d.size = n) : Rd bdc 3 w (some ⟨g, 0, none⟩) n d.toList :=
  ⟨by simpa using hn, fun e => by simp at e, fun a ha => by
    obtain rfl := Option.some.inj ha
    refine ⟨rfl, hg, fun i x hi j v hv => ?_⟩
    have hlt : i < d.size := by have := (List.getElem?_eq_some_iff.1 hi).1; simpa using this
    have hj : j < 3 := by have := (List.getElem?_eq_some_iff.1 hv).1; rwa [bdc_len] at this
    have := (HoldsK.cell h hlt hj).1
    have hx : d[i]! = x := by
      rw [getElem!_pos d i hlt]
      have := (List.getElem?_eq_some_iff.1 hi).2
      simpa using this
    rw [hx, getElem!_pos (bdc x) j (by rw [bdc_len]; exact hj)] at this
    have hv2 := (List.getElem?_eq_some_iff.1 hv).2
    rw [hv2] at this
    exact this⟩
theorem ch_sort (w : World) (g m : Nat) (d : Array Spn.Bd) (os : Array Obj) (_hg : g < w.heap.size) : Ch w.heap.size (· = g) w (sortWorldK bdc 3 w g 0 m d os) := by
  refine ⟨rfl, rfl, rfl, size_sortWorldK_c bdc 3 w g 0 m d os, fun k hk hne => ?_⟩
  unfold sortWorldK
  have hs : (putRowK bdc 3 (Sort.ahead w m) g 0 d).heap.size = w.heap.size := by unfold putRowK; rw [size_putRow]; rfl
  rw [heap_grow_old _ _ (by rw [hs]; exact hk)]
  unfold putRowK putRow mapBlock
  show ((Sort.ahead w m).heap.modify g _)[k]? = _
  rw [Array.getElem?_modify, if_neg (fun e => hne e.symm)]
  rfl
theorem sort_bd (g cap : Nat) (t : TypeId) (cs : List Value) (d : List Spn.Bd) (w : World) (hb : Blk w g t cs) (hr : Rd bdc 3 w (some ⟨g, 0, none⟩) d.length d) (hn : d.length ≤ 1000000000) :
    Calls Tryd.prog 49 #[.slice (some ⟨g, 0, none⟩) d.length cap, .func (.func 50) #[] #[]] w fun e w' =>
      e = .returned (.tuple #[]) ∧ ∃ d', d'.Perm d ∧ (d'.Pairwise fun x y => x.1 ≤ y.1) ∧ Rd bdc 3 w' (some ⟨g, 0, none⟩) d.length d' ∧ Ch w.heap.size (· = g) w w' := by
  have eg : ∀ args w, (callFunc 50 args).run Tryd.prog w = .ok (.enter 50 args) w := enters_of Tryd.func50 (by kernel_rfl) rfl
  have hH := holds_bd hb hr
  have hcon := AnyQ.slices_SortFunc Tryd.sortBd 3 Tryd.isAgg70 Tryd.sizeOf70 bdc bdc_len (fun x v hv => by simp [bdc] at hv; rcases hv with rfl | rfl | rfl <;> rfl) cfb cfb_swo 50 #[] g 0 cap d.toArray w eg (bounds1_lays g 0 d.toArray.size w) hH hb.lt (by simp; omega)
  change Calls Tryd.prog 49 _ _ _ at hcon
  refine Calls.mono (R := fun e w' => e = .returned (.tuple #[]) ∧ ∃ d' n os, PermIn 0 d.toArray.size d.toArray d' ∧ SortedIn (ltOf cfb) 0 d.toArray.size d' ∧ w' = sortWorldK bdc 3 w g 0 n d' os) (by simpa using hcon) ?_
  rintro e w' ⟨he, d', n, os, hp, hs, rfl⟩
  have hsz : d'.size = d.length := by have := hp.1; simpa using this
  refine ⟨he, d'.toList, ?_, sorted_in (n := d.toArray.size) (by rw [hsz]; simp) hs, ?_, ch_sort w g n d' os hb.lt⟩
  · simpa using perm_in hp
  · exact rd_holds (Nat.lt_of_lt_of_le hb.lt (size_sortWorldK_c bdc 3 w g 0 n d' os)) (holdsK_sortWorldK_c bdc 3 w g 0 d.toArray d' n os hH hb.lt (by rw [hsz]; simp)) hsz
end Go.Proofs.YtnbcfolmadkliaaDoor
