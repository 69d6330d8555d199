/- append of zeros (append(s, make(..)...)) to a slice of digits of one's own. -/
import Derived.Test.YtcghnkdfhiancaaDoorOd
import Derived.Lib.AppendZerosOnto
namespace Go.Proofs.YtcghnkdfhiancaaDoor
open Go.RowKit
variable {P : Program}
theorem run_append_none_zeros (w : World) (t tn ty e : TypeId) (i : TypeInfo) (kq kn : IntKind) (ht : P.underlying t = some (.slice e)) (htn : P.underlying tn = some (.int kn)) (hi : P.info? e = some i)
    (p : Option Addr) (n cap : Nat) (hnc : n ≤ cap) :
    (Builtin.append_ #[t, tn] ty #[.slice p n cap, .int kq ((0 : Nat) : Int)]).run P w = .ok (.slice p n cap) w := by
  have hw : IntKind.i64.wrap 0 = 0 := by rw [IntKind.wrap_i64]; rfl
  cases p <;> simp [Builtin.append_, run_underlying ht, run_underlying htn, sizeOf, typeInfo, hi, asInt, asIntOf, hw, hnc, storeCells]
theorem run_append_fit_zeros (w : World) (t tn ty e : TypeId) (i : TypeInfo) (k0 : IntKind) (kq kn : IntKind) (ht : P.underlying t = some (.slice e)) (htn : P.underlying tn = some (.int kn)) (hi : P.info? e = some i) (hz : i.zero = some (.int k0 0)) (hs : i.size = 1)
    (g n cap k : Nat) (tag : TypeId) (cs : List Value) (hB : Blk w g tag cs) (h0 : 0 < k) (hc : n + k ≤ cap) (hl : cs.length = cap) (h48 : k * i.bytes ≤ 281474976710656) (hk : (k : Int) ≤ 9223372036854775807) :
    (Builtin.append_ #[t, tn] ty #[.slice (some ⟨g, 0, none⟩) n cap, .int kq k]).run P w = .ok (.slice (some ⟨g, 0, none⟩) (n + k) cap) (w.setRow g (cs.take n ++ List.replicate k (Value.int k0 0) ++ cs.drop (n + k)).toArray) := by
  have hw : IntKind.i64.wrap (k : Int) = k := by rw [IntKind.wrap_i64]; omega
  have h48i : ¬ (281474976710656 < (k : Int) * (i.bytes : Int)) := by
    rw [← Int.natCast_mul]
    omega
  have hneg : ¬ ((k : Int) < 0) := by omega
  have hk0 : k ≠ 0 := by omega
  have hst := run_storeCells_at P g n tag (List.replicate k (.int k0 0)) 0 cs.toArray w hB (by simp; omega) (fun v hv => by rw [List.eq_of_mem_replicate hv]; rfl)
  simp only [Nat.add_zero, List.length_replicate] at hst
  have hzc : Builtin.zeroCells (Value.int k0 0).cells k = (List.replicate k (.int k0 0)).toArray := by
    apply Array.ext
    · simp [Builtin.zeroCells, Value.cells]
    · intro j h1 h2
      simp [Builtin.zeroCells, Value.cells, Nat.mod_one]
  simp [Builtin.append_, run_underlying ht, run_underlying htn, sizeOf, typeInfo, zeroValue, hi, hz, hs, asInt, asIntOf, hw, hneg, hk0, h48i, hc, Addr.add_lit, hzc, hst, List.append_assoc]
theorem zero_cells (k0 : IntKind) (k : Nat) : Builtin.zeroCells (Value.int k0 0).cells k = (List.replicate k (Value.int k0 0)).toArray := by
  apply Array.ext
  · simp [Builtin.zeroCells, Value.cells]
  · intro j h1 h2
    simp [Builtin.zeroCells, Value.cells, Nat.mod_one]
theorem dg_mid' {w : World} {g o : Nat} {t : TypeId} (pre post : List Value) (xs : List Nat) (hB : Blk w g t (pre ++ xs.map U ++ post)) (ho : pre.length = o) (hx : Dok xs) (n : Nat) (hn : xs.length = n) : Dg w (some ⟨g, o, none⟩) n xs :=
  dg_mid pre post xs hB ho hx n hn
theorem dg_news' {w : World} {p : Option Addr} {n : Nat} {xs : List Nat} (h : Dg w p n xs) : ∀ ad, p = some ad → ∀ j u, (xs.map U)[j]? = some u → w.cell? (ad.add j) = some u := fun ad ha j u hu => by
  obtain ⟨g, o, s⟩ := ad
  obtain rfl : s = none := (h.at' _ ha).1
  subst ha
  have hj : j < xs.length := by simpa using (List.getElem?_eq_some_iff.1 hu).1
  rw [plain_add, h.get j (by rw [← h.len]; exact hj), ← hu]
  simp [hj]
theorem run_append_zeros_own (w : World) (t tn ty : TypeId) (i : TypeInfo) (kq kn : IntKind) (ht : P.underlying t = some (.slice 52)) (htn : P.underlying tn = some (.int kn)) (hi : P.info? 52 = some i) (hz : i.zero = some (.int .u64 0)) (hs : i.size = 1) (hby : i.bytes = 8)
    (base n k : Nat) (v : Value) (xs : List Nat) (hown : w.ownsRow base 52 1 v n (xs.map U)) (hx : Dok xs) (hm : n + k ≤ 4398046511104) (hb : base ≤ w.heap.size) :
    ∃ p c w', (Builtin.append_ #[t, tn] ty #[v, .int kq k]).run P w = .ok (.slice p (n + k) c) w' ∧ Dg w' p (n + k) (xs ++ List.replicate k 0) ∧ Ch base none1 w w' := by
  obtain ⟨p, cap, rfl, hd, hnc, hcm, hp⟩ := dg_of_own hown hx
  have hxl := hd.len
  have hzr : (xs ++ List.replicate k 0).map U = xs.map U ++ List.replicate k (Value.int .u64 0) := by rw [List.map_append, List.map_replicate]; rfl
  have h48 : k * i.bytes ≤ 281474976710656 := by rw [hby]; omega
  by_cases hk : k = 0
  · subst hk
    exact ⟨p, cap, w, run_append_none_zeros w t tn ty _ i kq kn ht htn hi p n cap hnc, by simpa using hd, Ch.refl _ _ _⟩
  by_cases hf : n + k ≤ cap
  · have hsome : ∃ g, p = some ⟨g, 0, none⟩ := by
      rcases hown.2 with ⟨q, _⟩ | ⟨g, cap', cur, hv, _⟩
      · simp only [Value.slice.injEq] at q
        omega
      · simp only [Value.slice.injEq] at hv
        exact ⟨g, hv.1⟩
    obtain ⟨g, rfl⟩ := hsome
    obtain ⟨cs, hB, hcl, hct, hbg⟩ := Blk.of_own hown
    refine ⟨_, _, _, run_append_fit_zeros w t tn ty _ i .u64 kq kn ht htn hi hz hs g n cap k _ cs hB (by omega) hf hcl h48 (by omega), ?_, Ch.setRow (Ch.refl _ _ _) (.inl hbg) _⟩
    refine dg_mid [] (cs.drop (n + k)) _ (t := 52) ((hB.setRow _).cast ?_) rfl (hx.append (Dok.zeros k)) _ (by rw [List.length_append, hxl, List.length_replicate])
    rw [hct, hzr, List.nil_append]
  · have hold : (Builtin.firstCells i.size n (.slice p n cap)).run P w.drew = .ok (xs.map U).toArray w.drew := by
      cases p with
      | none =>
        have h0 := hd.nil rfl
        have : xs = [] := List.eq_nil_of_length_eq_zero (by omega)
        subst this
        exact run_firstCells_none _ _ _ _ _
      | some a => exact run_firstCells_some _ _ _ _ _ _ _ (by rw [List.length_map, hs, hxl, Nat.mul_one]) (fun j u hu => dg_news' hd a rfl j u hu)
    have hnx := nextslicecap_le (show cap < n + k by omega)
    refine ⟨_, _, _, Lib.run_append_grow_zeros w t tn ty _ i _ kq kn ht htn hi hz p n cap (xs.map U) hold k (by omega) (by omega) (by omega) (by omega) h48 (by rw [hby]; omega), ?_, ((Ch.refl base none1 w).drew).alloc hb _⟩
    have hnew := Blk.new w.drew ((xs.map U).toArray ++ Builtin.zeroCells (Value.int .u64 0).cells k ++ Builtin.zeroCells (Value.int .u64 0).cells (grownCap w (n + k) cap 52 - (n + k))) 52
    refine dg_mid [] ((Builtin.zeroCells (Value.int .u64 0).cells (grownCap w (n + k) cap 52 - (n + k))).toList) _ (t := 52) (hnew.cast ?_) rfl (hx.append (Dok.zeros k)) _ (by rw [List.length_append, hxl, List.length_replicate])
    rw [hzr, zero_cells, List.nil_append]
    simp
end Go.Proofs.YtcghnkdfhiancaaDoor
