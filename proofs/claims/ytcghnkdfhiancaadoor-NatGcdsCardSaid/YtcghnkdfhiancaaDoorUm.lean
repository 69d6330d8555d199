/- Mathematics of long arithmetic base 2^24. -/
import Derived.Test.YtcghnkdfhiancaaDoorTa
import Derived.Test.YtcghnkdfhiancaaDoorRb
namespace Go.Proofs.YtcghnkdfhiancaaDoor
open Go.RowKit
abbrev I (n : Nat) : Value := .int .i64 (n : Int)
abbrev Own (w : World) (B : Nat) (e : TypeId) (v : Value) (xs : List Value) : Prop := w.ownsRow B e 1 v xs.length xs
theorem Own.nil (w : World) (B : Nat) (e : TypeId) : Own w B e (.slice none 0 0) [] := World.ownsRow_nil w B e 1
theorem Own.ch {w w' : World} {B : Nat} {e : TypeId} {v : Value} {xs : List Value} (h : Own w B e v xs) (hC : Ch w.heap.size none1 w w') : Own w' B e v xs := by
  refine ⟨h.1, ?_⟩
  rcases h.2 with hn | ⟨g, cap, cur, hv, hb, hg, hn, hm, hs, ht⟩
  · exact .inl hn
  · exact .inr ⟨g, cap, cur, hv, hb, (hC.block g (Array.getElem?_eq_some_iff.1 hg).1 (fun q => q)).trans hg, hn, hm, hs, ht⟩
theorem Ch.grown {w w' : World} {B : Nat} {e : TypeId} {v : Value} {xs : List Value} (hB : B ≤ w.heap.size) (ho : Own w B e v xs) (h : w.grownBy w' v.ownBlock) : Ch B none1 w w' :=
  ⟨h.os, h.tape, h.output, h.size, fun k hk _ => h.block k (by omega) (fun q => by have := (ho.lt k q.symm).1; omega)⟩
theorem Own.grow {w w' : World} {B : Nat} {e : TypeId} {v : Value} {xs : List Value} (ho : Own w B e v xs) (h : w.grownBy w' v.ownBlock) (hB : B ≤ w.heap.size) : Ch B none1 w w' := Ch.grown hB ho h
section
variable {P : Program}
/-- append to a slice of one's own, of cells that lie at an address. -/
theorem wpList_append_up (w : World) {ops : Array Oper} {rest : List Oper} {o : Oper} {a : Act} {Q : Exit → Act → World → Prop} (hgd : o.guard = none) (s x : Operand) (t : TypeId)
    (ho : o.op = .call { callee := .builtin .append, args := #[s, x], argTypes := #[t, t] })
    (B : Nat) (e : TypeId) (i : TypeInfo) (k : IntKind) (z : Int) (bytes : Nat) (ht : P.underlying t = some (.slice e)) (hi : P.info? e = some i) (hz : i.zero = some (.int k z))
    (hsize : i.size = 1) (hby : i.bytes = bytes) (hb8 : bytes ≤ 8)
    (v : Value) (xs : List Value) (hs : a.eval s = v) (hown : Own w B e v xs)
    (ad : Addr) (m c : Nat) (news : List Value) (hx : a.eval x = .slice (some ad) m c) (hl : news.length = m) (hnews : ∀ j u, news[j]? = some u → w.cell? (ad.add j) = some u) (h1 : ∀ u ∈ news, u.oneCell' = true)
    (h40 : xs.length + m ≤ 1000000000000) (hbase : B ≤ w.heap.size)
    (h : ∀ v' w', Own w' B e v' (xs ++ news) → Ch B none1 w w' → wpList P ops Q rest (a.put o.dst v') w') : wpList P ops Q (o :: rest) a w :=
  wpList_append_own w hgd s x t ho B e i _ 1 bytes ht hi hz hsize hby rfl (by decide) v xs.length xs hs hown ad m c news hx (by rw [hl, Nat.mul_one]) hnews h1 (by unfold maxLen; omega)
    (by have := Nat.mul_le_mul h40 hb8; omega) hbase fun v' w' h2 h3 _ => h v' w' (by rw [Own, List.length_append, hl]; exact h2) (Ch.grown hbase hown h3)
end
/-- A slice of digits base 2^24 as it is read: nil, or cells of a block from its head on. -/
structure Di (w : World) (p : Option Addr) (n : Nat) (xs : List Nat) : Prop where
  len : xs.length = n
  lt : Eok xs
  nil : p = none → n = 0
  at' : ∀ a, p = some a → a.spot = none ∧ a.off = 0 ∧ ∃ t post, Blk w a.block t (xs.map I ++ post)
theorem Di.get {w : World} {g o n : Nat} {xs : List Nat} (h : Di w (some ⟨g, o, none⟩) n xs) (i : Nat) (hi : i < n) : w.cell? ⟨g, o + i, none⟩ = some (I (xs[i]'(by rw [h.len]; exact hi))) := by
  obtain ⟨_, h0, t, post, hb⟩ := h.at' _ rfl
  simp only at h0
  subst h0
  have hx : i < xs.length := by rw [h.len]; exact hi
  rw [Nat.zero_add, hb.cell, List.getElem?_append_left (by simpa using hx)]
  simp [hx]
theorem Di.get0 {w : World} {g n : Nat} {xs : List Nat} (h : Di w (some ⟨g, 0, none⟩) n xs) (i : Nat) (hi : i < n) : w.cell? ⟨g, i, none⟩ = some (I (xs[i]'(by rw [h.len]; exact hi))) := by
  have := h.get i hi
  rwa [Nat.zero_add] at this
theorem Di.addr {w : World} {p : Option Addr} {n : Nat} {xs : List Nat} (h : Di w p n xs) (hn : 0 < n) : ∃ g, p = some ⟨g, 0, none⟩ := by
  cases p with
  | none => have := h.nil rfl; omega
  | some a =>
    obtain ⟨h1, h2, _⟩ := h.at' a rfl
    obtain ⟨g, o, s⟩ := a
    simp only at h1 h2
    subst h1 h2
    exact ⟨g, rfl⟩
theorem Di.lt_size {w : World} {p : Option Addr} {n : Nat} {xs : List Nat} (hd : Di w p n xs) : ∀ a, p = some a → a.block < w.heap.size := fun a ha => by
  obtain ⟨_, _, t, post, hb⟩ := hd.at' a ha
  exact hb.lt
theorem Di.ch {B : Nat} {w w' : World} (h : Ch B none1 w w') {p : Option Addr} {n : Nat} {xs : List Nat} (hd : Di w p n xs) (hp : ∀ a, p = some a → a.block < B) : Di w' p n xs :=
  ⟨hd.len, hd.lt, hd.nil, fun a ha => by
    obtain ⟨h1, h2, t, post, hb⟩ := hd.at' a ha
    exact ⟨h1, h2, t, post, h.blk hb (hp a ha) (fun q => q)⟩⟩
theorem Di.on {w w' : World} {p : Option Addr} {n : Nat} {xs : List Nat} (hd : Di w p n xs) (h : Ch w.heap.size none1 w w') : Di w' p n xs := Di.ch h hd hd.lt_size
theorem Di.take {w : World} {p : Option Addr} {n : Nat} {xs : List Nat} (hd : Di w p n xs) (k : Nat) (hk : k ≤ n) : Di w p k (xs.take k) := by
  refine ⟨by rw [List.length_take, hd.len]; omega, hd.lt.take k, fun h => by have := hd.nil h; omega, fun a ha => ?_⟩
  obtain ⟨h1, h2, t, post, hb⟩ := hd.at' a ha
  exact ⟨h1, h2, t, (xs.drop k).map I ++ post, hb.cast (by rw [← List.append_assoc, ← List.map_append, List.take_append_drop])⟩
theorem Di.nil' (w : World) : Di w none 0 [] := ⟨rfl, Eok.nil, fun _ => rfl, fun _ h => by cases h⟩
/-- What was made by appending reads as its digits. -/
theorem Own.di {w : World} {B : Nat} {e : TypeId} {v : Value} {xs : List Nat} (h : Own w B e v (xs.map I)) (hx : Eok xs) : ∃ p cap, v = .slice p xs.length cap ∧ xs.length ≤ cap ∧ cap ≤ maxLen ∧ (p = none → cap = 0) ∧ Di w p xs.length xs ∧ ∀ a, p = some a → B ≤ a.block := by
  rcases h.2 with ⟨hv, hn⟩ | ⟨g, cap, cur, hv, hb, hg, hn, hm, hs, ht⟩
  · have hn' : xs = [] := by simpa using hn
    subst hn'
    exact ⟨none, 0, hv, Nat.le_refl _, by unfold maxLen; omega, fun _ => rfl, Di.nil' w, fun _ h => by cases h⟩
  · rw [List.length_map] at hv hn ht
    rw [Nat.mul_one] at ht
    refine ⟨_, cap, hv, hn, hm, (fun h => by cases h), ⟨rfl, hx, fun h => (by cases h), fun a ha => ?_⟩, fun a ha => ?_⟩
    · obtain rfl := Option.some.inj ha
      refine ⟨rfl, rfl, e, cur.toList.drop xs.length, ?_⟩
      rw [← ht, List.take_append_drop]
      unfold Blk
      simpa using hg
    · obtain rfl := Option.some.inj ha
      exact hb
theorem one_cell (w : World) (ad : Addr) (u : Value) (h : w.cell? ad = some u) (hs : ad.spot = none) : ∀ j x, [u][j]? = some x → w.cell? (ad.add j) = some x := by
  intro j x hj
  match j, hj with
  | 0, hj =>
    obtain ⟨g, o, s⟩ := ad
    simp only at hs
    subst hs
    rw [plain_add, Nat.add_zero, h]
    simpa using hj
theorem new_cell (w : World) (u : Value) (t : TypeId) : ∀ j x, [u][j]? = some x → (w.alloc (.cells #[u] t (0, 0))).cell? ((⟨w.heap.size, 0, none⟩ : Addr).add j) = some x := fun j x hj =>
  (Blk.new w #[u] t).adds j x hj
theorem one_one (k : IntKind) (n : Int) : ∀ u ∈ [Value.int k n], u.oneCell' = true := fun u hu => by
  obtain rfl := List.mem_singleton.1 hu
  rfl
theorem size_alloc_le {B : Nat} {w : World} (o : Obj) (h : B ≤ w.heap.size) : B ≤ (w.alloc o).heap.size := by
  rw [World.size_alloc]; omega
end Go.Proofs.YtcghnkdfhiancaaDoor
namespace Go.Proofs.YtcghnkdfhiancaaDoor
theorem ev_getD (xs : List Nat) (k : Nat) : ev (xs.take (k + 1)) = ev (xs.take k) + E24 ^ k * xs.getD k 0 := by
  by_cases h : k < xs.length
  · rw [ev_take_succ xs k h, List.getD_eq_getElem?_getD, List.getElem?_eq_getElem h]; rfl
  · rw [List.take_of_length_le (by omega), List.take_of_length_le (by omega), List.getD_eq_getElem?_getD, List.getElem?_eq_none (by omega)]; simp
theorem getD_lt (xs : List Nat) (h : Eok xs) (k : Nat) : xs.getD k 0 < E24 := by
  by_cases hk : k < xs.length
  · rw [List.getD_eq_getElem?_getD, List.getElem?_eq_getElem hk]; exact h.get k hk
  · rw [List.getD_eq_getElem?_getD, List.getElem?_eq_none (by omega)]; exact E24_pos
theorem put_step (zs : List Nat) (k s : Nat) (hz : zs.length = k) : ev (zs ++ [s % E24]) + E24 ^ (k + 1) * (s / E24) = ev zs + E24 ^ k * s := by
  rw [ev_snoc, hz, Nat.pow_succ, Nat.add_assoc, Nat.mul_assoc, ← Nat.mul_add, Nat.mod_add_div]
theorem add_put (zs : List Nat) (k c x y X Y : Nat) (hz : zs.length = k) (h : ev zs + E24 ^ k * c = X + Y) :
    ev (zs ++ [(c + x + y) % E24]) + E24 ^ (k + 1) * ((c + x + y) / E24) = (X + E24 ^ k * x) + (Y + E24 ^ k * y) := by
  rw [put_step zs k _ hz, Nat.mul_add, Nat.mul_add]; omega
theorem times_put (zs : List Nat) (k c x d X : Nat) (hz : zs.length = k) (h : ev zs + E24 ^ k * c = X * d) :
    ev (zs ++ [(x * d + c) % E24]) + E24 ^ (k + 1) * ((x * d + c) / E24) = (X + E24 ^ k * x) * d := by
  rw [put_step zs k _ hz, Nat.mul_add, Nat.add_mul, Nat.mul_assoc]; omega
theorem minus_put (zs : List Nat) (k b b2 x y z X Y : Nat) (hz : zs.length = k) (h : ev zs + Y = X + E24 ^ k * b) (h2 : z + y + b = x + E24 * b2) :
    ev (zs ++ [z]) + (Y + E24 ^ k * y) = (X + E24 ^ k * x) + E24 ^ (k + 1) * b2 := by
  rw [ev_snoc, hz, Nat.pow_succ, Nat.mul_assoc]
  have : E24 ^ k * (z + y + b) = E24 ^ k * (x + E24 * b2) := by rw [h2]
  rw [Nat.mul_add, Nat.mul_add, Nat.mul_add] at this
  omega
theorem ev_set (xs : List Nat) (p z : Nat) (hp : p < xs.length) : ev (xs.set p z) + E24 ^ p * xs[p] = ev xs + E24 ^ p * z := by
  have h1 := ev_take_drop xs p (by omega)
  have h2 := ev_take_drop (xs.set p z) p (by rw [List.length_set]; omega)
  rw [List.take_set_of_le (Nat.le_refl _), List.drop_set, if_neg (by omega), Nat.sub_self] at h2
  have h3 := List.drop_eq_getElem_cons hp
  rw [h3] at h1 h2
  rw [List.set_cons_zero, ev_cons] at h2
  rw [ev_cons] at h1
  rw [h1, h2]
  simp only [Nat.mul_add]
  omega
theorem mul_put (zs : List Nat) (i m j u v c s W : Nat) (hj : j < m) (hz : i + j < zs.length) (h : ev (zs.take (i + m)) + E24 ^ (i + j) * c = W) (hs : s = zs[i + j] + u * v + c) :
    ev ((zs.set (i + j) (s % E24)).take (i + m)) + E24 ^ (i + (j + 1)) * (s / E24) = W + E24 ^ i * (u * (E24 ^ j * v)) := by
  have hl : i + j < (zs.take (i + m)).length := by rw [List.length_take]; omega
  have h1 := ev_set (zs.take (i + m)) (i + j) (s % E24) hl
  rw [List.getElem_take] at h1
  rw [List.take_set, ← Nat.add_assoc, Nat.pow_succ, Nat.mul_assoc]
  have h3 : E24 ^ (i + j) * (s % E24 + E24 * (s / E24)) = E24 ^ (i + j) * (zs[i + j] + u * v + c) := by rw [Nat.mod_add_div, hs]
  rw [Nat.mul_add, Nat.mul_add, Nat.mul_add] at h3
  have h4 : E24 ^ i * (u * (E24 ^ j * v)) = E24 ^ (i + j) * (u * v) := by rw [Nat.pow_add]; simp only [Nat.mul_assoc, Nat.mul_left_comm]
  rw [h4]
  omega
theorem mul_end (zs : List Nat) (q c : Nat) (hq : q < zs.length) : ev ((zs.set q c).take (q + 1)) = ev (zs.take q) + E24 ^ q * c := by
  rw [ev_take_succ _ q (by rw [List.length_set]; exact hq), List.take_set_of_le (Nat.le_refl _), List.getElem_set_self]
theorem quo_put (A V u : Nat) (hV : 0 < V) : (u + E24 * A) / V = (u + E24 * (A % V)) / V + E24 * (A / V) ∧ (u + E24 * A) % V = (u + E24 * (A % V)) % V := by
  have h := Nat.mod_add_div A V
  have e : u + E24 * A = u + E24 * (A % V) + V * (E24 * (A / V)) := by
    rw [Nat.add_assoc, Nat.mul_left_comm V E24, ← Nat.mul_add, h]
  constructor
  · rw [e, Nat.add_mul_div_left _ _ hV]
  · rw [e, Nat.add_mul_mod_self_left]
theorem quo_digit (A V u : Nat) (hV : 0 < V) (hu : u < E24) : (u + E24 * (A % V)) / V < E24 := by
  rw [Nat.div_lt_iff_lt_mul hV]
  have h := Nat.mod_lt A hV
  have : E24 * (A % V + 1) ≤ E24 * V := Nat.mul_le_mul_left _ h
  rw [Nat.mul_add, Nat.mul_one] at this
  omega
end Go.Proofs.YtcghnkdfhiancaaDoor
