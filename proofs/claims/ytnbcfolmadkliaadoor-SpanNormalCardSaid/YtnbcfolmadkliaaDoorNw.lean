/- Words for memory: a block that holds a list of values, a world in which only some blocks have turned, slices of digits. -/
import Derived.Test.YtnbcfolmadkliaaDoorRows
import Derived.Test.YtnbcfolmadkliaaDoorNm
import Derived.WalkKit
import Derived.WalkSpells
import Derived.WalkLawsBesides
import Derived.Lib.Hide
import Derived.Deep.Draws
import Derived.Laws.BytesArg
namespace Go.Proofs.YtnbcfolmadkliaaDoor
open Go.RowKit
abbrev S (l : List UInt8) : Value := .string ⟨l.toArray⟩
abbrev U (n : Nat) : Value := .int .u64 (n : Int)
abbrev Y (b : UInt8) : Value := .int .u8 (b.toNat : Int)
def strLen : Value → Nat | .string s => s.size | _ => 0
theorem ret_S {l l' : List UInt8} (h : l = l') : Ending.returned (S l) = .returned (S l') := by rw [h]
theorem ret_int {k : IntKind} {a b : Int} (h : a = b) : Ending.returned (.int k a) = .returned (.int k b) := by rw [h]
theorem ret_bool {a b : Bool} (h : a = b) : Ending.returned (.bool a) = .returned (.bool b) := by rw [h]
theorem ret_nat {k : IntKind} {a b : Nat} (h : a = b) : Ending.returned (.int k a) = .returned (.int k b) := by rw [h]

/-- Block g holds these values, and none of them is frozen. -/
def Blk (w : World) (g : Nat) (t : TypeId) (cs : List Value) : Prop := w.heap[g]? = some (.cells cs.toArray t (0, 0))
theorem Blk.lt {w : World} {g : Nat} {t : TypeId} {cs : List Value} (h : Blk w g t cs) : g < w.heap.size := (Array.getElem?_eq_some_iff.1 h).1
theorem Blk.cell {w : World} {g : Nat} {t : TypeId} {cs : List Value} (h : Blk w g t cs) (j : Nat) : w.cell? ⟨g, j, none⟩ = cs[j]? := by
  unfold Blk at h
  simp [World.cell?, h]
theorem Blk.frozen {w : World} {g : Nat} {t : TypeId} {cs : List Value} (h : Blk w g t cs) (j : Nat) : w.frozen? ⟨g, j, none⟩ = false := by
  unfold Blk at h
  simp [World.frozen?, h]
theorem Blk.drew {w : World} {g : Nat} {t : TypeId} {cs : List Value} (h : Blk w g t cs) : Blk w.drew g t cs := h
theorem Blk.drewN {w : World} {g : Nat} {t : TypeId} {cs : List Value} (h : Blk w g t cs) (n : Nat) : Blk (w.drewN n) g t cs := h
theorem Blk.alloc {w : World} {g : Nat} {t : TypeId} {cs : List Value} (h : Blk w g t cs) (o : Obj) : Blk (w.alloc o) g t cs := by
  have := h.lt
  unfold Blk at h ⊢
  rw [Below.heap_alloc _ _ _ this]; exact h
theorem Blk.new (w : World) (a : Array Value) (t : TypeId) : Blk (w.alloc (.cells a t (0, 0))) w.heap.size t a.toList := by
  unfold Blk
  show (w.heap.push _)[w.heap.size]? = _
  simp
theorem Blk.set {w : World} {g : Nat} {t : TypeId} {cs : List Value} (h : Blk w g t cs) (j : Nat) (v : Value) : Blk (w.setCell ⟨g, j, none⟩ v) g t (cs.set j v) := by
  unfold Blk at h ⊢
  simp [World.setCell, Array.getElem?_modify, h]
theorem Blk.set_other {w : World} {g g' : Nat} {t : TypeId} {cs : List Value} (h : Blk w g t cs) (hne : g ≠ g') (j : Nat) (v : Value) : Blk (w.setCell ⟨g', j, none⟩ v) g t cs := by
  unfold Blk at h ⊢
  rw [Below.heap_setCell _ _ _ _ hne]; exact h
theorem Blk.setRow {w : World} {g : Nat} {t : TypeId} {cs : List Value} (h : Blk w g t cs) (ds : List Value) : Blk (w.setRow g ds.toArray) g t ds :=
  setRow_heap w g cs.toArray ds.toArray t (0, 0) h
theorem Blk.setRow_other {w : World} {g g' : Nat} {t : TypeId} {cs : List Value} (h : Blk w g t cs) (hne : g ≠ g') (ds : Array Value) : Blk (w.setRow g' ds) g t cs := by
  unfold Blk at h ⊢
  rw [Go.setRow_other w g' g _ (by omega)]; exact h
theorem Blk.cast {w : World} {g : Nat} {t : TypeId} {cs ds : List Value} (h : Blk w g t cs) (e : cs = ds) : Blk w g t ds := e ▸ h

/-- Below block B only the blocks of R may have turned; no block has gone. -/
structure Ch (B : Nat) (R : Nat → Prop) (w w' : World) : Prop where
  os : w'.os = w.os
  tape : w'.tape = w.tape
  output : w'.output = w.output
  size : w.heap.size ≤ w'.heap.size
  block : ∀ k, k < B → ¬ R k → w'.heap[k]? = w.heap[k]?
def none1 : Nat → Prop := fun _ => False
theorem Ch.refl (B : Nat) (R : Nat → Prop) (w : World) : Ch B R w w := ⟨rfl, rfl, rfl, Nat.le_refl _, fun _ _ _ => rfl⟩
theorem Ch.trans {B : Nat} {R : Nat → Prop} {a b c : World} (h : Ch B R a b) (k : Ch B R b c) : Ch B R a c :=
  ⟨k.os.trans h.os, k.tape.trans h.tape, k.output.trans h.output, Nat.le_trans h.size k.size, fun i hi hr => (k.block i hi hr).trans (h.block i hi hr)⟩
theorem Ch.mono {B B' : Nat} {R R' : Nat → Prop} {a b : World} (h : Ch B R a b) (hB : B' ≤ B) (hR : ∀ k, k < B' → R k → R' k) : Ch B' R' a b :=
  ⟨h.os, h.tape, h.output, h.size, fun i hi hr => h.block i (Nat.lt_of_lt_of_le hi hB) fun q => hr (hR i hi q)⟩
/-- One more call: of what lay there when it began it turned only what R allows. -/
theorem Ch.step {B : Nat} {R R' : Nat → Prop} {a b c : World} (h : Ch B R a b) (k : Ch b.heap.size R' b c) (hB : B ≤ a.heap.size) (hR : ∀ k, k < B → R' k → R k) : Ch B R a c :=
  h.trans (k.mono (Nat.le_trans hB h.size) hR)
theorem Ch.step0 {B : Nat} {R : Nat → Prop} {a b c : World} (h : Ch B R a b) (k : Ch b.heap.size none1 b c) (hB : B ≤ a.heap.size) : Ch B R a c :=
  h.step k hB (fun _ _ q => q.elim)
theorem Ch.drew {B : Nat} {R : Nat → Prop} {a b : World} (h : Ch B R a b) : Ch B R a b.drew := ⟨h.os, h.tape, h.output, h.size, h.block⟩
theorem Ch.drewN {B : Nat} {R : Nat → Prop} {a b : World} (h : Ch B R a b) (n : Nat) : Ch B R a (b.drewN n) := ⟨h.os, h.tape, h.output, h.size, h.block⟩
theorem Ch.alloc {B : Nat} {R : Nat → Prop} {a b : World} (h : Ch B R a b) (hB : B ≤ b.heap.size) (o : Obj) : Ch B R a (b.alloc o) :=
  h.trans ⟨rfl, rfl, rfl, by simp, fun k hk _ => Below.heap_alloc _ _ _ (by omega)⟩
theorem Ch.setCell {B : Nat} {R : Nat → Prop} {a b : World} (h : Ch B R a b) {p : Addr} (hp : B ≤ p.block ∨ R p.block) (u : Value) : Ch B R a (b.setCell p u) :=
  h.trans ⟨rfl, rfl, rfl, by simp [World.setCell], fun k hk hr => Below.heap_setCell _ _ _ _ (fun e => by rcases hp with q | q; omega; exact hr (e ▸ q))⟩
theorem Ch.setRow {B : Nat} {R : Nat → Prop} {a b : World} (h : Ch B R a b) {g : Nat} (hp : B ≤ g ∨ R g) (u : Array Value) : Ch B R a (b.setRow g u) :=
  h.trans ⟨rfl, rfl, rfl, by simp [World.setRow], fun k hk hr => Go.setRow_other b g k u (fun e => by rcases hp with q | q; omega; exact hr (e ▸ q))⟩
theorem Ch.blk {B : Nat} {R : Nat → Prop} {w w' : World} (h : Ch B R w w') {g : Nat} {t : TypeId} {cs : List Value} (hb : Blk w g t cs) (hg : g < B) (hr : ¬ R g) : Blk w' g t cs := by
  unfold Blk at hb ⊢
  rw [h.block g hg hr]; exact hb
theorem Ch.below {B : Nat} {w w' : World} (h : Ch B none1 w w') : Below B w w' := ⟨h.os, h.tape, h.output, h.size, fun k hk => h.block k hk (fun q => q)⟩
theorem Ch.of_below {B : Nat} {R : Nat → Prop} {w w' : World} (h : Below B w w') : Ch B R w w' := ⟨h.os, h.tape, h.output, h.size, fun k hk _ => h.block k hk⟩
theorem Ch.cell {B : Nat} {R : Nat → Prop} {w w' : World} (h : Ch B R w w') {p : Addr} (hp : p.block < B) (hr : ¬ R p.block) : w'.cell? p = w.cell? p := World.cell?_of_block (w := w) (h.block p.block hp hr)
theorem Ch.frozen {B : Nat} {R : Nat → Prop} {w w' : World} (h : Ch B R w w') {p : Addr} (hp : p.block < B) (hr : ¬ R p.block) : w'.frozen? p = w.frozen? p := World.frozen?_of_block (w := w) (h.block p.block hp hr)

/-- A slice of digits as it is read: nil, or cells of a block. -/
structure Dg (w : World) (p : Option Addr) (n : Nat) (xs : List Nat) : Prop where
  len : xs.length = n
  lt : ∀ x ∈ xs, x < 18446744073709551616
  nil : p = none → n = 0
  at' : ∀ a, p = some a → a.spot = none ∧ ∃ t pre post, Blk w a.block t (pre ++ xs.map U ++ post) ∧ pre.length = a.off
theorem Dg.get {w : World} {g o n : Nat} {xs : List Nat} (h : Dg w (some ⟨g, o, none⟩) n xs) (i : Nat) (hi : i < n) : w.cell? ⟨g, o + i, none⟩ = some (U (xs[i]'(by rw [h.len]; exact hi))) := by
  obtain ⟨_, t, pre, post, hb, hl⟩ := h.at' _ rfl
  rw [hb.cell]
  simp only at hl
  have hx : i < xs.length := by rw [h.len]; exact hi
  rw [List.append_assoc, List.getElem?_append_right (by omega), List.getElem?_append_left (by simp; omega)]
  simp [hl, hx]
theorem Dg.addr {w : World} {p : Option Addr} {n : Nat} {xs : List Nat} (h : Dg w p n xs) (hn : 0 < n) : ∃ g o, p = some ⟨g, o, none⟩ := by
  cases p with
  | none => have := h.nil rfl; omega
  | some a =>
    obtain ⟨h1, _⟩ := h.at' a rfl
    obtain ⟨g, o, s⟩ := a
    simp only at h1
    subst h1
    exact ⟨g, o, rfl⟩
theorem Dg.ch {B : Nat} {R : Nat → Prop} {w w' : World} (h : Ch B R w w') {p : Option Addr} {n : Nat} {xs : List Nat} (hd : Dg w p n xs) (hp : ∀ a, p = some a → a.block < B ∧ ¬ R a.block) : Dg w' p n xs :=
  ⟨hd.len, hd.lt, hd.nil, fun a ha => by
    obtain ⟨h1, t, pre, post, hb, hl⟩ := hd.at' a ha
    exact ⟨h1, t, pre, post, h.blk hb (hp a ha).1 (hp a ha).2, hl⟩⟩
theorem Dg.lt_size {w : World} {p : Option Addr} {n : Nat} {xs : List Nat} (hd : Dg w p n xs) : ∀ a, p = some a → a.block < w.heap.size := fun a ha => by
  obtain ⟨_, t, pre, post, hb, _⟩ := hd.at' a ha
  exact hb.lt

section
variable {P : Program}
theorem plain_add (g o j : Nat) : (⟨g, o, none⟩ : Addr).add j = ⟨g, o + j, none⟩ := by unfold Addr.add; split <;> simp_all
theorem one_int (k : IntKind) (n : Int) : (Value.int k n).oneCell' = true := rfl
theorem Blk.adds {w : World} {g : Nat} {t : TypeId} {cs : List Value} (h : Blk w g t cs) (j : Nat) (u : Value) (hj : cs[j]? = some u) : w.cell? ((⟨g, 0, none⟩ : Addr).add j) = some u := by
  rw [plain_add, Nat.zero_add, h.cell, hj]
/-- append within the capacity, into whatever block. -/
theorem run_append_blk (w : World) (t ty e : TypeId) (i : TypeInfo) (ht : P.underlying t = some (.slice e)) (hi : P.info? e = some i) (hs : i.size = 1)
    (g n cap : Nat) (tag : TypeId) (cs : List Value) (hB : Blk w g tag cs)
    (a : Addr) (m c : Nat) (news : List Value) (hl : news.length = m) (hnews : ∀ j u, news[j]? = some u → w.cell? (a.add j) = some u) (h1 : ∀ u ∈ news, u.oneCell' = true)
    (hroom : n + m ≤ cap) (hfit : n + m ≤ cs.length) :
    (Builtin.append_ #[t, t] ty #[.slice (some ⟨g, 0, none⟩) n cap, .slice (some a) m c]).run P w =
      .ok (.slice (some ⟨g, 0, none⟩) (n + m) cap) (w.setRow g (cs.take n ++ news ++ cs.drop (n + m)).toArray) := by
  have hf := run_firstCells_some (P := P) w i.size m a m c news (by rw [hl, hs, Nat.mul_one]) hnews
  have hst := run_storeCells_at P g n tag news 0 cs.toArray w hB (by simp; omega) h1
  simp only [Nat.add_zero] at hst
  rw [hs] at hf
  rw [hl] at hst
  simp [Builtin.append_, run_underlying ht, sizeOf, typeInfo, hi, Builtin.lenOf, hroom, hf, Addr.add_lit, hst, hs, List.append_assoc]
theorem wpList_append_blk (w : World) {ops : Array Oper} {rest : List Oper} {o : Oper} {a : Act} {Q : Exit → Act → World → Prop}
    (hg : o.guard = none) (s x : Operand) (t : TypeId) (hop : o.op = Op.call { callee := Callee.builtin Builtin.append, args := #[s, x], argTypes := #[t, t] })
    (e : TypeId) (i : TypeInfo) (h1 : P.underlying t = some (.slice e)) (h2 : P.info? e = some i) (h4 : i.size = 1)
    (g k cap : Nat) (tag : TypeId) (cs : List Value) (hs : a.eval s = .slice (some ⟨g, 0, none⟩) k cap) (hB : Blk w g tag cs) (ad : Addr) (m c : Nat) (news : List Value) (hx : a.eval x = .slice (some ad) m c) (hn : news.length = m)
    (hc : ∀ j u, news[j]? = some u → w.cell? (ad.add j) = some u) (h1c : ∀ u ∈ news, u.oneCell' = true) (b1 : k + m ≤ cap) (b2 : k + m ≤ cs.length)
    (hK : ∀ w', Blk w' g tag (cs.take k ++ news ++ cs.drop (k + m)) → Ch w.heap.size (· = g) w w' → wpList P ops Q rest (a.put o.dst (.slice (some ⟨g, 0, none⟩) (k + m) cap)) w') :
    wpList P ops Q (o :: rest) a w := by
  refine wpList_plain hg fun K hK' => ?_
  have hrun := run_append_blk (P := P) w t o.type e i h1 h2 h4 g k cap tag cs hB ad m c news hn hc h1c b1 b2
  unfold Oper.wp
  simp [execOp, hop, resolve, invoke, builtin, hs, hx, hrun, Result.andThen]
  exact hK' _ _ (hK _ (by rw [← List.append_assoc]; exact hB.setRow _) (Ch.setRow (R := (· = g)) (Ch.refl w.heap.size _ w) (.inr rfl) _))
theorem Blk.of_own {w : World} {base g n cap : Nat} {e : TypeId} {xs : List Value} (h : w.ownsRow base e 1 (.slice (some ⟨g, 0, none⟩) n cap) n xs) :
    ∃ cs, Blk w g e cs ∧ cs.length = cap ∧ cs.take n = xs ∧ base ≤ g := by
  obtain ⟨h1, h2⟩ := h
  rcases h2 with ⟨q, _⟩ | ⟨g', cap', cur, hv, hb, hg, hn, hm, hs, ht⟩
  · simp at q
  · simp only [Value.slice.injEq, Option.some.injEq, Addr.mk.injEq, and_true, true_and] at hv
    obtain ⟨rfl, rfl⟩ := hv
    refine ⟨cur.toList, ?_, by simpa using hs, by simpa using ht, hb⟩
    unfold Blk
    simpa using hg
theorem Ch.of_grown {w w' : World} (h : w.grownBy w' none) : Ch w.heap.size none1 w w' :=
  ⟨h.os, h.tape, h.output, h.size, fun k hk _ => h.block k hk (by simp)⟩
theorem madeCells_int (k : IntKind) (z : Int) (n : Nat) : (madeCells (Value.int k z).cells (n * 1)).toList = List.replicate n (Value.int k z) := by
  rw [Nat.mul_one]
  refine List.eq_replicate_iff.2 ⟨by simp [madeCells], fun b hb => ?_⟩
  simp only [madeCells, Value.cells, Array.toList_map, List.mem_map] at hb
  obtain ⟨j, _, rfl⟩ := hb
  have : j % (#[Value.int k z] : Array Value).size = 0 := Nat.mod_one j
  rw [this]
  rfl
theorem wpList_make_blk (w : World) {ops : Array Oper} {rest : List Oper} {o : Oper} {a : Act} {Q : Exit → Act → World → Prop}
    (hg : o.guard = none) (l c : Operand) (t : TypeId) (hop : o.op = Op.makeSlice t l c)
    (e : TypeId) (i : TypeInfo) (k : IntKind) (z : Int) (h1 : P.underlying t = some (.slice e)) (h2 : P.info? e = some i) (h3 : i.zero = some (.int k z)) (h4 : i.size = 1)
    (kl kc : IntKind) (L C : Int) (n : Nat) (hl : a.eval l = .int kl L) (hc : a.eval c = .int kc C) (hL : L = (n : Int)) (hC : C = (n : Int)) (b2 : i.bytes * n ≤ 281474976710656) (b3 : n ≤ maxLen)
    (hK : ∀ w', Blk w' w.heap.size e (List.replicate n (.int k z)) → Ch w.heap.size none1 w w' → wpList P ops Q rest (a.put o.dst (.slice (some ⟨w.heap.size, 0, none⟩) n n)) w') :
    wpList P ops Q (o :: rest) a w :=
  wpList_make_full w hg l c t hop w.heap.size e i _ 1 h1 h2 h3 h4 kl kc L C n hl hc hL hC b2 b3 (Nat.le_refl _) fun w' ho hgr => by
    obtain ⟨cs, hb, hlen, htk, _⟩ := Blk.of_own ho
    rw [madeCells_int, List.take_of_length_le (by omega)] at htk
    exact hK w' (hb.cast htk) (Ch.of_grown hgr)
theorem wpList_make_cap (w : World) {ops : Array Oper} {rest : List Oper} {o : Oper} {a : Act} {Q : Exit → Act → World → Prop}
    (hg : o.guard = none) (l c : Operand) (t : TypeId) (hop : o.op = Op.makeSlice t l c)
    (e : TypeId) (i : TypeInfo) (k : IntKind) (z : Int) (h1 : P.underlying t = some (.slice e)) (h2 : P.info? e = some i) (h3 : i.zero = some (.int k z)) (h4 : i.size = 1)
    (kl kc : IntKind) (C : Int) (n : Nat) (hl : a.eval l = .int kl 0) (hc : a.eval c = .int kc C) (hC : C = (n : Int)) (b2 : i.bytes * n ≤ 281474976710656) (b3 : n ≤ maxLen)
    (hK : ∀ w' cs, Blk w' w.heap.size e cs → cs.length = n → Ch w.heap.size none1 w w' → wpList P ops Q rest (a.put o.dst (.slice (some ⟨w.heap.size, 0, none⟩) 0 n)) w') :
    wpList P ops Q (o :: rest) a w :=
  wpList_make_own w hg l c t hop w.heap.size e i _ 1 h1 h2 h3 h4 kl kc C n hl hc hC b2 b3 (Nat.le_refl _) fun w' ho hgr => by
    obtain ⟨cs, hb, hlen, htk, _⟩ := Blk.of_own ho
    exact hK w' cs hb hlen (Ch.of_grown hgr)
theorem strOfNums_bytes (l : List UInt8) : strOfNums (l.map fun b => (b.toNat : Int)) = ⟨l.toArray⟩ := by
  unfold strOfNums
  congr 1
  simp [Function.comp_def]
/-- []byte to a string. -/
theorem run_convert_blk (w : World) (src dst e : TypeId) (hs : P.underlying src = some (.slice e)) (he : P.underlying e = some (.int .u8)) (hd : P.underlying dst = some .string)
    (g off n cap : Nat) (l : List UInt8) (tag : TypeId) (cs : List Value) (hB : Blk w g tag cs) (hl : l.length = n) (h : ∀ i (hi : i < l.length), cs[off + i]? = some (Y l[i])) :
    (convert src dst (.slice (some ⟨g, off, none⟩) n cap)).run P w = .ok (S l) w := by
  rw [run_convert_bytes_arg (P := P) w src e hs he g off n cap (l.map fun b => (b.toNat : Int)) (by simpa using hl) (fun i hi => by
    rw [hB.cell, h i (by omega)]
    simp [List.getD, hl, hi]) dst hd, strOfNums_bytes]
end
end Go.Proofs.YtnbcfolmadkliaaDoor
