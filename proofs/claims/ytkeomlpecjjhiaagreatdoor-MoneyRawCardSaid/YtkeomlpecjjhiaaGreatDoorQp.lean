/- Package ratio's fold over rational numbers, Sum. -/
import Derived.Test.YtkeomlpecjjhiaaGreatDoorQn
namespace Go.Proofs.YtkeomlpecjjhiaaGreatDoor
open Go.RowKit
set_option maxRecDepth 100000
set_option maxHeartbeats 3200000 in
theorem C_multiple {a b l : List UInt8} {n : Nat} (hl : nb n = l) (ha : a.length ≤ 2000) (hb : b.length ≤ 2000) (h0 : 0 < bv a) (hra : Rt a) (hrb : Rt b) (hn : Nat.lcm (bv a) (bv b) = n) : Ans 96 #[S a, S b] (S l) := fun w => by
 obtain ⟨G, hG⟩ : ∃ G, Nat.gcd (bv b) (bv a) = G := ⟨_, rfl⟩
 have hG1 : Nat.gcd (bv a) (bv b) = G := by rw [Nat.gcd_comm]; exact hG
 have hG0 : 0 < G := by rw [← hG1]; exact Nat.gcd_pos_of_pos_left _ h0
 obtain ⟨g, eg, vg⟩ := has_nb G
 have bb := bv_b hb
 have ba := bv_b ha
 have lg := nbl' 2000 eg (by rw [← hG]; exact gcd_lt bb ba)
 obtain ⟨q, eq, vq⟩ := has_nb (bv b / G)
 have lq := nbl' 2000 eq (div_lt' bb)
 have H1 := Lib.hid (C_common (a := a) (b := b) eg (by omega) (by omega) hG1)
 have H2 := Lib.hid (C_quotient (a := b) (g := g) eq (by omega) (by omega) hrb (by rw [vg]; exact hG0) (by rw [vg]))
 have H3 := Lib.hid (C_product (a := a) (b := q) hl (by omega) (by omega) hra (eq ▸ rt_nb _) (by
  rw [vq, ← hn, Nat.lcm, hG1, Nat.mul_div_assoc]
  exact hG1 ▸ Nat.gcd_dvd_right _ _))
 have HC : Ch w.heap.size none1 w w := Ch.refl _ _ _
 have HC0 := Lib.hid HC
 clear HC hl hn hG hG1 hG0 eg vg bb ba lg eq vq lq h0 hra hrb ha hb
 go_enter Tryz.func96, Tryz.ntmps96
 go_wp2_with fail
 refine (H1.out _).mono ?_
 rintro e w1 ⟨rfl, hC⟩
 have HC1 := Lib.hid (HC0.out.step0 hC (Nat.le_refl _))
 clear hC HC0
 go_wp2_with fail
 refine (H2.out _).mono ?_
 rintro e w2 ⟨rfl, hC⟩
 have HC2 := Lib.hid (HC1.out.step0 hC (Nat.le_refl _))
 clear hC HC1
 go_wp2_with fail
 refine (H3.out _).mono ?_
 rintro e w3 ⟨rfl, hC⟩
 have HC3 := Lib.hid (HC2.out.step0 hC (Nat.le_refl _))
 clear hC HC2
 go_wp2_with fail
 go_ret
 exact ⟨rfl, HC3.out⟩
structure Vs (w : World) (p : Option Addr) (n : Nat) (l : List Value) : Prop where
 len : l.length = n
 nil : p = none → n = 0
 at' : ∀ a, p = some a → a.spot = none ∧ ∃ t pre post, Blk w a.block t (pre ++ l ++ post) ∧ pre.length = a.off
theorem Vs.blk {w : World} {g : Nat} {t : TypeId} {l : List Value} {n : Nat} (h : Blk w g t l) (hn : l.length = n) : Vs w (some ⟨g, 0, Option.none⟩) n l :=
 ⟨hn, fun e => by simp at e, fun a ha => by
  obtain rfl := Option.some.inj ha
  exact ⟨rfl, t, [], [], by simpa using h, rfl⟩⟩
theorem Vs.addr {w : World} {p : Option Addr} {n : Nat} {l : List Value} (h : Vs w p n l) (hn : 0 < n) : ∃ g o, p = some ⟨g, o, Option.none⟩ := by
 cases p with
 | none => have := h.nil rfl; omega
 | some a =>
  obtain ⟨h1, _⟩ := h.at' a rfl
  obtain ⟨g, o, s⟩ := a
  simp only at h1
  subst h1
  exact ⟨g, o, rfl⟩
theorem Vs.get {w : World} {g o n : Nat} {l : List Value} (h : Vs w (some ⟨g, o, Option.none⟩) n l) {i : Nat} {t : Value} (hi : l[i]? = some t) : w.cell? ⟨g, o + i, Option.none⟩ = some t := by
 obtain ⟨_, ty, pre, post, hb, hl⟩ := h.at' _ rfl
 simp only at hl
 have hlt : i < l.length := (List.getElem?_eq_some_iff.1 hi).1
 rw [hb.cell, List.append_assoc, List.getElem?_append_right (by omega), List.getElem?_append_left (by omega), show o + i - pre.length = i by omega]
 exact hi
theorem Vs.chR {w w' : World} {R : Nat → Prop} {p : Option Addr} {n : Nat} {l : List Value} (h : Vs w p n l) (hC : Ch w.heap.size R w w') (hp : ∀ a, p = some a → ¬ R a.block) : Vs w' p n l :=
 ⟨h.len, h.nil, fun a ha => by
  obtain ⟨h1, t, pre, post, hb, hl⟩ := h.at' a ha
  exact ⟨h1, t, pre, post, hC.blk hb hb.lt (hp a ha), hl⟩⟩
theorem Vs.ch {w w' : World} {p : Option Addr} {n : Nat} {l : List Value} (h : Vs w p n l) (hC : Ch w.heap.size none1 w w') : Vs w' p n l := h.chR hC (fun _ _ q => q)
theorem Vs.take {w : World} {p : Option Addr} {n : Nat} {l : List Value} (h : Vs w p n l) (k : Nat) (hk : k ≤ n) : Vs w p k (l.take k) :=
 ⟨by rw [List.length_take, h.len]; omega, fun e => by have := h.nil e; omega, fun a ha => by
  obtain ⟨h1, t, pre, post, hb, hl⟩ := h.at' a ha
  refine ⟨h1, t, pre, l.drop k ++ post, ?_, hl⟩
  refine hb.cast ?_
  simp only [List.append_assoc]
  rw [← List.append_assoc (l.take k), List.take_append_drop]⟩
theorem Vs.drop {w : World} {g o n : Nat} {l : List Value} (h : Vs w (some ⟨g, o, Option.none⟩) n l) (k : Nat) (hk : k ≤ n) : Vs w (some ⟨g, o + k, Option.none⟩) (n - k) (l.drop k) :=
 ⟨by rw [List.length_drop, h.len], fun e => by simp at e, fun a ha => by
  obtain rfl := Option.some.inj ha
  obtain ⟨h1, t, pre, post, hb, hl⟩ := h.at' _ rfl
  simp only at hl hb
  refine ⟨rfl, t, pre ++ l.take k, post, ?_, ?_⟩
  ·refine hb.cast ?_
   simp only [List.append_assoc]
   rw [← List.append_assoc (l.take k), List.take_append_drop]
  ·rw [List.length_append, List.length_take, h.len, Nat.min_eq_left hk, hl]⟩
def lcms (l : List Nat) : Nat := l.foldr Nat.lcm 1
theorem lcms_append (l m : List Nat) : lcms (l ++ m) = Nat.lcm (lcms l) (lcms m) := by
 unfold lcms
 induction l with
 | nil => simp
 | cons a l ih => simp only [List.cons_append, List.foldr_cons]; rw [ih, Nat.lcm_assoc]
theorem lcms_pos (l : List Nat) (h : ∀ x ∈ l, 0 < x) : 0 < lcms l := by
 unfold lcms
 induction l with
 | nil => decide
 | cons a l ih => exact Nat.lcm_pos (h a (List.mem_cons_self ..)) (ih fun x hx => h x (List.mem_cons_of_mem _ hx))
theorem lcms_lt (K : Nat) (l : List Nat) (h : ∀ x ∈ l, 0 < x ∧ x < 256 ^ K) : lcms l ≤ 256 ^ (l.length * K) := by
 induction l with
 | nil => rw [show ([] : List Nat).length * K = 0 from by simp]; decide
 | cons a l ih =>
  have h1 := ih fun x hx => h x (List.mem_cons_of_mem _ hx)
  have h2 := h a (List.mem_cons_self ..)
  show Nat.lcm a (lcms l) ≤ _
  have h3 : Nat.lcm a (lcms l) ≤ a * lcms l := Nat.div_le_self _ _
  rw [List.length_cons, Nat.add_mul, Nat.one_mul, Nat.add_comm, Nat.pow_add]
  exact Nat.le_trans h3 (Nat.mul_le_mul (Nat.le_of_lt h2.2) h1)
abbrev FM : Value := .func (.func 96) #[] #[]
set_option maxHeartbeats 3200000 in
theorem fold_nat (K : Nat) : ∀ (n : Nat) (w : World) (p : Option Addr) (cap : Nat) (l : List Nat), Vs w p n (l.map fun x => S (nb x)) → n ≤ cap → n * K ≤ 1000 → n ≤ 1000 → (∀ x ∈ l, 0 < x ∧ x < 256 ^ K) →
  Calls Tryz.prog 93 #[.slice p n cap, S [1], FM] w (Yld w (S (nb (lcms l)))) := by
 intro n
 induction n using Nat.strongRecOn with
 | _ n ih =>
  intro w p cap l hv hcap hK hn hl
  have hlen : l.length = n := by rw [← hv.len, List.length_map]
  have HV := Lib.hid hv
  have HL := Lib.hid hlen
  have HX := Lib.hid hl
  clear hv hlen hl
  rcases Nat.lt_or_ge n 2 with h2 | h2
  ·rcases Nat.lt_or_ge n 1 with h1 | h1
   ·obtain rfl : n = 0 := by omega
    obtain rfl : l = [] := List.eq_nil_of_length_eq_zero HL.out
    clear ih
    rw [show nb (lcms []) = [1] from nb_one]
    go_enter Tryz.func93, Tryz.ntmps93
    go_wp2_with fail
    go_ret
    exact ⟨rfl, Ch.refl _ _ _⟩
   ·obtain rfl : n = 1 := by omega
    obtain ⟨x, rfl⟩ : ∃ x, l = [x] := by
     have := HL.out
     match l, this with
     | [x], _ => exact ⟨x, rfl⟩
    obtain ⟨g, o, rfl⟩ := HV.out.addr (by omega)
    have c0 : w.cell? ⟨g, o, none⟩ = some (S (nb x)) := HV.out.get (i := 0) rfl
    clear ih
    rw [show lcms [x] = x from by unfold lcms; simp]
    obtain ⟨b, hb⟩ : ∃ b, nb x = b := ⟨_, rfl⟩
    rw [hb] at c0 ⊢
    go_enter Tryz.func93, Tryz.ntmps93
    go_wp2_with fail
    go_ret
    exact ⟨rfl, Ch.refl _ _ _⟩
  ·obtain ⟨g, o, rfl⟩ := HV.out.addr (by omega)
   have n1 : ¬ (n : Int) = 0 := by omega
   have n2 : ¬ (n : Int) = 1 := by omega
   obtain ⟨h, hh⟩ : ∃ h, n / 2 = h := ⟨_, rfl⟩
   have d0 : (n : Int) / 2 = (h : Int) := by omega
   have d1 : (h : Int) ≤ (n : Int) := by omega
   have d2 : (h : Int) ≤ (cap : Int) := by omega
   have d3 : (n : Int) ≤ (cap : Int) := by omega
   have k1 : h * K ≤ n * K := Nat.mul_le_mul_right _ (by omega)
   have k2 : (n - h) * K ≤ n * K := Nat.mul_le_mul_right _ (by omega)
   have t1 : ∀ x ∈ l.take h, 0 < x ∧ x < 256 ^ K := fun x hx => HX.out x (List.mem_of_mem_take hx)
   have t2 : ∀ x ∈ l.drop h, 0 < x ∧ x < 256 ^ K := fun x hx => HX.out x (List.mem_of_mem_drop hx)
   have hm1 := HV.out.take h (by omega)
   have hm2 := HV.out.drop h (by omega)
   rw [← List.map_take] at hm1
   rw [← List.map_drop] at hm2
   have i1 := fun W (hC : Ch w.heap.size none1 w W) => ih h (by omega) W (some ⟨g, o, none⟩) cap (l.take h) (hm1.ch hC) (by omega) (by omega) (by omega) t1
   have i2 := fun W (hC : Ch w.heap.size none1 w W) => ih (n - h) (by omega) W (some ⟨g, o + h, none⟩) (cap - h) (l.drop h) (hm2.ch hC) (by omega) (by omega) (by omega) t2
   have q1 := lcms_lt K _ t1
   have q2 := lcms_lt K _ t2
   have p1 := lcms_pos _ fun x hx => (t1 x hx).1
   have p2 := lcms_pos _ fun x hx => (t2 x hx).1
   obtain ⟨x, ex, vx⟩ := has_nb (lcms (l.take h))
   obtain ⟨y, ey, vy⟩ := has_nb (lcms (l.drop h))
   obtain ⟨z, ez, vz⟩ := has_nb (lcms l)
   obtain ⟨M, hM⟩ : ∃ M, M = 1001 := ⟨_, rfl⟩
   have lx := nbl' M ex (Nat.lt_of_le_of_lt q1 (Nat.pow_lt_pow_right (by decide) (by rw [List.length_take, HL.out, Nat.min_eq_left (by omega)]; omega)))
   have ly := nbl' M ey (Nat.lt_of_le_of_lt q2 (Nat.pow_lt_pow_right (by decide) (by rw [List.length_drop, HL.out]; omega)))
   have i3 := C_multiple (a := x) (b := y) ez (by omega) (by omega) (by omega) (ex ▸ rt_nb _) (ey ▸ rt_nb _) (by rw [vx, vy, ← lcms_append, List.take_append_drop])
   rw [ex] at i1
   rw [ey] at i2
   rw [ez]
   have H1 := Lib.hid i1
   have H2 := Lib.hid i2
   have H3 := Lib.hid i3
   have d4 : ¬ cap = h := by omega
   have HC := Lib.hid (Ch.refl w.heap.size none1 w).drew
   clear ih i1 i2 i3 q1 q2 p1 p2 ex vx ey vy ez vz lx ly hM M t1 t2 hm1 hm2 k1 k2 hK HX
   go_enter Tryz.func93, Tryz.ntmps93
   go_wp2_with fail
   go_region_held3 (fun _ => True)
    (exact trivial)
    (first
     | (go_at_call 93; with_reducible refine (H1.out _ HC.out).mono ?_; rintro e wq ⟨rfl, hCq⟩; have HC2 := Lib.hid (HC.out.step0 hCq (Nat.le_refl _)); clear hCq HC; have HC := HC2; clear HC2)
     | (go_at_call 93; with_reducible refine (H2.out _ HC.out).mono ?_; rintro e wq ⟨rfl, hCq⟩; have HC2 := Lib.hid (HC.out.step0 hCq (Nat.le_refl _)); clear hCq HC; have HC := HC2; clear HC2)
     | (go_at_call 96; with_reducible refine (H3.out _).mono ?_; rintro e wq ⟨rfl, hCq⟩; have HC2 := Lib.hid (HC.out.step0 hCq (Nat.le_refl _)); clear hCq HC; have HC := HC2; clear HC2))
   go_wp2_with fail
   go_ret
   exact ⟨rfl, HC.out⟩
def rsum (l : List Rat) : Rat := l.foldr (· + ·) 0
theorem Szq.rof {t : T3} {K : Nat} (hK : 1 ≤ K) (h : t.2.1.length ≤ K ∧ t.2.2.length ≤ K) : Szq (rof t) K := Szq.of_len h.1 h.2 hK
end Go.Proofs.YtkeomlpecjjhiaaGreatDoor
