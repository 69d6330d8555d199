/- Sets of days as lists of spans: normal lists, the sweep over bounds, counts of days, terms. -/
namespace Go.Proofs.YtnbcfolmadkliaaDoor
namespace Spn
abbrev Sp := Int × Int
def rt (s : Sp) : Bool := decide (0 ≤ s.1) && (decide (s.1 < s.2) && decide (s.2 ≤ 3652059))
theorem rt_iff {s : Sp} : rt s = true ↔ 0 ≤ s.1 ∧ s.1 < s.2 ∧ s.2 ≤ 3652059 := by simp [rt]
def inn (s : Sp) (d : Int) : Bool := rt s && (decide (s.1 ≤ d) && decide (d < s.2))
theorem inn_iff {s : Sp} {d : Int} : inn s d = true ↔ rt s = true ∧ s.1 ≤ d ∧ d < s.2 := by simp [inn]
def has (l : List Sp) (d : Int) : Bool := l.any fun s => inn s d
theorem has_iff {l : List Sp} {d : Int} : has l d = true ↔ ∃ s, s ∈ l ∧ rt s = true ∧ s.1 ≤ d ∧ d < s.2 := by simp only [has, List.any_eq_true, inn_iff]
theorem has_not {l : List Sp} {d : Int} : has l d = false ↔ ∀ s, s ∈ l → rt s = true → s.1 ≤ d → s.2 ≤ d := by
  rw [← Bool.not_eq_true, has_iff]
  constructor
  · intro h s hs hr h1
    exact Int.not_lt.1 fun h2 => h ⟨s, hs, hr, h1, h2⟩
  · rintro h ⟨s, hs, hr, h1, h2⟩
    have := h s hs hr h1
    omega
theorem has_nil (d : Int) : has [] d = false := rfl
theorem has_cons (s : Sp) (l : List Sp) (d : Int) : has (s :: l) d = (inn s d || has l d) := rfl
theorem has_append (l m : List Sp) (d : Int) : has (l ++ m) d = (has l d || has m d) := by simp [has]
theorem has_dom {l : List Sp} {d : Int} (h : has l d = true) : 0 ≤ d ∧ d < 3652059 := by
  obtain ⟨s, _, hr, h1, h2⟩ := has_iff.1 h
  have := rt_iff.1 hr
  omega
theorem has_out {l : List Sp} {d : Int} (h : ¬ (0 ≤ d ∧ d < 3652059)) : has l d = false := by
  rcases hh : has l d
  · rfl
  · exact absurd (has_dom hh) h
def Nrm (l : List Sp) : Prop := (∀ s ∈ l, rt s = true) ∧ l.Pairwise fun a b => a.2 < b.1
theorem Nrm.nil : Nrm [] := ⟨by simp, .nil⟩
theorem nrm_cons {s : Sp} {l : List Sp} : Nrm (s :: l) ↔ rt s = true ∧ (∀ b ∈ l, s.2 < b.1) ∧ Nrm l := by
  simp only [Nrm, List.mem_cons, forall_eq_or_imp, List.pairwise_cons]
  constructor
  · rintro ⟨⟨a, b⟩, c, d⟩; exact ⟨a, c, b, d⟩
  · rintro ⟨a, c, b, d⟩; exact ⟨⟨a, b⟩, c, d⟩
theorem nrm_snoc {s : Sp} {l : List Sp} : Nrm (l ++ [s]) ↔ Nrm l ∧ rt s = true ∧ (∀ b ∈ l, b.2 < s.1) := by
  simp only [Nrm, List.mem_append, List.mem_singleton, List.pairwise_append]
  constructor
  · rintro ⟨a, b, _, c⟩
    exact ⟨⟨fun s hs => a s (.inl hs), b⟩, a s (.inr rfl), fun b hb => c b hb s rfl⟩
  · rintro ⟨⟨a, b⟩, c, d⟩
    refine ⟨?_, b, by simp, ?_⟩
    · rintro x (hx | rfl)
      · exact a x hx
      · exact c
    · rintro x hx y rfl
      exact d x hx
theorem Nrm.uniq {l m : List Sp} (hl : Nrm l) (hm : Nrm m) (h : ∀ d, has l d = has m d) : l = m := by
  induction l generalizing m with
  | nil =>
    cases m with
    | nil => rfl
    | cons c u =>
      obtain ⟨hr, _, _⟩ := nrm_cons.1 hm
      have := rt_iff.1 hr
      have h1 : has (c :: u) c.1 = true := has_iff.2 ⟨c, by simp, hr, by omega, by omega⟩
      rw [← h] at h1
      cases h1
  | cons a t ih =>
    obtain ⟨ra, la, na⟩ := nrm_cons.1 hl
    have qa := rt_iff.1 ra
    cases m with
    | nil =>
      have h1 : has (a :: t) a.1 = true := has_iff.2 ⟨a, by simp, ra, by omega, by omega⟩
      rw [h] at h1
      cases h1
    | cons c u =>
      obtain ⟨rc, lc, nc⟩ := nrm_cons.1 hm
      have qc := rt_iff.1 rc
      have first : ∀ {x : Sp} {l : List Sp} {d : Int}, (∀ b ∈ l, x.2 < b.1) → rt x = true → has (x :: l) d = true → x.1 ≤ d := by
        intro x l d hx hr hd
        obtain ⟨s, hs, _, h1, _⟩ := has_iff.1 hd
        rcases List.mem_cons.1 hs with rfl | hs
        · exact h1
        · have := hx s hs
          have := rt_iff.1 hr
          omega
      have h1 : has (a :: t) a.1 = true := has_iff.2 ⟨a, by simp, ra, by omega, by omega⟩
      have h2 : has (c :: u) c.1 = true := has_iff.2 ⟨c, by simp, rc, by omega, by omega⟩
      have h3 := first lc rc (by rw [← h]; exact h1)
      have h4 := first la ra (by rw [h]; exact h2)
      have notafter : ∀ {x : Sp} {l : List Sp}, (∀ b ∈ l, x.2 < b.1) → rt x = true → has (x :: l) x.2 = false := by
        intro x l hx hr
        refine has_not.2 fun s hs _ h1 => ?_
        rcases List.mem_cons.1 hs with rfl | hs
        · omega
        · have := hx s hs
          omega
      have h5 : ¬ a.2 < c.2 := fun hlt => by
        have e1 : has (c :: u) a.2 = true := has_iff.2 ⟨c, by simp, rc, by omega, by omega⟩
        rw [← h, notafter la ra] at e1
        cases e1
      have h6 : ¬ c.2 < a.2 := fun hlt => by
        have e1 : has (a :: t) c.2 = true := has_iff.2 ⟨a, by simp, ra, by omega, by omega⟩
        rw [h, notafter lc rc] at e1
        cases e1
      have e : a = c := Prod.ext (by omega) (by omega)
      subst e
      have hh : ∀ d, has t d = has u d := fun d => by
        have hd := h d
        rw [has_cons, has_cons] at hd
        rcases hi : inn a d
        · rw [hi] at hd
          simpa using hd
        · have hi' := inn_iff.1 hi
          have e1 : has t d = false := has_not.2 fun s hs _ hsd => by have := la s hs; omega
          have e2 : has u d = false := has_not.2 fun s hs _ hsd => by have := lc s hs; omega
          rw [e1, e2]
      rw [ih na nc hh]
theorem nrm_exists (p : Int → Bool) (n : Nat) (hn : (n : Int) ≤ 3652059) : ∃ l, Nrm l ∧ (∀ s ∈ l, s.2 ≤ (n : Int)) ∧ ∀ d, has l d = (p d && (decide (0 ≤ d) && decide (d < (n : Int)))) := by
  induction n with
  | zero =>
    refine ⟨[], Nrm.nil, by simp, fun d => ?_⟩
    rw [has_nil]
    have : (decide (0 ≤ d) && decide (d < ((0 : Nat) : Int))) = false := by simp
    rw [this]; simp
  | succ n ih =>
    obtain ⟨l, hl, hb, hh⟩ := ih (by omega)
    rcases hp : p n
    · refine ⟨l, hl, fun s hs => by have := hb s hs; omega, fun d => ?_⟩
      rw [hh]
      by_cases hd : d = n
      · subst hd; rw [hp]; rfl
      · rw [show decide (d < ((n + 1 : Nat) : Int)) = decide (d < (n : Int)) by rw [decide_eq_decide]; omega]
    · have key : ∀ (l' : List Sp) (a : Int), 0 ≤ a → a ≤ n → Nrm l' → (∀ s ∈ l', s.2 < a) → (∀ d, (has l' d || (decide (a ≤ d) && decide (d < (n : Int)))) = (p d && (decide (0 ≤ d) && decide (d < (n : Int))))) →
          ∃ l, Nrm l ∧ (∀ s ∈ l, s.2 ≤ ((n + 1 : Nat) : Int)) ∧ ∀ d, has l d = (p d && (decide (0 ≤ d) && decide (d < ((n + 1 : Nat) : Int)))) := by
        intro l' a ha0 han hl' hb' hh'
        have hr : rt (a, (n : Int) + 1) = true := rt_iff.2 ⟨ha0, by show a < (n : Int) + 1; omega, by show (n : Int) + 1 ≤ 3652059; omega⟩
        refine ⟨l' ++ [(a, (n : Int) + 1)], nrm_snoc.2 ⟨hl', hr, fun b hbm => hb' b hbm⟩, ?_, fun d => ?_⟩
        · intro s hs
          rcases List.mem_append.1 hs with hs | hs
          · have := hb' s hs; omega
          · rw [List.mem_singleton.1 hs]; show (n : Int) + 1 ≤ _; omega
        · have e1 : has [(a, (n : Int) + 1)] d = (decide (a ≤ d) && decide (d < (n : Int) + 1)) := by
            rw [has_cons, has_nil, Bool.or_false, inn, hr, Bool.true_and]
          rw [has_append, e1]
          have hd := hh' d
          by_cases hdn : d = n
          · subst hdn
            rw [hp]
            rw [decide_eq_true (show a ≤ (n : Int) by omega), decide_eq_true (show (n : Int) < n + 1 by omega), decide_eq_true (show (0 : Int) ≤ n by omega), decide_eq_true (show (n : Int) < ((n + 1 : Nat) : Int) by omega)]
            simp
          · rw [show decide (d < ((n + 1 : Nat) : Int)) = decide (d < (n : Int)) by rw [decide_eq_decide]; omega, show decide (d < (n : Int) + 1) = decide (d < (n : Int)) by rw [decide_eq_decide]; omega]
            exact hd
      rcases List.eq_nil_or_concat l with rfl | ⟨l', x, rfl⟩
      · refine key [] n (by omega) (by omega) Nrm.nil (by simp) fun d => ?_
        rw [← hh, has_nil]
        have : (decide ((n : Int) ≤ d) && decide (d < (n : Int))) = false := by simp
        rw [this]; rfl
      · rw [List.concat_eq_append] at hl hb hh
        obtain ⟨n1, rx, bx⟩ := nrm_snoc.1 hl
        have qx := rt_iff.1 rx
        have hx := hb x (by simp)
        by_cases hxn : x.2 = n
        · refine key l' x.1 (by omega) (by omega) n1 bx fun d => ?_
          rw [← hh, has_append, has_cons, has_nil, Bool.or_false, inn, rx, Bool.true_and, hxn]
        · refine key (l' ++ [x]) n (by omega) (by omega) hl ?_ fun d => ?_
          · intro s hs
            rcases List.mem_append.1 hs with hs | hs
            · have := bx s hs; omega
            · rw [List.mem_singleton.1 hs]; omega
          · rw [← hh]
            have : (decide ((n : Int) ≤ d) && decide (d < (n : Int))) = false := by simp
            rw [this, Bool.or_false]
/-- The days of p lie among all days. -/
def Dom (p : Int → Bool) : Prop := ∀ d, p d = true → 0 ≤ d ∧ d < 3652059
theorem dom_has (l : List Sp) : Dom (has l) := fun _ h => has_dom h
theorem dom_exists {p : Int → Bool} (h : Dom p) : ∃ l, Nrm l ∧ ∀ d, has l d = p d := by
  obtain ⟨l, h1, _, h2⟩ := nrm_exists p 3652059 (by decide)
  refine ⟨l, h1, fun d => ?_⟩
  rw [h2]
  rcases hp : p d
  · rfl
  · have := h d hp
    rw [decide_eq_true this.1, decide_eq_true (show d < ((3652059 : Nat) : Int) by omega)]; rfl
open Classical in
/-- The normal list with the days of p. -/
noncomputable def nf (p : Int → Bool) : List Sp := if h : ∃ l, Nrm l ∧ ∀ d, has l d = p d then h.choose else []
theorem nf_spec {p : Int → Bool} (h : Dom p) : Nrm (nf p) ∧ ∀ d, has (nf p) d = p d := by
  have hh := dom_exists h
  unfold nf
  rw [dif_pos hh]
  exact hh.choose_spec
theorem nf_eq {p : Int → Bool} {l : List Sp} (hl : Nrm l) (h : ∀ d, has l d = p d) : nf p = l := by
  have hd : Dom p := fun d hp => has_dom (l := l) (by rw [h]; exact hp)
  exact (nf_spec hd).1.uniq hl fun d => by rw [(nf_spec hd).2, h]
theorem nf_has {l : List Sp} (hl : Nrm l) : nf (has l) = l := nf_eq hl fun _ => rfl
theorem Nrm.len {l : List Sp} (hl : Nrm l) : (l.length : Int) ≤ 3652059 := by
  have : ∀ (l : List Sp) (k : Int), Nrm l → 0 ≤ k → k ≤ 3652059 → (∀ s ∈ l, k ≤ s.1) → (l.length : Int) ≤ 3652059 - k := by
    intro l
    induction l with
    | nil => intro k _ _ h _; simp; omega
    | cons a t ih =>
      intro k h h0 h1 h2
      obtain ⟨ra, la, na⟩ := nrm_cons.1 h
      have qa := rt_iff.1 ra
      have ha := h2 a (by simp)
      have := ih (a.1 + 1) na (by omega) (by omega) fun s hs => by have := la s hs; omega
      simp only [List.length_cons]
      omega
  have := this l 0 hl (by omega) (by omega) fun s hs => (rt_iff.1 (hl.1 s hs)).1
  omega

abbrev Bd := Int × Int × Int
def bnds (i : Int) (l : List Sp) : List Bd := l.flatMap fun s => if rt s then [(s.1, i, 1), (s.2, i, -1)] else []
def bnd2 (a b : List Sp) : List Bd := bnds 0 a ++ bnds 1 b
theorem bnds_nil (i : Int) : bnds i [] = [] := rfl
theorem bnds_cons (i : Int) (s : Sp) (l : List Sp) : bnds i (s :: l) = (if rt s then [(s.1, i, 1), (s.2, i, -1)] else []) ++ bnds i l := by simp [bnds]
theorem bnds_snoc (i : Int) (s : Sp) (l : List Sp) : bnds i (l ++ [s]) = bnds i l ++ (if rt s then [(s.1, i, 1), (s.2, i, -1)] else []) := by simp [bnds]
theorem bnds_len (i : Int) (l : List Sp) : (bnds i l).length ≤ 2 * l.length := by
  induction l with
  | nil => simp [bnds]
  | cons s l ih => rw [bnds_cons, List.length_append, List.length_cons]; split <;> simp <;> omega
/-- Days of bounds, and which list they are of. -/
theorem bnds_mem {i : Int} {l : List Sp} {x : Bd} (h : x ∈ bnds i l) : 0 ≤ x.1 ∧ x.1 ≤ 3652059 ∧ x.2.1 = i ∧ (x.2.2 = 1 ∨ x.2.2 = -1) := by
  induction l with
  | nil => simp [bnds] at h
  | cons s l ih =>
    rw [bnds_cons, List.mem_append] at h
    rcases h with h | h
    · rcases hr : rt s
      · rw [hr] at h; simp at h
      · rw [hr] at h
        have := rt_iff.1 hr
        simp at h
        rcases h with rfl | rfl
        · exact ⟨by show 0 ≤ s.1; omega, by show s.1 ≤ _; omega, rfl, .inl rfl⟩
        · exact ⟨by show 0 ≤ s.2; omega, by show s.2 ≤ _; omega, rfl, .inr rfl⟩
    · exact ih h
theorem bnd2_mem {a b : List Sp} {x : Bd} (h : x ∈ bnd2 a b) : 0 ≤ x.1 ∧ x.1 ≤ 3652059 ∧ (x.2.1 = 0 ∨ x.2.1 = 1) ∧ (x.2.2 = 1 ∨ x.2.2 = -1) := by
  rcases List.mem_append.1 h with h | h
  · obtain ⟨h1, h2, h3, h4⟩ := bnds_mem h; exact ⟨h1, h2, .inl h3, h4⟩
  · obtain ⟨h1, h2, h3, h4⟩ := bnds_mem h; exact ⟨h1, h2, .inr h3, h4⟩
/-- How many spans of list i are open behind these bounds. -/
def dep (i : Int) (B : List Bd) : Int := (B.map fun x => if x.2.1 = i then x.2.2 else 0).sum
theorem dep_nil (i : Int) : dep i [] = 0 := rfl
theorem dep_cons (i : Int) (x : Bd) (B : List Bd) : dep i (x :: B) = (if x.2.1 = i then x.2.2 else 0) + dep i B := by simp [dep]
theorem dep_append (i : Int) (B C : List Bd) : dep i (B ++ C) = dep i B + dep i C := by simp [dep]
theorem dep_perm (i : Int) {B C : List Bd} (h : B.Perm C) : dep i B = dep i C := by
  induction h with
  | nil => rfl
  | cons x _ ih => rw [dep_cons, dep_cons, ih]
  | swap x y l => rw [dep_cons, dep_cons, dep_cons, dep_cons]; omega
  | trans _ _ h1 h2 => rw [h1, h2]
def upto (t : Int) (B : List Bd) : List Bd := B.filter fun x => decide (x.1 ≤ t)
theorem dep_bnds (i : Int) (l : List Sp) (t : Int) : dep i (upto t (bnds i l)) = (l.countP (fun s => inn s t) : Nat) := by
  induction l with
  | nil => rfl
  | cons s l ih =>
    rw [bnds_cons, upto, List.filter_append, dep_append]
    rw [upto] at ih
    rw [ih, List.countP_cons]
    rcases hr : rt s
    · have : inn s t = false := by rw [inn, hr, Bool.false_and]
      rw [this]; simp [dep]
    · have hq := rt_iff.1 hr
      by_cases h1 : s.1 ≤ t
      · by_cases h2 : s.2 ≤ t
        · have : inn s t = false := by
            rcases hi : inn s t
            · rfl
            · have := inn_iff.1 hi; omega
          rw [this]; simp [dep, h1, h2]
        · have : inn s t = true := inn_iff.2 ⟨hr, h1, by omega⟩
          rw [this]; simp [dep, h1, h2]; omega
      · have : inn s t = false := by
          rcases hi : inn s t
          · rfl
          · have := inn_iff.1 hi; omega
        have h2 : ¬ s.2 ≤ t := by omega
        rw [this]; simp [dep, h1, h2]
theorem dep_other {i j : Int} (hij : j ≠ i) (l : List Sp) (t : Int) : dep i (upto t (bnds j l)) = 0 := by
  have : ∀ B : List Bd, (∀ x ∈ B, x.2.1 = j) → dep i B = 0 := by
    intro B
    induction B with
    | nil => intro _; rfl
    | cons x B ih =>
      intro h
      rw [dep_cons, ih fun y hy => h y (by simp [hy]), if_neg (by rw [h x (by simp)]; exact hij)]
      rfl
  exact this _ fun x hx => (bnds_mem (List.mem_filter.1 hx).1).2.2.1
theorem has_count (l : List Sp) (t : Int) : has l t = decide (0 < ((l.countP (fun s => inn s t) : Nat) : Int)) := by
  rw [Bool.eq_iff_iff, decide_eq_true_eq, has, List.any_eq_true]
  rw [show (0 < ((l.countP (fun s => inn s t) : Nat) : Int)) ↔ 0 < l.countP (fun s => inn s t) by omega, List.countP_pos_iff]
theorem has_dep0 (a b : List Sp) (t : Int) : has a t = decide (0 < dep 0 (upto t (bnd2 a b))) := by
  rw [bnd2, upto, List.filter_append, dep_append]
  have h1 := dep_bnds 0 a t
  have h2 := dep_other (i := 0) (j := 1) (by decide) b t
  unfold upto at h1 h2
  rw [h1, h2, Int.add_zero, has_count]
theorem has_dep1 (a b : List Sp) (t : Int) : has b t = decide (0 < dep 1 (upto t (bnd2 a b))) := by
  rw [bnd2, upto, List.filter_append, dep_append]
  have h1 := dep_bnds 1 b t
  have h2 := dep_other (i := 1) (j := 0) (by decide) a t
  unfold upto at h1 h2
  rw [h1, h2, Int.zero_add, has_count]
/-- A permutation of the bounds, by days. -/
structure Srt (a b : List Sp) (B : List Bd) : Prop where
  perm : B.Perm (bnd2 a b)
  asc : B.Pairwise fun x y => x.1 ≤ y.1
theorem Srt.has0 {a b : List Sp} {B : List Bd} (h : Srt a b B) (t : Int) : has a t = decide (0 < dep 0 (upto t B)) := by
  rw [has_dep0 a b, dep_perm 0 (show (upto t B).Perm (upto t (bnd2 a b)) from h.perm.filter _)]
theorem Srt.has1 {a b : List Sp} {B : List Bd} (h : Srt a b B) (t : Int) : has b t = decide (0 < dep 1 (upto t B)) := by
  rw [has_dep1 a b, dep_perm 1 (show (upto t B).Perm (upto t (bnd2 a b)) from h.perm.filter _)]
theorem Srt.mem {a b : List Sp} {B : List Bd} (h : Srt a b B) {x : Bd} (hx : x ∈ B) : 0 ≤ x.1 ∧ x.1 ≤ 3652059 ∧ (x.2.1 = 0 ∨ x.2.1 = 1) ∧ (x.2.2 = 1 ∨ x.2.2 = -1) := bnd2_mem (h.perm.mem_iff.1 hx)
/-- Where the loop over the bounds stands: what came before is over by day t, or is of the day that comes. -/
structure Mid (P R : List Bd) (t : Int) : Prop where
  past : ∀ x ∈ P, x.1 ≤ t ∨ ∃ y r, R = y :: r ∧ x.1 = y.1
  rest : ∀ x ∈ R, t < x.1
theorem Mid.start {a b : List Sp} {B : List Bd} (h : Srt a b B) : Mid [] B (-1) := ⟨by simp, fun x hx => by have := (h.mem hx).1; omega⟩
theorem Mid.same {P R : List Bd} {x y : Bd} {t : Int} (h : Mid P (x :: y :: R) t) (hxy : x.1 = y.1) : Mid (P ++ [x]) (y :: R) t where
  past := fun z hz => by
    rcases List.mem_append.1 hz with hz | hz
    · rcases h.past z hz with h1 | ⟨u, r, e, h1⟩
      · exact .inl h1
      · injection e with e1 e2; subst e1
        exact .inr ⟨y, R, rfl, by rw [h1, hxy]⟩
    · rw [List.mem_singleton.1 hz]
      exact .inr ⟨y, R, rfl, hxy⟩
  rest := fun z hz => h.rest z (by simp [List.mem_cons.1 hz])
theorem Mid.lt {P R : List Bd} {x : Bd} {t : Int} (h : Mid P (x :: R) t) : t < x.1 := h.rest x (by simp)
theorem Mid.next {P R : List Bd} {x : Bd} {t : Int} (h : Mid P (x :: R) t) (hR : ∀ y ∈ R, x.1 < y.1) : Mid (P ++ [x]) R x.1 where
  past := fun z hz => by
    left
    rcases List.mem_append.1 hz with hz | hz
    · rcases h.past z hz with h1 | ⟨u, r, e, h1⟩
      · have := h.lt; omega
      · injection e with e1 e2; subst e1; omega
    · rw [List.mem_singleton.1 hz]; exact Int.le_refl _
  rest := hR
theorem Mid.upto {P R : List Bd} {t : Int} (h : Mid P R t) (hP : ∀ x ∈ P, x.1 ≤ t) : upto t (P ++ R) = P := by
  unfold Spn.upto
  rw [List.filter_append, List.filter_eq_self.2 fun x hx => decide_eq_true (hP x hx), List.filter_eq_nil_iff.2 fun x hx => by have := h.rest x hx; simp; omega, List.append_nil]
theorem Mid.between {P R : List Bd} {x : Bd} {t d : Int} (h : Mid P (x :: R) t) (hs : ∀ y ∈ R, x.1 ≤ y.1) (h1 : t ≤ d) (h2 : d < x.1) : Spn.upto d (P ++ x :: R) = Spn.upto t (P ++ x :: R) := by
  unfold Spn.upto
  refine List.filter_congr fun z hz => ?_
  rw [decide_eq_decide]
  rcases List.mem_append.1 hz with hz | hz
  · rcases h.past z hz with h3 | ⟨u, r, e, h3⟩
    · omega
    · injection e with e1 e2; subst e1
      have := h.lt
      omega
  · have h3 := h.lt
    rcases List.mem_cons.1 hz with rfl | hz
    · omega
    · have := hs z hz; omega
/-- What the caller of 'changes' is told: the next day, and that nothing changes in between. -/
structure Stp (a b : List Sp) (t t' : Int) : Prop where
  lt : t < t'
  lo : 0 ≤ t'
  hi : t' ≤ 3652059
  a : ∀ d, t < d → d < t' → has a d = has a t
  b : ∀ d, t < d → d < t' → has b d = has b t
structure Fin (a b : List Sp) (t : Int) : Prop where
  a : ∀ d, t ≤ d → has a d = false
  b : ∀ d, t ≤ d → has b d = false
theorem Srt.stp {a b : List Sp} {P R : List Bd} {x : Bd} {t : Int} (hs : Srt a b (P ++ x :: R)) (h : Mid P (x :: R) t) : Stp a b t x.1 := by
  have hx := hs.mem (x := x) (by simp)
  have hasc : ∀ y ∈ R, x.1 ≤ y.1 := (List.pairwise_cons.1 (List.pairwise_append.1 hs.asc).2.1).1
  refine ⟨h.lt, hx.1, hx.2.1, fun d h1 h2 => ?_, fun d h1 h2 => ?_⟩
  · rw [hs.has0, hs.has0, h.between hasc (by omega) h2]
  · rw [hs.has1, hs.has1, h.between hasc (by omega) h2]
theorem Srt.now0 {a b : List Sp} {P R : List Bd} {x : Bd} {t : Int} (hs : Srt a b (P ++ x :: R)) (h : Mid P (x :: R) t) (hR : ∀ y ∈ R, x.1 < y.1) : has a x.1 = decide (0 < dep 0 (P ++ [x])) := by
  have hn := h.next hR
  have e : P ++ x :: R = (P ++ [x]) ++ R := by simp
  rw [hs.has0, e, hn.upto fun z hz => ?_]
  rcases hn.past z hz with h1 | ⟨y, r, e1, h1⟩
  · exact h1
  · rw [h1]; have := hR y (by rw [e1]; simp); rcases List.mem_append.1 hz with hz | hz
    · rcases h.past z hz with h2 | ⟨u, r', e2, h2⟩
      · have := h.lt; omega
      · injection e2 with e3 _; subst e3; omega
    · rw [List.mem_singleton.1 hz] at h1; omega
theorem Srt.now1 {a b : List Sp} {P R : List Bd} {x : Bd} {t : Int} (hs : Srt a b (P ++ x :: R)) (h : Mid P (x :: R) t) (hR : ∀ y ∈ R, x.1 < y.1) : has b x.1 = decide (0 < dep 1 (P ++ [x])) := by
  have hn := h.next hR
  have e : P ++ x :: R = (P ++ [x]) ++ R := by simp
  rw [hs.has1, e, hn.upto fun z hz => ?_]
  rcases hn.past z hz with h1 | ⟨y, r, e1, h1⟩
  · exact h1
  · rw [h1]; have := hR y (by rw [e1]; simp); rcases List.mem_append.1 hz with hz | hz
    · rcases h.past z hz with h2 | ⟨u, r', e2, h2⟩
      · have := h.lt; omega
      · injection e2 with e3 _; subst e3; omega
    · rw [List.mem_singleton.1 hz] at h1; omega
theorem dep_bnd2 (a b : List Sp) : dep 0 (bnd2 a b) = 0 ∧ dep 1 (bnd2 a b) = 0 := by
  have same : ∀ (i : Int) (l : List Sp), dep i (bnds i l) = 0 := by
    intro i l
    induction l with
    | nil => rfl
    | cons s l ih => rw [bnds_cons, dep_append, ih]; split <;> simp [dep]
  have other : ∀ (i j : Int) (l : List Sp), j ≠ i → dep i (bnds j l) = 0 := by
    intro i j l hij
    induction l with
    | nil => rfl
    | cons s l ih => rw [bnds_cons, dep_append, ih]; split <;> simp [dep, hij]
  rw [bnd2, dep_append, dep_append, same, same, other 0 1 b (by decide), other 1 0 a (by decide)]
  exact ⟨rfl, rfl⟩
theorem Srt.fin {a b : List Sp} {B : List Bd} {t : Int} (hs : Srt a b B) (h : Mid B [] t) : Fin a b t := by
  have hp : ∀ x ∈ B, x.1 ≤ t := fun x hx => by
    rcases h.past x hx with h1 | ⟨y, r, e, _⟩
    · exact h1
    · cases e
  have hu : ∀ d, t ≤ d → upto d B = B := fun d hd => List.filter_eq_self.2 fun x hx => decide_eq_true (by have := hp x hx; omega)
  have hd := dep_bnd2 a b
  refine ⟨fun d h1 => ?_, fun d h1 => ?_⟩
  · rw [hs.has0, hu d h1, dep_perm 0 hs.perm, hd.1]; rfl
  · rw [hs.has1, hu d h1, dep_perm 1 hs.perm, hd.2]; rfl
/-- What 'combined' has: the spans that are closed, and one that is open. -/
structure Cmb (q : Int → Bool) (t : Int) (l : List Sp) (from_ : Int) (op : Bool) : Prop where
  nrm : Nrm l
  ends : ∀ s ∈ l, s.2 ≤ t
  now : q t = op
  opn : op = true → 0 ≤ from_ ∧ from_ ≤ t ∧ ∀ s ∈ l, s.2 < from_
  days : ∀ d, d ≤ t → q d = (has l d || (op && decide (from_ ≤ d)))
theorem Cmb.start {q : Int → Bool} (h : ∀ d, d ≤ -1 → q d = false) : Cmb q (-1) [] 0 false where
  nrm := Nrm.nil
  ends := by simp
  now := h _ (Int.le_refl _)
  opn := by simp
  days := fun d hd => by rw [h d hd]; rfl
theorem has_past {l : List Sp} {t d : Int} (h : ∀ s ∈ l, s.2 ≤ t) (hd : t ≤ d) : has l d = false := has_not.2 fun s hs _ _ => by have := h s hs; omega
theorem Cmb.keep {q : Int → Bool} {t t' f : Int} {l : List Sp} {op : Bool} (h : Cmb q t l f op) (hlt : t < t') (hc : ∀ d, t < d → d < t' → q d = q t) (hq : q t' = op) : Cmb q t' l f op where
  nrm := h.nrm
  ends := fun s hs => by have := h.ends s hs; omega
  now := hq
  opn := fun ho => by obtain ⟨a, b, c⟩ := h.opn ho; exact ⟨a, by omega, c⟩
  days := fun d hd => by
    by_cases h1 : d ≤ t
    · exact h.days d h1
    · have e : q d = op := by
        by_cases h2 : d = t'
        · rw [h2, hq]
        · rw [hc d (by omega) (by omega), h.now]
      rw [e, has_past h.ends (by omega)]
      cases op with
      | false => rfl
      | true => rw [decide_eq_true (by have := (h.opn rfl).2.1; omega)]; rfl
theorem Cmb.close {q : Int → Bool} {t t' f : Int} {l : List Sp} (h : Cmb q t l f true) (hlt : t < t') (hM : t' ≤ 3652059) (hc : ∀ d, t < d → d < t' → q d = q t) (hq : q t' = false) (f' : Int) : Cmb q t' (l ++ [(f, t')]) f' false := by
  obtain ⟨a, b, c⟩ := h.opn rfl
  have hr : rt (f, t') = true := rt_iff.2 ⟨a, by show f < t'; omega, hM⟩
  refine ⟨nrm_snoc.2 ⟨h.nrm, hr, c⟩, ?_, hq, by simp, fun d hd => ?_⟩
  · intro s hs
    rcases List.mem_append.1 hs with hs | hs
    · have := h.ends s hs; omega
    · rw [List.mem_singleton.1 hs]; exact Int.le_refl _
  · rw [Bool.false_and, Bool.or_false, has_append, has_cons, has_nil, Bool.or_false, inn, hr, Bool.true_and]
    show q d = (has l d || (decide (f ≤ d) && decide (d < t')))
    by_cases h1 : d ≤ t
    · rw [h.days d h1, decide_eq_true (show d < t' by omega), Bool.and_true, Bool.true_and]
    · rw [has_past h.ends (by omega), decide_eq_true (show f ≤ d by omega), Bool.true_and, Bool.false_or]
      by_cases h2 : d = t'
      · rw [h2, hq, decide_eq_false (by omega)]
      · rw [hc d (by omega) (by omega), h.now, decide_eq_true (by omega)]
theorem Cmb.open {q : Int → Bool} {t t' f : Int} {l : List Sp} (h : Cmb q t l f false) (h0 : 0 ≤ t') (hlt : t < t') (hc : ∀ d, t < d → d < t' → q d = q t) (hq : q t' = true) : Cmb q t' l t' true where
  nrm := h.nrm
  ends := fun s hs => by have := h.ends s hs; omega
  now := hq
  opn := fun _ => ⟨h0, Int.le_refl _, fun s hs => by have := h.ends s hs; omega⟩
  days := fun d hd => by
    by_cases h1 : d ≤ t
    · rw [h.days d h1, decide_eq_false (show ¬ t' ≤ d by omega)]; rfl
    · rw [has_past h.ends (by omega), Bool.false_or, Bool.true_and]
      by_cases h2 : d = t'
      · rw [h2, hq, decide_eq_true (Int.le_refl _)]
      · rw [hc d (by omega) (by omega), h.now, decide_eq_false (by omega)]
theorem Cmb.fin {q : Int → Bool} {t f : Int} {l : List Sp} {op : Bool} (h : Cmb q t l f op) (hf : ∀ d, t ≤ d → q d = false) : nf q = l := by
  have ho : op = false := by rw [← h.now, hf t (Int.le_refl _)]
  subst ho
  refine nf_eq h.nrm fun d => ?_
  by_cases h1 : d ≤ t
  · rw [h.days d h1]; simp
  · rw [hf d (by omega), has_past h.ends (by omega)]

def cnt (p : Int → Bool) (s : Int) : Nat → Int
  | 0 => 0
  | n + 1 => cnt p s n + if p (s + n) then 1 else 0
theorem cnt_zero (p : Int → Bool) (s : Int) : cnt p s 0 = 0 := rfl
theorem cnt_succ (p : Int → Bool) (s : Int) (n : Nat) : cnt p s (n + 1) = cnt p s n + if p (s + n) then 1 else 0 := rfl
theorem cnt_add (p : Int → Bool) (s : Int) (m n : Nat) : cnt p s (m + n) = cnt p s m + cnt p (s + m) n := by
  induction n with
  | zero => simp [cnt_zero]
  | succ n ih =>
    rw [← Nat.add_assoc, cnt_succ, ih, cnt_succ, Int.add_assoc, show s + (m : Int) + (n : Int) = s + ((m + n : Nat) : Int) by omega]
theorem cnt_cons (p : Int → Bool) (s : Int) (n : Nat) : cnt p s (n + 1) = (if p s then 1 else 0) + cnt p (s + 1) n := by
  rw [Nat.add_comm n 1, cnt_add, cnt_succ, cnt_zero]
  simp
theorem cnt_congr {p q : Int → Bool} {s : Int} {n : Nat} (h : ∀ d, s ≤ d → d < s + n → p d = q d) : cnt p s n = cnt q s n := by
  induction n with
  | zero => rfl
  | succ n ih => rw [cnt_succ, cnt_succ, ih fun d h1 h2 => h d h1 (by omega), h (s + n) (by omega) (by omega)]
theorem cnt_none {p : Int → Bool} {s : Int} {n : Nat} (h : ∀ d, s ≤ d → d < s + n → p d = false) : cnt p s n = 0 := by
  induction n with
  | zero => rfl
  | succ n ih => rw [cnt_succ, ih fun d h1 h2 => h d h1 (by omega), h (s + n) (by omega) (by omega)]; rfl
theorem cnt_all {p : Int → Bool} {s : Int} {n : Nat} (h : ∀ d, s ≤ d → d < s + n → p d = true) : cnt p s n = n := by
  induction n with
  | zero => rfl
  | succ n ih => rw [cnt_succ, ih fun d h1 h2 => h d h1 (by omega), h (s + n) (by omega) (by omega)]; simp
theorem cnt_nonneg (p : Int → Bool) (s : Int) (n : Nat) : 0 ≤ cnt p s n ∧ cnt p s n ≤ n := by
  induction n with
  | zero => simp [cnt_zero]
  | succ n ih => rw [cnt_succ]; split <;> omega
theorem cnt_le (p : Int → Bool) (s : Int) {m n : Nat} (h : m ≤ n) : cnt p s m ≤ cnt p s n := by
  obtain ⟨k, rfl⟩ := Nat.exists_eq_add_of_le h
  rw [cnt_add]
  have := cnt_nonneg p (s + m) k
  omega
theorem cnt_mono {p q : Int → Bool} (h : ∀ d, p d = true → q d = true) (s : Int) (n : Nat) : cnt p s n ≤ cnt q s n := by
  induction n with
  | zero => exact Int.le_refl _
  | succ n ih =>
    rw [cnt_succ, cnt_succ]
    rcases hp : p (s + n)
    · rw [if_neg Bool.false_ne_true]; split <;> omega
    · rw [h _ hp]; simp; omega
theorem cnt_or_and (p q : Int → Bool) (s : Int) (n : Nat) : cnt (fun d => p d || q d) s n + cnt (fun d => p d && q d) s n = cnt p s n + cnt q s n := by
  induction n with
  | zero => rfl
  | succ n ih =>
    simp only [cnt_succ]
    rcases p (s + n) <;> rcases q (s + n) <;> simp <;> omega
def days (l : List Sp) : Int := (l.map fun s => s.2 - s.1).sum
theorem days_nil : days [] = 0 := rfl
theorem days_cons (s : Sp) (l : List Sp) : days (s :: l) = (s.2 - s.1) + days l := by simp [days]
theorem days_snoc (s : Sp) (l : List Sp) : days (l ++ [s]) = days l + (s.2 - s.1) := by simp [days]
theorem cnt_inn {s : Sp} (hr : rt s = true) {k : Int} {n : Nat} (h0 : k ≤ s.1) (h1 : s.2 ≤ k + n) : cnt (fun d => inn s d) k n = s.2 - s.1 := by
  have hq := rt_iff.1 hr
  obtain ⟨a, ha⟩ : ∃ a : Nat, s.1 = k + a := ⟨(s.1 - k).toNat, by omega⟩
  obtain ⟨b, hb⟩ : ∃ b : Nat, s.2 = s.1 + b := ⟨(s.2 - s.1).toNat, by omega⟩
  obtain ⟨c, hc⟩ : ∃ c : Nat, n = a + (b + c) := ⟨n - (a + b), by omega⟩
  rw [hc, cnt_add, cnt_add, ← ha, ← hb]
  rw [cnt_none (s := k) (n := a), cnt_all (s := s.1) (n := b), cnt_none (s := s.2) (n := c)]
  · omega
  · intro d h2 h3
    rcases hi : inn s d
    · rfl
    · have := inn_iff.1 hi; omega
  · intro d h2 h3
    exact inn_iff.2 ⟨hr, h2, by omega⟩
  · intro d h2 h3
    rcases hi : inn s d
    · rfl
    · have := inn_iff.1 hi; omega
theorem days_cnt {l : List Sp} (h : Nrm l) {k : Int} {n : Nat} (h0 : ∀ s ∈ l, k ≤ s.1) (h1 : ∀ s ∈ l, s.2 ≤ k + n) : days l = cnt (has l) k n := by
  induction l with
  | nil => rw [cnt_none (p := has []) fun _ _ _ => rfl]; rfl
  | cons s l ih =>
    obtain ⟨hr, hb, hn⟩ := nrm_cons.1 h
    have hd : cnt (fun d => inn s d && has l d) k n = 0 := cnt_none fun d _ _ => by
      rcases hi : inn s d
      · rfl
      · have hi' := inn_iff.1 hi
        rw [Bool.true_and]
        exact has_not.2 fun x hx _ h2 => by have := hb x hx; omega
    have he := cnt_or_and (fun d => inn s d) (has l) k n
    rw [hd, cnt_inn hr (h0 s (by simp)) (h1 s (by simp)), Int.add_zero] at he
    rw [days_cons, ih hn (fun x hx => h0 x (by simp [hx])) fun x hx => h1 x (by simp [hx]), ← he]
    rfl
theorem Nrm.bds {l : List Sp} (h : Nrm l) : (∀ s ∈ l, 0 ≤ s.1) ∧ ∀ s ∈ l, s.2 ≤ 3652059 :=
  ⟨fun s hs => (rt_iff.1 (h.1 s hs)).1, fun s hs => (rt_iff.1 (h.1 s hs)).2.2⟩
/-- How many days p has (N is the number of all days). -/
theorem days_nf {p : Int → Bool} (hp : Dom p) {N : Nat} (hN : (N : Int) = 3652059) : days (nf p) = cnt p 0 N := by
  obtain ⟨h1, h2⟩ := nf_spec hp
  rw [days_cnt h1 (k := 0) (n := N) h1.bds.1 fun s hs => by have := h1.bds.2 s hs; omega]
  exact cnt_congr fun d _ _ => h2 d
theorem days_range {l : List Sp} (h : Nrm l) : 0 ≤ days l ∧ days l ≤ 3652059 := by
  obtain ⟨N, hN⟩ : ∃ N : Nat, (N : Int) = 3652059 := ⟨_, rfl⟩
  rw [days_cnt h (k := 0) (n := N) h.bds.1 fun s hs => by have := h.bds.2 s hs; omega]
  have := cnt_nonneg (has l) 0 N
  omega
theorem Nrm.front {l m : List Sp} (h : Nrm (l ++ m)) : Nrm l := ⟨fun s hs => h.1 s (by simp [hs]), (List.pairwise_append.1 h.2).1⟩
/-- A term of n days that begins on day s, and rests on the days of p, is over on day d. -/
structure Ends (p : Int → Bool) (s n d : Int) : Prop where
  lo : s ≤ d
  hi : d ≤ 3652058
  free : cnt (fun k => !p k) s (d - s).toNat = n
  last : d = s ∨ p (d - 1) = false
theorem Ends.lt {p : Int → Bool} {s n d e : Int} (h : Ends p s n e) (hd : s ≤ d) (hlt : d < e) : cnt (fun k => !p k) s (d - s).toNat < n := by
  obtain ⟨h1, h2, h3, h4⟩ := h
  have h5 : p (e - 1) = false := by
    rcases h4 with h4 | h4
    · omega
    · exact h4
  have h6 : cnt (fun k => !p k) s (d - s).toNat ≤ cnt (fun k => !p k) s (e - 1 - s).toNat := cnt_le _ _ (by omega)
  have h7 : (e - s).toNat = (e - 1 - s).toNat + 1 := by omega
  rw [h7, cnt_succ, show s + ((e - 1 - s).toNat : Int) = e - 1 by omega, h5] at h3
  simp at h3
  omega
theorem Ends.uniq {p : Int → Bool} {s n d e : Int} (h : Ends p s n d) (h' : Ends p s n e) : d = e := by
  rcases Int.lt_trichotomy d e with hl | hl | hl
  · have := h'.lt h.lo hl; have := h.free; omega
  · exact hl
  · have := h.lt h'.lo hl; have := h'.free; omega
theorem ends_exists {p : Int → Bool} {s n : Int} (hs : s ≤ 3652058) (h0 : 0 ≤ n) (h1 : n ≤ cnt (fun k => !p k) s (3652058 - s).toNat) : ∃ d, Ends p s n d := by
  have key : ∀ (m : Nat), (m : Int) ≤ 3652058 - s → n ≤ cnt (fun k => !p k) s m → ∃ d, Ends p s n d := by
    intro m
    induction m with
    | zero =>
      intro _ h2
      rw [cnt_zero] at h2
      exact ⟨s, Int.le_refl _, hs, by rw [Int.sub_self]; show cnt _ _ 0 = n; rw [cnt_zero]; omega, .inl rfl⟩
    | succ m ih =>
      intro hm h2
      by_cases h3 : n ≤ cnt (fun k => !p k) s m
      · exact ih (by omega) h3
      · rw [cnt_succ] at h2
        have h4 : p (s + m) = false := by
          rcases hp : p (s + m)
          · rfl
          · rw [hp] at h2; simp at h2; omega
        rw [h4] at h2
        simp at h2
        refine ⟨s + m + 1, by omega, by omega, ?_, .inr (by rw [show s + (m : Int) + 1 - 1 = s + m by omega]; exact h4)⟩
        rw [show (s + (m : Int) + 1 - s).toNat = m + 1 by omega, cnt_succ, h4]
        simp
        omega
  exact key _ (by omega) h1
open Classical in
noncomputable def endOf (p : Int → Bool) (s n : Int) : Option Int := if h : ∃ d, Ends p s n d then some h.choose else none
theorem endOf_some {p : Int → Bool} {s n d : Int} (h : Ends p s n d) : endOf p s n = some d := by
  have hh : ∃ d, Ends p s n d := ⟨d, h⟩
  unfold endOf
  rw [dif_pos hh, hh.choose_spec.uniq h]
theorem endOf_none {p : Int → Bool} {s n : Int} (h : ∀ d, ¬ Ends p s n d) : endOf p s n = none := by
  unfold endOf
  rw [dif_neg fun ⟨d, hd⟩ => h d hd]
theorem endOf_iff {p : Int → Bool} {s n d : Int} (h : endOf p s n = some d) : Ends p s n d := by
  unfold endOf at h
  split at h
  · rename_i hh
    injection h with h
    rw [← h]; exact hh.choose_spec
  · cases h
theorem ends_zero {p : Int → Bool} {s : Int} (hs : s ≤ 3652058) : Ends p s 0 s := ⟨Int.le_refl _, hs, by rw [Int.sub_self]; rfl, .inl rfl⟩
theorem ends_neg {p : Int → Bool} {s n : Int} (h : n < 0) (d : Int) : ¬ Ends p s n d := fun hd => by have := hd.free; have := (cnt_nonneg (fun k => !p k) s (d - s).toNat).1; omega
theorem ends_late {p : Int → Bool} {s n : Int} (h : 3652058 < s) (d : Int) : ¬ Ends p s n d := fun hd => by have := hd.lo; have := hd.hi; omega
/-- The free days of a term that begins on day s: those of the list that Count goes through. -/
def free (p : Int → Bool) (s d : Int) : Bool := inn (s, 3652058) d && !p d
theorem dom_free (p : Int → Bool) (s : Int) : Dom (free p s) := fun d h => by
  have h1 : inn (s, 3652058) d = true := by unfold free at h; rw [Bool.and_eq_true] at h; exact h.1
  obtain ⟨h2, h3, h4⟩ := inn_iff.1 h1
  have := rt_iff.1 h2
  simp only at *
  omega
theorem free_eq {p : Int → Bool} {s d : Int} (h0 : 0 ≤ s) (h1 : s ≤ d) (h2 : d < 3652058) : free p s d = !p d := by
  have : inn (s, 3652058) d = true := inn_iff.2 ⟨rt_iff.2 ⟨h0, by show s < (3652058 : Int); omega, by show (3652058 : Int) ≤ 3652059; omega⟩, h1, h2⟩
  unfold free
  rw [this, Bool.true_and]
theorem free_out {p : Int → Bool} {s d : Int} (h : free p s d = true) : s ≤ d ∧ d < 3652058 ∧ p d = false := by
  unfold free at h
  rw [Bool.and_eq_true] at h
  obtain ⟨_, h3, h4⟩ := inn_iff.1 h.1
  exact ⟨h3, h4, by simpa using h.2⟩
/-- In Count's loop: the term ends in this span. -/
theorem free_hit {p : Int → Bool} {s n m : Int} {pre post : List Sp} {x : Sp} (h0 : 0 ≤ s) (hl : nf (free p s) = pre ++ x :: post) (hm : m + days pre = n) (hm0 : 0 < m) (hm1 : m ≤ x.2 - x.1) : Ends p s n (x.1 + m) := by
  obtain ⟨hn, hh⟩ := nf_spec (dom_free p s)
  rw [hl] at hn hh
  have hx : rt x = true := hn.1 x (by simp)
  have hq := rt_iff.1 hx
  have hin : ∀ d, x.1 ≤ d → d < x.2 → s ≤ d ∧ d < 3652058 ∧ p d = false := fun d h1 h2 => free_out (by rw [← hh]; exact has_iff.2 ⟨x, by simp, hx, h1, h2⟩)
  have ha := hin x.1 (by omega) (by omega)
  have hb := hin (x.1 + m - 1) (by omega) (by omega)
  have hpre : ∀ y ∈ pre, y.2 < x.1 := fun y hy => (List.pairwise_append.1 hn.2).2.2 y hy x (by simp)
  have hpr0 : ∀ y ∈ pre, s ≤ y.1 := fun y hy => by
    have hy' := hn.1 y (by simp [hy])
    have := rt_iff.1 hy'
    exact (free_out (p := p) (d := y.1) (by rw [← hh]; exact has_iff.2 ⟨y, by simp [hy], hy', by omega, by omega⟩)).1
  refine ⟨by omega, by omega, ?_, .inr hb.2.2⟩
  obtain ⟨a, hae⟩ : ∃ a : Nat, x.1 = s + a := ⟨(x.1 - s).toNat, by omega⟩
  obtain ⟨b, hbe⟩ : ∃ b : Nat, m = b := ⟨m.toNat, by omega⟩
  rw [show (x.1 + m - s).toNat = a + b by omega, cnt_add, ← hae]
  rw [cnt_all (s := x.1) (n := b) fun d h1 h2 => by show (!p d) = true; rw [(hin d h1 (by omega)).2.2]; rfl]
  have hdp : days pre = cnt (has pre) s a := days_cnt hn.front hpr0 fun y hy => by have := hpre y hy; omega
  have hc : cnt (fun k => !p k) s a = cnt (has pre) s a := cnt_congr fun d h1 h2 => by
    show (!p d) = _
    rw [← free_eq (p := p) h0 h1 (by omega), ← hh, has_append]
    have : has (x :: post) d = false := has_not.2 fun y hy _ h3 => by
      rcases List.mem_cons.1 hy with rfl | hy
      · omega
      · have := (nrm_cons.1 (show Nrm (x :: post) from ⟨fun z hz => hn.1 z (by simp [List.mem_cons.1 hz]), (List.pairwise_append.1 hn.2).2.1⟩)).2.1 y hy
        omega
    rw [this, Bool.or_false]
  rw [hc, ← hdp]
  omega
/-- In Count's loop: all free days are too few. -/
theorem free_miss {p : Int → Bool} {s n m : Int} (h0 : 0 ≤ s) (hs : s ≤ 3652058) (hm : m + days (nf (free p s)) = n) (hm0 : 0 < m) (d : Int) : ¬ Ends p s n d := fun hd => by
  obtain ⟨hn, hh⟩ := nf_spec (dom_free p s)
  obtain ⟨a, hae⟩ : ∃ a : Nat, (3652058 : Int) = s + a := ⟨(3652058 - s).toNat, by omega⟩
  have hout : ∀ y ∈ nf (free p s), s ≤ y.1 ∧ y.2 ≤ 3652058 := fun y hy => by
    have hy' := hn.1 y hy
    have := rt_iff.1 hy'
    have h1 := free_out (p := p) (s := s) (d := y.1) (by rw [← hh]; exact has_iff.2 ⟨y, hy, hy', by omega, by omega⟩)
    have h2 := free_out (p := p) (s := s) (d := y.2 - 1) (by rw [← hh]; exact has_iff.2 ⟨y, hy, hy', by omega, by omega⟩)
    omega
  have hdp : days (nf (free p s)) = cnt (has (nf (free p s))) s a := days_cnt hn (fun y hy => (hout y hy).1) fun y hy => by have := (hout y hy).2; omega
  have hc : cnt (fun k => !p k) s a = cnt (has (nf (free p s))) s a := cnt_congr fun d h1 h2 => by
    show (!p d) = _
    rw [hh, free_eq h0 h1 (by omega)]
  have h1 := hd.free
  have h2 : cnt (fun k => !p k) s (d - s).toNat ≤ cnt (fun k => !p k) s a := cnt_le _ _ (by have := hd.hi; omega)
  omega
end Spn
end Go.Proofs.YtnbcfolmadkliaaDoor
