/- The reference implementation's Quo. -/
import Derived.Test.YtcghnkdfhiancaaDoorUi
import Derived.Deep.RegionHeld3
import Derived.Laws.AppendOwnNone
namespace Go.Proofs.YtcghnkdfhiancaaDoor
open Go.RowKit
section
variable {P : Program}
/-- append to a slice of one's own, of a slice, nil or not. -/
theorem wpList_append_upsrc (w : World) {ops : Array Oper} {rest : List Oper} {o : Oper} {a : Act} {Q : Exit → Act → World → Prop} (hgd : o.guard = none) (s x : Operand) (t : TypeId)
    (ho : o.op = .call { callee := .builtin .append, args := #[s, x], argTypes := #[t, t] })
    (B : Nat) (e : TypeId) (i : TypeInfo) (k : IntKind) (z : Int) (bytes : Nat) (ht : P.underlying t = some (.slice e)) (hi : P.info? e = some i) (hz : i.zero = some (.int k z))
    (hsize : i.size = 1) (hby : i.bytes = bytes) (hb8 : bytes ≤ 8)
    (v : Value) (xs : List Value) (hs : a.eval s = v) (hown : Own w B e v xs)
    (ao : Option Addr) (m c : Nat) (news : List Value) (hx : a.eval x = .slice ao m c) (hl : news.length = m) (hnone : ao = none → m = 0 ∧ c = 0) (hnews : ∀ ad, ao = some ad → ∀ j u, news[j]? = some u → w.cell? (ad.add j) = some u) (h1 : ∀ u ∈ news, u.oneCell' = true)
    (h40 : xs.length + m ≤ 1000000000000) (hbase : B ≤ w.heap.size)
    (h : ∀ v' w', Own w' B e v' (xs ++ news) → Ch B none1 w w' → wpList P ops Q rest (a.put o.dst v') w') : wpList P ops Q (o :: rest) a w := by
  cases ao with
  | some ad => exact wpList_append_up w hgd s x t ho B e i k z bytes ht hi hz hsize hby hb8 v xs hs hown ad m c news hx hl (hnews ad rfl) h1 h40 hbase h
  | none =>
    obtain ⟨rfl, rfl⟩ := hnone rfl
    have hn0 : news = [] := List.eq_nil_of_length_eq_zero hl
    subst hn0
    have hrun := run_append_owned_none (P := P) (w := w) B t o.type e i 1 ht hi v xs.length xs hown
    refine wpList_plain hgd fun K hK' => ?_
    unfold Oper.wp
    simp [execOp, ho, resolve, invoke, builtin, hs, hx, hrun, Result.andThen]
    exact hK' _ _ (h v w (by simpa using hown) (Ch.refl _ _ _))
end
theorem di_news {w : World} {p : Option Addr} {n : Nat} {xs : List Nat} (h : Di w p n xs) : ∀ ad, p = some ad → ∀ j u, (xs.map I)[j]? = some u → w.cell? (ad.add j) = some u := fun ad ha j u hu => by
  obtain ⟨g, rfl⟩ : ∃ g, ad = ⟨g, 0, none⟩ := by
    obtain ⟨h1, h2, _⟩ := h.at' ad ha
    obtain ⟨g, o, s⟩ := ad
    simp only at h1 h2
    subst h1 h2
    exact ⟨g, rfl⟩
  subst ha
  have hj : j < xs.length := by simpa using (List.getElem?_eq_some_iff.1 hu).1
  rw [plain_add, h.get j (by rw [← h.len]; exact hj), ← hu]
  simp [hj]
theorem ints_oneI (xs : List Nat) : ∀ u ∈ xs.map I, u.oneCell' = true := fun u hu => by
  obtain ⟨_, _, rfl⟩ := List.mem_map.1 hu
  rfl
/-- A slice of one cell that a literal made. -/
theorem own_lit1 (w : World) (B : Nat) (e : TypeId) (u : Value) (hb : B ≤ w.heap.size) : Own (w.alloc (.cells #[u] e (0, 0))) B e (.slice (some ⟨w.heap.size, 0, none⟩) 1 1) [u] :=
  ⟨rfl, .inr ⟨w.heap.size, 1, #[u], rfl, hb, heap_alloc_new w _, Nat.le_refl _, by unfold maxLen; omega, rfl, rfl⟩⟩
/-- One step of the division by the schoolbook. -/
theorem quo_top (A _V k x : Nat) (xs : List Nat) (hx : ev xs = A) (hxo : Eok xs) (hk : k < xs.length) (hxk : xs[k] = x) : A / E24 ^ k = x + E24 * (A / E24 ^ (k + 1)) := by
  have h1 := ev_take_drop xs k (by omega)
  have h2 := List.drop_eq_getElem_cons hk
  have h3 := ev_lt (hxo.take k)
  rw [List.length_take, Nat.min_eq_left (by omega)] at h3
  have h4 := ev_take_drop xs (k + 1) (by omega)
  have h5 := ev_lt (hxo.take (k + 1))
  rw [List.length_take, Nat.min_eq_left (by omega)] at h5
  rw [hx] at h1 h4
  have e1 : A / E24 ^ k = ev (xs.drop k) := by rw [h1, Nat.add_mul_div_left _ _ (Nat.pow_pos E24_pos), Nat.div_eq_of_lt h3, Nat.zero_add]
  have e2 : A / E24 ^ (k + 1) = ev (xs.drop (k + 1)) := by rw [h4, Nat.add_mul_div_left _ _ (Nat.pow_pos E24_pos), Nat.div_eq_of_lt h5, Nat.zero_add]
  rw [e1, e2, h2, ev_cons, hxk]
theorem es_ofsmall (U n : Nat) (h : U < E24 ^ n) : (es U).length ≤ n := (es_len U n).2 h
/-- The row of the quotient's digits, the lowest k of them still zero. -/
theorem quo_row (A _V k q : Nat) (zs : List Nat) (_hz : ∀ i, i < k + 1 → zs.getD i 0 = 0) (hk : k < zs.length) (hv : ev (zs.drop (k + 1)) = A) : ev ((zs.set k q).drop k) = q + E24 * A := by
  rw [List.drop_set, if_neg (by omega), Nat.sub_self, List.drop_eq_getElem_cons hk, List.set_cons_zero, ev_cons, hv]
theorem quo_zero (A k : Nat) (zs : List Nat) (hz : ∀ i, i < k + 1 → zs.getD i 0 = 0) (hk : k < zs.length) (hv : ev (zs.drop (k + 1)) = A) : ev (zs.drop k) = E24 * A := by
  have h := hz k (Nat.lt_succ_self k)
  rw [List.getD_eq_getElem?_getD, List.getElem?_eq_getElem hk] at h
  rw [List.drop_eq_getElem_cons hk, ev_cons, hv]
  simp only [Option.getD_some] at h
  rw [h, Nat.zero_add]
theorem getD_set_lt (zs : List Nat) (k q i : Nat) (h : i < k) : (zs.set k q).getD i 0 = zs.getD i 0 := by
  rw [List.getD_eq_getElem?_getD, List.getD_eq_getElem?_getD, List.getElem?_set_ne (by omega)]
theorem es_len_cons {x R n : Nat} (hx : x < E24) (h : (es R).length ≤ n) : (es (x + E24 * R)).length ≤ n + 1 := by
  have h1 := (es_len R n).1 h
  refine (es_len _ _).2 ?_
  rw [Nat.pow_succ, Nat.mul_comm (E24 ^ n)]
  have h4 : E24 * (R + 1) ≤ E24 * E24 ^ n := Nat.mul_le_mul_left _ h1
  rw [Nat.mul_add, Nat.mul_one] at h4
  omega
theorem di_set {w : World} {p : Option Addr} {n : Nat} {xs : List Nat} (hd : Di w p n xs) (g j : Nat) (v : Value) (hne : ∀ a, p = some a → a.block ≠ g) : Di (w.setCell ⟨g, j, none⟩ v) p n xs :=
  ⟨hd.len, hd.lt, hd.nil, fun a ha => by
    obtain ⟨h1, h2, t, post, hb⟩ := hd.at' a ha
    exact ⟨h1, h2, t, post, hb.set_other (hne a ha) j v⟩⟩
set_option maxRecDepth 100000 in
set_option maxHeartbeats 3200000 in
theorem rquo_gen (a b y : List UInt8) (sx sy : Int) (p q : Bool) (w : World) (ha : a.length ≤ 1000) (hy : y.length ≤ 1000) (hcan : ∀ w, Calls Tryd.prog 33 #[S b] w fun e w' => e = .returned (S y) ∧ w' = w)
    (hyv : bv y = bv b) (hpos : 0 < bv b) (hpq : p = false ∨ (p = true ∧ q = false))
    (h1 : ∀ w, Calls Tryd.prog 47 #[S a, .int .i64 7] w fun e w' => e = .returned (.tuple #[.int .i64 sx, .bool p]) ∧ w' = w)
    (h2 : ∀ w, Calls Tryd.prog 47 #[S y, .int .i64 7] w fun e w' => e = .returned (.tuple #[.int .i64 sy, .bool q]) ∧ w' = w) :
    Calls Tryd.prog 55 #[S a, S b] w (Yld w (.tuple #[S (nb (bv a / bv b)), S (nb (bv a % bv b)), .bool true])) := by
  obtain ⟨i0, hi, hz0, hz1, hz2⟩ := info_parts Tryd.info3
  have HCAN := Lib.hid hcan
  have H1 := Lib.hid h1
  have H2 := Lib.hid h2
  have HOF1 := Lib.hid (fun w => rof_rd a w (by omega))
  have HOF2 := Lib.hid (fun w => rof_rd y w (by omega))
  have hyl : 0 < y.length := by
    rcases Nat.eq_zero_or_pos y.length with h | h
    · have := List.eq_nil_of_length_eq_zero h
      subst this
      rw [bv_nil] at hyv
      omega
    · exact h
  have hyl2 : ((y.length : Int) == 0) = false := by rw [beq_eq_false_iff_ne]; omega
  have hla : (es (bv a)).length ≤ 1000 := by have h := es_len_bytes a; have h' := trimL_len a; omega
  have hlb : (es (bv y)).length ≤ 1000 := by have h := es_len_bytes y; have h' := trimL_len y; omega
  have hua := ev_es (bv a)
  obtain ⟨A, hA⟩ : ∃ A, bv a = A := ⟨_, rfl⟩
  obtain ⟨V, hV⟩ : ∃ V, bv b = V := ⟨_, rfl⟩
  rw [hA] at hla hua HOF1 ⊢
  rw [hyv] at hlb HOF2
  rw [hV] at hlb hpos HOF2 ⊢
  obtain ⟨us, hus⟩ : ∃ us, es A = us := ⟨_, rfl⟩
  have HUS := Lib.hid hus
  rw [hus] at hla hua
  have HUA := Lib.hid hua
  have HLB := Lib.hid hlb
  have HPOS := Lib.hid hpos
  clear h1 h2 hua hA hV hus ha hy hyv hcan hyl hpos hlb
  obtain ⟨n, hn⟩ : ∃ n, us.length = n := ⟨_, rfl⟩
  rw [hn] at hla
  have HN := Lib.hid hn
  clear hn
  obtain ⟨wo, rfl⟩ : ∃ wo : World, wo = w := ⟨_, rfl⟩
  rcases hpq with rfl | ⟨rfl, rfl⟩
  all_goals
    go_enter Tryd.func55, Tryd.ntmps55
    go_wp2_with (first
      | (go_at_call 33; with_reducible refine (HCAN.out _).mono ?_; rintro e w' ⟨rfl, rfl⟩)
      | (go_at_call 47; with_reducible refine (H1.out _).mono ?_; rintro e w' ⟨rfl, rfl⟩)
      | (go_at_call 47; with_reducible refine (H2.out _).mono ?_; rintro e w' ⟨rfl, rfl⟩))
    refine (HOF1.out _).mono ?_
    rintro e w1 ⟨v1, rfl, hr1, hC1⟩
    obtain ⟨p1, n1, c1, rfl, hnc1, hcm1, _, hd1⟩ := hr1
    rw [HUS.out] at hd1
    obtain rfl : n1 = n := hd1.len.symm.trans HN.out
    have HD1 := Lib.hid hd1
    have HC1 := Lib.hid hC1
    clear hd1 hC1
    go_wp2_with fail
    refine (HOF2.out _).mono ?_
    rintro e w2 ⟨v2, rfl, hr2, hC2⟩
    have HR2 := Lib.hid hr2
    have HC2 := Lib.hid (HC1.out.step0 hC2 (Nat.le_refl _))
    have HD1b := Lib.hid (HD1.out.on hC2)
    clear hr2 hC2 HD1 HC1
    go_wp2_with (at_make; refine wpList_make_blk _ rfl _ _ 38 rfl 3 i0 .i64 0 Tryd.underlying38 hi hz0 hz1 .i64 .i64 _ _ n1 rfl rfl rfl rfl (by rw [hz2]; omega) (by unfold maxLen; omega) ?_; intro w3 hB3 hC3)
    have hlt1 := HD1b.out.lt_size
    have hwo := HC2.out.size
    have hcw := HC2.out.step0 hC3 (Nat.le_refl _)
    have hd13 := HD1b.out.on hC3
    obtain ⟨p2, n2, c2, rfl, hnc2, hcm2, hnil2, hd2⟩ := HR2.out
    have hlt2 := hd2.lt_size
    have hd23 := hd2.on hC3
    obtain ⟨Bq, hBq⟩ : ∃ B, w2.heap.size = B := ⟨_, rfl⟩
    rw [hBq] at hlt1 hlt2 hwo hB3 ⊢
    have HDA1 := Lib.hid (fun (wr : World) (h : Ch Bq none1 w3 wr) => Di.ch h hd13 hlt1)
    have HRA2 := Lib.hid (fun (wr : World) (h : Ch Bq none1 w3 wr) => show RdE wr (.slice p2 n2 c2) V from ⟨p2, n2, c2, rfl, hnc2, hcm2, hnil2, Di.ch h hd23 hlt2⟩)
    have HWO := Lib.hid hwo
    have HCW := Lib.hid hcw
    have HB3 := Lib.hid (hB3.cast (show List.replicate n1 (Value.int .i64 0) = (List.replicate n1 0).map I by rw [List.map_replicate]; rfl))
    have hAn : A < E24 ^ n1 := by
      have h := (es_len A us.length).1 (by rw [HUS.out]; exact Nat.le_refl _)
      rwa [HN.out] at h
    have hst1 : A / E24 ^ n1 % V = 0 := by rw [Nat.div_eq_of_lt hAn, Nat.zero_mod]
    have hst2 : ev ((List.replicate n1 0).drop n1) = A / E24 ^ n1 / V := by
      rw [Nat.div_eq_of_lt hAn, Nat.zero_div, List.drop_of_length_le (by simp)]; rfl
    have hst3 : RdE w3 (.slice none 0 0) (A / E24 ^ n1 % V) := by
      rw [hst1]
      have : es 0 = [] := es_zero
      exact ⟨none, 0, 0, rfl, Nat.le_refl _, by unfold maxLen; omega, fun _ => rfl, by rw [this]; exact Di.nil' _⟩
    have hst4 : ∀ i, i < n1 → (List.replicate n1 0).getD i 0 = 0 := fun i _ => by
      rw [List.getD_eq_getElem?_getD, List.getElem?_replicate]
      split <;> rfl
    clear hlt1 hlt2 hwo hcw hd13 hd23 hd2 hB3 hC3 hBq HC2 HD1b HR2 HOF1 HOF2 H1 H2 HCAN hst1 hAn
    go_loopw [14, 15] (fun r i wr => ∃ (k : Nat) (zs : List Nat), k ≤ n1 ∧ i = .int .i64 ((k : Int) - 1) ∧ RdE wr r (A / E24 ^ k % V) ∧ zs.length = n1 ∧ Eok zs ∧ (∀ i, i < k → zs.getD i 0 = 0) ∧ ev (zs.drop k) = A / E24 ^ k / V ∧
      Blk wr Bq 3 (zs.map I) ∧ Ch Bq none1 w3 wr) (fun _ i _ => (intOf i + 1).toNat)
    case atStart => exact ⟨n1, List.replicate n1 0, Nat.le_refl _, rfl, hst3, by simp, Eok.zeros _, hst4, hst2, HB3.out, Ch.refl _ _ _⟩
    case round =>
      clear hst2 hst3 hst4 HB3
      obtain ⟨k, zs, hk, rfl, hrest, hzl, hz, hzero, hzv, hB', hC'⟩ := hrel
      have HR := Lib.hid hrest; clear hrest
      have HZ := Lib.hid hzl; clear hzl
      have HZK := Lib.hid hz; clear hz
      have HZ0 := Lib.hid hzero; clear hzero
      have HZV := Lib.hid hzv; clear hzv
      have HB := Lib.hid hB'; clear hB'
      have HC := Lib.hid hC'; clear hC'
      rcases k with _ | k
      · have hev : ev zs = A / V := by
          have h := HZV.out
          rwa [List.drop_zero, Nat.pow_zero, Nat.div_one] at h
        have hrest := HR.out
        rw [Nat.pow_zero, Nat.div_one] at hrest
        have hnum := rnumber_any (some ⟨Bq, 0, none⟩) n1 n1 zs wr (di_of_blk HB.out HZK.out n1 HZ.out) (by omega)
        rw [hev] at hnum
        have hlr : (es (A % V)).length ≤ 33333333333 := Nat.le_trans (es_len_le (Nat.le_of_lt (Nat.mod_lt A HPOS.out))) (Nat.le_trans HLB.out (by omega))
        have HNUM := Lib.hid hnum
        have HREST := Lib.hid hrest
        have HLR := Lib.hid hlr
        clear hev hnum hrest hlr
        go_wp2_with fail
        refine HNUM.out.mono ?_
        rintro e w8 ⟨rfl, hC8⟩
        have HREST2 := Lib.hid (HREST.out.on hC8)
        have HC8 := Lib.hid ((HCW.out.trans (HC.out.mono HWO.out (fun _ _ q => q))).step0 hC8 (Nat.le_refl _))
        clear hC8
        go_wp2_with fail
        refine (rnumber_rd _ (A % V) _ HREST2.out HLR.out).mono ?_
        rintro e w9 ⟨rfl, hC9⟩
        have HC9 := Lib.hid (HC8.out.step0 hC9 (Nat.le_refl _))
        clear hC9
        go_wp2_with fail
        go_ret3
        exact ⟨rfl, HC9.out⟩
      · have hd1 := HDA1.out _ HC.out
        obtain ⟨gx, rfl⟩ := hd1.addr (by omega)
        have hgx := hd1.get0 k (by omega)
        have hkx : k < us.length := by rw [HN.out]; omega
        obtain ⟨x, hx⟩ : ∃ x, us[k] = x := ⟨_, rfl⟩
        rw [hx] at hgx
        have hxb := hd1.lt.get k hkx
        rw [hx] at hxb
        have htop := quo_top A V k x us HUA.out hd1.lt hkx hx
        obtain ⟨R, hR⟩ : ∃ R, A / E24 ^ (k + 1) % V = R := ⟨_, rfl⟩
        obtain ⟨T, hT⟩ : ∃ T, A / E24 ^ (k + 1) = T := ⟨_, rfl⟩
        rw [hT] at hR htop
        have hput := quo_put T V x HPOS.out
        have hqd := quo_digit T V x HPOS.out hxb
        rw [hR, ← htop] at hput
        rw [hR] at hqd
        have hRV : R < V := by rw [← hR]; exact Nat.mod_lt _ HPOS.out
        have hrd := HR.out
        have hzv := HZV.out
        rw [hT, hR] at hrd
        rw [hT] at hzv
        obtain ⟨p3, n3, c3, rfl, hnc3, hcm3, hnil3, hd3⟩ := hrd
        have hRl : (es R).length ≤ 1000 := Nat.le_trans (es_len_le (Nat.le_of_lt hRV)) HLB.out
        have hn3 : n3 ≤ 1000 := by rw [← hd3.len]; exact hRl
        have hnilb : p3 = none → n3 = 0 ∧ c3 = 0 := fun h => ⟨hd3.nil h, hnil3 h⟩
        have HD3 := Lib.hid hd3
        have HN3 := Lib.hid (show ((es R).map I).length = n3 by rw [List.length_map]; exact hd3.len)
        have HNIL := Lib.hid hnilb
        have HZV2 := Lib.hid hzv
        have HPUT := Lib.hid hput
        have HQD := Lib.hid hqd
        have HRV := Lib.hid hRV
        have HRL := Lib.hid hRl
        have HXB := Lib.hid hxb
        clear hd1 hx hxb htop hT hR hput hqd hRV hzv hnil3 hd3 hRl hnilb HR HZV hkx
        go_wp2_with (at_builtin; refine wpList_append_upsrc _ rfl _ _ 38 rfl wr.heap.size 3 i0 .i64 0 8 Tryd.underlying38 hi hz0 hz1 hz2 (by decide) _ _ rfl (own_lit1 wr wr.heap.size 3 _ (Nat.le_refl _)) p3 n3 c3 ((es R).map I) rfl HN3.out HNIL.out (di_news (HD3.out.on (Ch.alloc0 _))) (ints_oneI _) (by simp; omega) (size_alloc_le _ (Nat.le_refl _)) ?_; intro v4 w4 hown4 hC4)
        have hbl := HB.out.lt
        have hC4' := (HC.out.alloc (Nat.le_of_lt hbl) _).trans (hC4.mono (Nat.le_of_lt hbl) (fun _ _ q => q))
        have hB4 := hC4.blk (HB.out.alloc _) hbl (fun q => q)
        have hown5 : Own w4 wr.heap.size 3 v4 ((x :: es R).map I) := hown4
        obtain ⟨p5, c5, rfl, q1, q2, q0, qd, ql⟩ := Own.di hown5 (Eok.cons HXB.out (eok_es R))
        have hle5 : ulen (x :: es R) ≤ (x :: es R).length := ulen_le _
        have hd5 := qd.take (ulen (x :: es R)) hle5
        rw [trimE _ (Eok.cons HXB.out (eok_es R)), ev_cons, ev_es] at hd5
        have htr := rtrim_any p5 _ c5 (x :: es R) w4 qd q1 q2
        obtain ⟨n5, hn5⟩ : ∃ n5, ulen (x :: es R) = n5 := ⟨_, rfl⟩
        rw [hn5] at hd5 htr hle5
        have hne5 : ∀ a, p5 = some a → a.block ≠ Bq := fun a ha => by have := ql a ha; omega
        obtain ⟨U, hU⟩ : ∃ U, x + E24 * R = U := ⟨_, rfl⟩
        rw [hU] at hd5
        have hput := HPUT.out
        have hqd := HQD.out
        rw [hU] at hput hqd
        have hUl : (es U).length ≤ 1001 := by rw [← hU]; exact es_len_cons HXB.out HRL.out
        have HTR := Lib.hid htr
        have HRD5 := Lib.hid (show RdE w4 (.slice p5 n5 c5) U from ⟨p5, n5, c5, rfl, by omega, q2, q0, hd5⟩)
        have HNE5 := Lib.hid hne5
        have HC4 := Lib.hid hC4'
        have HB4 := Lib.hid hB4
        have HPUT2 := Lib.hid hput
        have HQD2 := Lib.hid hqd
        have HUL := Lib.hid hUl
        clear hbl hC4' hB4 hown5 qd hd5 htr hle5 hne5 hput hqd hUl hown4 hC4 ql HPUT HQD hn5 hU HC HB HD3 HN3 HNIL
        refine HTR.out.mono ?_
        rintro e w5 ⟨rfl, rfl⟩
        go_wp2_with fail
        refine (rcmp_any (.slice p5 n5 c5) (.slice p2 n2 c2) U V _ HRD5.out (HRA2.out _ HC4.out) (Nat.le_trans HUL.out (by omega)) (Nat.le_trans HLB.out (by omega))).mono ?_
        rintro e w6 ⟨r, rfl, hs, hC6⟩
        have HC6 := Lib.hid (HC4.out.trans (hC6.mono (Nat.le_of_lt HB4.out.lt) (fun _ _ q => q)))
        have HB6 := Lib.hid (hC6.blk HB4.out HB4.out.lt (fun q => q))
        have HRD6 := Lib.hid (HRD5.out.on hC6)
        clear hC6 HC4 HB4 HRD5 HTR
        by_cases hr : 0 ≤ r
        · have hle := hs.2.1 hr
          have HLE := Lib.hid hle
          clear hs hle
          go_wp2_with fail
          refine (rdigit_any (.slice p5 n5 c5) (.slice p2 n2 c2) U V _ HRD6.out (HRA2.out _ HC6.out) HPOS.out HQD2.out (Nat.le_trans HUL.out (by omega)) (Nat.le_trans HLB.out (by omega))).mono ?_
          rintro e w7 ⟨rfl, hC7⟩
          obtain ⟨q, hq⟩ : ∃ q, U / V = q := ⟨_, rfl⟩
          have HC7 := Lib.hid (HC6.out.trans (hC7.mono (Nat.le_of_lt HB6.out.lt) (fun _ _ q => q)))
          have HB7 := Lib.hid (hC7.blk HB6.out HB6.out.lt (fun q => q))
          have HRD7 := Lib.hid (HRD6.out.on hC7)
          have hkz : k < zs.length := by rw [HZ.out]; omega
          have hzc : w7.cell? ⟨Bq, k, none⟩ = some (I zs[k]) := by
            rw [HB7.out.cell k, List.getElem?_map, List.getElem?_eq_getElem hkz]; rfl
          have hfz := HB7.out.frozen k
          have hput := HPUT2.out
          have hqE := HQD2.out
          rw [hq] at hput hqE ⊢
          have hvq : V * q ≤ U := by rw [← hq]; exact Nat.mul_div_le U V
          have hmodq : U - V * q = U % V := by rw [← hq]; have := Nat.mod_add_div U V; omega
          have hd7 : RdE (w7.setCell ⟨Bq, k, none⟩ (I q)) (.slice p5 n5 c5) U := by
            obtain ⟨p', n', c', hv, a1, a2, a3, a4⟩ := HRD7.out
            simp only [Value.slice.injEq] at hv
            obtain ⟨rfl, rfl, rfl⟩ := hv
            exact ⟨_, _, _, rfl, a1, a2, a3, di_set a4 Bq k _ HNE5.out⟩
          have hb8 := (HB7.out.set k (I q)).cast (set_map zs k q)
          have hc8 := HC7.out.setCell (p := ⟨Bq, k, none⟩) (.inl (Nat.le_refl _)) (I q)
          have hload : (w7.setCell ⟨Bq, k, none⟩ (I q)).cell? ⟨Bq, k, none⟩ = some (I q) := by
            rw [hb8.cell k, List.getElem?_map, List.getElem?_set_self hkz]; rfl
          obtain ⟨z, hzz⟩ : ∃ z, zs[k] = z := ⟨_, rfl⟩
          rw [hzz] at hzc
          have HRD8 := Lib.hid hd7
          have HB8 := Lib.hid hb8
          have HC8 := Lib.hid hc8
          have HPUT3 := Lib.hid hput
          have HQE := Lib.hid hqE
          have HVQ := Lib.hid hvq
          have HMQ := Lib.hid hmodq
          have HKZ := Lib.hid hkz
          have hk1 : (k : Int) < (n1 : Int) := by omega
          clear hq hput hqE hvq hmodq hd7 hb8 hc8 hC7 hzz hkz
          go_wp2_with fail
          refine (rtimes_any (.slice p2 n2 c2) V q _ (HRA2.out _ HC8.out) HQE.out (Nat.le_trans HLB.out (by omega))).mono ?_
          rintro e w9 ⟨v9, rfl, hr9, hC9⟩
          have HR9 := Lib.hid hr9
          have HB9 := Lib.hid (hC9.blk HB8.out HB8.out.lt (fun q => q))
          have HRD9 := Lib.hid (HRD8.out.on hC9)
          have HC9 := Lib.hid (HC8.out.trans (hC9.mono (Nat.le_of_lt HB8.out.lt) (fun _ _ q => q)))
          clear hr9 hC9 hload hzc hfz
          go_wp2_with fail
          refine (rminus_any (.slice p5 n5 c5) v9 U (V * q) _ HRD9.out HR9.out HVQ.out (Nat.le_trans HUL.out (by omega))).mono ?_
          rintro e w10 ⟨v10, rfl, hr10, hC10⟩
          rw [HMQ.out, ← HPUT3.out.2] at hr10
          have HR10 := Lib.hid hr10
          have HB10 := Lib.hid (hC10.blk HB9.out HB9.out.lt (fun q => q))
          have HC10 := Lib.hid (HC9.out.trans (hC10.mono (Nat.le_of_lt HB9.out.lt) (fun _ _ q => q)))
          clear hr10 hC10
          go_wp2_with fail
          go_roundw
          case rel =>
            refine ⟨k, zs.set k q, by omega, rfl, HR10.out, by rw [List.length_set]; exact HZ.out, HZK.out.set _ _ HQE.out, fun i hi => ?_, ?_, HB10.out, HC10.out⟩
            · rw [getD_set_lt zs k q i hi]; exact HZ0.out i (by omega)
            · rw [quo_row _ V k q zs HZ0.out HKZ.out HZV2.out, HPUT3.out.1]
          case measure => simp [intOf]
        · have hlt : U < V := by
            rcases Nat.lt_or_ge U V with h | h
            · exact h
            · exact absurd (hs.2.2 h) hr
          have hput := HPUT2.out
          rw [Nat.div_eq_of_lt hlt, Nat.zero_add, Nat.mod_eq_of_lt hlt] at hput
          have hkz : k < zs.length := by rw [HZ.out]; omega
          have hrd := HRD6.out
          rw [← hput.2] at hrd
          have hq0 := quo_zero _ k zs HZ0.out hkz HZV2.out
          rw [← hput.1] at hq0
          have HRD := Lib.hid hrd
          have HQ0 := Lib.hid hq0
          clear hs hlt hput hkz hrd hq0
          go_wp2_with fail
          go_roundw
          case rel => exact ⟨k, zs, by omega, rfl, HRD.out, HZ.out, HZK.out, fun i hi => HZ0.out i (by omega), HQ0.out, HB6.out, HC6.out⟩
          case measure => simp [intOf]
theorem rquo_any (a b : List UInt8) (w : World) (ha : a.length ≤ 1000) (hb : b.length ≤ 1000) (h0 : 0 < bv b) :
    Calls Tryd.prog 55 #[S a, S b] w (Yld w (.tuple #[S (nb (bv a / bv b)), S (nb (bv a % bv b)), .bool true])) := by
  have hcan : ∀ w, Calls Tryd.prog 33 #[S b] w fun e w' => e = .returned (S (trimL b)) ∧ w' = w := fun w => canon_any b w (by omega)
  have hyv := bv_trim b
  have hyl : (trimL b).length ≤ 1000 := Nat.le_trans (trimL_len b) hb
  obtain ⟨y, hy⟩ : ∃ y, trimL b = y := ⟨_, rfl⟩
  rw [hy] at hcan hyv hyl
  clear hy
  by_cases h1 : bv a < 256 ^ 7
  · by_cases h2 : bv y < 256 ^ 7
    · have s1 : ∀ w, Calls Tryd.prog 47 #[S a, .int .i64 7] w fun e w' => e = .returned (.tuple #[.int .i64 (bv a : Nat), .bool true]) ∧ w' = w := fun w => small_yes a 7 w (by omega) (by omega) h1
      have s2 : ∀ w, Calls Tryd.prog 47 #[S y, .int .i64 7] w fun e w' => e = .returned (.tuple #[.int .i64 (bv y : Nat), .bool true]) ∧ w' = w := fun w => small_yes y 7 w (by omega) (by omega) h2
      have hyl0 : 0 < y.length := by
        rcases Nat.eq_zero_or_pos y.length with h | h
        · have := List.eq_nil_of_length_eq_zero h
          subst this
          rw [bv_nil] at hyv
          omega
        · exact h
      have hyl2 : ((y.length : Int) == 0) = false := by rw [beq_eq_false_iff_ne]; omega
      rw [hyv] at s2 h2
      have H1 := Lib.hid s1
      have H2 := Lib.hid s2
      have HCAN := Lib.hid hcan
      clear s1 s2 hcan hyv hyl0
      obtain ⟨A, hA⟩ : ∃ A, bv a = A := ⟨_, rfl⟩
      obtain ⟨B, hB⟩ : ∃ B, bv b = B := ⟨_, rfl⟩
      rw [hA] at h1 H1 ⊢
      rw [hB] at h2 h0 H2 ⊢
      have h1' : A < 72057594037927936 := h1
      have h2' : B < 72057594037927936 := h2
      have hqi : (A : Int).tdiv (B : Int) = ((A / B : Nat) : Int) := by rw [Int.tdiv_eq_ediv_of_nonneg (by omega)]; exact (Int.natCast_ediv _ _).symm
      have hri : (A : Int).tmod (B : Int) = ((A % B : Nat) : Int) := by rw [Int.tmod_eq_emod_of_nonneg (by omega)]; exact (Int.natCast_emod _ _).symm
      have hb0 : ((B : Int) == 0) = false := by rw [beq_eq_false_iff_ne]; omega
      have hqb : A / B ≤ A := Nat.div_le_self _ _
      have hrb : A % B ≤ A := Nat.mod_le _ _
      obtain ⟨qq, hqq⟩ : ∃ q, A / B = q := ⟨_, rfl⟩
      obtain ⟨rr, hrr⟩ : ∃ r, A % B = r := ⟨_, rfl⟩
      rw [hqq] at hqi hqb ⊢
      rw [hrr] at hri hrb ⊢
      have HO1 := Lib.hid (show ∀ w, Calls Tryd.prog 29 #[.int .i64 (IntKind.i64.wrap (qq : Int))] w (Yld w (S (nb qq))) from fun w => by rw [IntWalk.i64_in _ (by omega)]; exact refOf_any (qq : Int) w (by omega) (by omega))
      have HO3 := Lib.hid (show ∀ w, Calls Tryd.prog 29 #[.int .i64 (qq : Int)] w (Yld w (S (nb qq))) from fun w => refOf_any (qq : Int) w (by omega) (by omega))
      have HO2 := Lib.hid (show ∀ w, Calls Tryd.prog 29 #[.int .i64 (rr : Int)] w (Yld w (S (nb rr))) from fun w => refOf_any (rr : Int) w (by omega) (by omega))
      clear h1 h2 hA hB hqq hrr ha hb hyl
      go_enter Tryd.func55, Tryd.ntmps55
      go_wp2_with (first
        | (go_at_call 33; with_reducible refine (HCAN.out _).mono ?_; rintro e w' ⟨rfl, rfl⟩)
        | (go_at_call 47; with_reducible refine (H1.out _).mono ?_; rintro e w' ⟨rfl, rfl⟩)
        | (go_at_call 47; with_reducible refine (H2.out _).mono ?_; rintro e w' ⟨rfl, rfl⟩))
      obtain ⟨wo, rfl⟩ : ∃ wo : World, wo = w' := ⟨_, rfl⟩
      have HX := Lib.hid (Ch.refl wo.drew.heap.size none1 wo.drew)
      go_region_with (first
        | (go_at_call 29; with_reducible refine (HO1.out _).mono ?_; rintro e wq ⟨rfl, hCq⟩; have HX2 := Lib.hid (HX.out.step0 hCq (Nat.le_refl _)); clear hCq HX; have HX := HX2; clear HX2)
        | (go_at_call 29; with_reducible refine (HO3.out _).mono ?_; rintro e wq ⟨rfl, hCq⟩; have HX2 := Lib.hid (HX.out.step0 hCq (Nat.le_refl _)); clear hCq HX; have HX := HX2; clear HX2)
        | (go_at_call 29; with_reducible refine (HO2.out _).mono ?_; rintro e wq ⟨rfl, hCq⟩; have HX2 := Lib.hid (HX.out.step0 hCq (Nat.le_refl _)); clear hCq HX; have HX := HX2; clear HX2))
      all_goals go_wp2_with fail
      all_goals go_ret3
      all_goals exact ⟨rfl, ((Ch.refl wo.heap.size none1 wo).drew).step0 HX.out (Nat.le_refl _)⟩
    · exact rquo_gen a b y _ _ true false w ha hyl hcan hyv h0 (.inr ⟨rfl, rfl⟩) (fun w => small_yes a 7 w (by omega) (by omega) h1) (fun w => small_no y 7 w (by omega) (by omega) h2)
  · by_cases h2 : bv y < 256 ^ 7
    · exact rquo_gen a b y _ _ false true w ha hyl hcan hyv h0 (.inl rfl) (fun w => small_no a 7 w (by omega) (by omega) h1) (fun w => small_yes y 7 w (by omega) (by omega) h2)
    · exact rquo_gen a b y _ _ false false w ha hyl hcan hyv h0 (.inl rfl) (fun w => small_no a 7 w (by omega) (by omega) h1) (fun w => small_no y 7 w (by omega) (by omega) h2)
set_option maxRecDepth 100000 in
theorem rquo_no (a b : List UInt8) (w : World) (hb : b.length ≤ 1000) (h0 : bv b = 0) :
    Calls Tryd.prog 55 #[S a, S b] w (Yld w (.tuple #[S [], S [], .bool false])) := by
  have ht : trimL b = [] := (trimL_nil_iff b).2 h0
  have HCAN := Lib.hid (fun w => canon_any b w (by omega))
  rw [ht] at HCAN
  clear ht h0 hb
  go_enter Tryd.func55, Tryd.ntmps55
  go_wp2_with (first
    | (go_at_call 33; with_reducible refine (HCAN.out _).mono ?_; rintro e w' ⟨rfl, rfl⟩))
  go_ret3
  exact ⟨rfl, Ch.refl _ _ _⟩
end Go.Proofs.YtcghnkdfhiancaaDoor
