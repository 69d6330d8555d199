/- Decimal texts: their mathematics, and package nat's isDecimal. -/
import Derived.Test.YtcghnkdfhiancaaGreatDoorUj
namespace Go.Proofs.YtcghnkdfhiancaaGreatDoor
open Go.RowKit
def isDig (b : UInt8) : Bool := decide (48 ≤ b.toNat) && decide (b.toNat ≤ 57)
def decB (l : List UInt8) : Bool := match l with
  | [] => false
  | [b] => isDig b
  | b :: c :: m => !(b == 48) && (b :: c :: m).all isDig
def dcv (l : List UInt8) : Nat := l.foldl (fun a b => a * 10 + (b.toNat - 48)) 0
theorem foldl_dcv (l : List UInt8) (a : Nat) : l.foldl (fun a b => a * 10 + (b.toNat - 48)) a = a * 10 ^ l.length + dcv l := by
  induction l generalizing a with
  | nil => simp [dcv]
  | cons b l ih =>
    have h1 := ih (a * 10 + (b.toNat - 48))
    have h2 := ih (0 * 10 + (b.toNat - 48))
    show l.foldl (fun a b => a * 10 + (b.toNat - 48)) (a * 10 + (b.toNat - 48)) = a * 10 ^ (l.length + 1) + l.foldl (fun a b => a * 10 + (b.toNat - 48)) (0 * 10 + (b.toNat - 48))
    rw [h1, h2, Nat.pow_succ, Nat.zero_mul, Nat.zero_add, Nat.add_mul, Nat.mul_assoc a 10, Nat.mul_comm 10]
    omega
theorem dcv_cons (b : UInt8) (l : List UInt8) : dcv (b :: l) = (b.toNat - 48) * 10 ^ l.length + dcv l := by
  have h := foldl_dcv l (0 * 10 + (b.toNat - 48))
  rw [Nat.zero_mul, Nat.zero_add] at h
  rw [← h]
  simp [dcv]
theorem dcv_append (l m : List UInt8) : dcv (l ++ m) = dcv l * 10 ^ m.length + dcv m := by
  unfold dcv
  rw [List.foldl_append, foldl_dcv]
  rfl
theorem dcv_snoc (l : List UInt8) (b : UInt8) : dcv (l ++ [b]) = dcv l * 10 + (b.toNat - 48) := by
  rw [dcv_append]; simp [dcv]
theorem dcv_lt (l : List UInt8) (h : l.all isDig = true) : dcv l < 10 ^ l.length := by
  induction l with
  | nil => simp [dcv]
  | cons b l ih =>
    rw [List.all_cons, Bool.and_eq_true] at h
    have h1 := ih h.2
    have h2 := h.1
    simp only [isDig, Bool.and_eq_true, decide_eq_true_eq] at h2
    have h3 : (b.toNat - 48) * 10 ^ l.length ≤ 9 * 10 ^ l.length := Nat.mul_le_mul_right _ (by omega)
    rw [dcv_cons, List.length_cons, Nat.pow_succ]
    omega
theorem dec_lt {n : Nat} (h : n < 10) : Lib.decDigits n = [UInt8.ofNat (48 + n)] := Lib.decDigits_one h
theorem dec_ge {n : Nat} (h : ¬ n < 10) : Lib.decDigits n = Lib.decDigits (n / 10) ++ [UInt8.ofNat (48 + n % 10)] := by
  rw [Lib.decDigits, dif_neg h]
theorem dig_toNat {n : Nat} (h : n < 10) : (UInt8.ofNat (48 + n)).toNat = 48 + n := by
  rw [UInt8.toNat_ofNat']; omega
theorem dig_is {n : Nat} (h : n < 10) : isDig (UInt8.ofNat (48 + n)) = true := by
  simp only [isDig, dig_toNat h, Bool.and_eq_true, decide_eq_true_eq]; omega
theorem dcv_dec (n : Nat) : dcv (Lib.decDigits n) = n := by
  induction n using Nat.strongRecOn with
  | _ n ih =>
    by_cases h : n < 10
    · rw [dec_lt h]
      unfold dcv
      rw [List.foldl_cons, List.foldl_nil, dig_toNat h]; omega
    · rw [dec_ge h, dcv_snoc, ih _ (by omega), dig_toNat (Nat.mod_lt _ (by omega))]; omega
theorem all_dec (n : Nat) : (Lib.decDigits n).all isDig = true := by
  induction n using Nat.strongRecOn with
  | _ n ih =>
    by_cases h : n < 10
    · rw [dec_lt h, List.all_cons, dig_is h]; rfl
    · rw [dec_ge h, List.all_append, ih _ (by omega), List.all_cons, dig_is (Nat.mod_lt _ (by omega))]; rfl
theorem head_dec (n : Nat) (h0 : 0 < n) : ∃ b m, Lib.decDigits n = b :: m ∧ ¬ b = 48 := by
  induction n using Nat.strongRecOn with
  | _ n ih =>
    by_cases h : n < 10
    · refine ⟨_, [], dec_lt h, fun e => ?_⟩
      have := congrArg UInt8.toNat e
      rw [dig_toNat h] at this
      have h48 : (48 : UInt8).toNat = 48 := rfl
      omega
    · obtain ⟨b, m, he, hb⟩ := ih (n / 10) (by omega) (by omega)
      exact ⟨b, m ++ [UInt8.ofNat (48 + n % 10)], by rw [dec_ge h, he]; rfl, hb⟩
theorem decB_dec (n : Nat) : decB (Lib.decDigits n) = true := by
  rcases Nat.eq_zero_or_pos n with h | h
  · subst h; rw [dec_lt (by omega)]; decide
  · obtain ⟨b, m, he, hb⟩ := head_dec n h
    have ha := all_dec n
    rw [he] at ha ⊢
    cases m with
    | nil => simpa [decB] using ha
    | cons c m => simp only [decB, ha, Bool.and_true]; simp [hb]
theorem decB_all {l : List UInt8} (h : decB l = true) : l.all isDig = true := by
  match l, h with
  | [b], h => simpa [decB] using h
  | b :: c :: m, h =>
    simp only [decB, Bool.and_eq_true] at h
    exact h.2
theorem decB_loop {l : List UInt8} (h0 : l ≠ []) (h : ∀ b m, l ≠ 48 :: b :: m) : decB l = l.all isDig := by
  match l, h0, h with
  | [b], _, _ => simp [decB]
  | b :: c :: m, _, h =>
    have hb : ¬ b = 48 := fun e => h c m (by rw [e])
    simp [decB, hb]
set_option maxRecDepth 100000 in
set_option maxHeartbeats 1600000 in
theorem isDecimal_rest (b : UInt8) (m : List UInt8) (w : World) (hl : (b :: m).length ≤ 1048576) (hb : ¬ b = 48) :
    Calls Tryz.prog 40 #[S (b :: m)] w fun e w' => e = .returned (.bool (decB (b :: m))) ∧ w' = w := by
    have hdec : decB (b :: m) = (b :: m).all isDig := decB_loop (by simp) (fun c t e => hb (by simpa using (List.cons.inj e).1))
    have hg0 : ∀ h', (ByteArray.mk (b :: m).toArray)[0]'h' = b := fun _ => rfl
    have hb0 : ((b.toNat : Int) == 48) = false := by
      rw [beq_eq_false_iff_ne]
      intro h
      exact hb (UInt8.toNat_inj.1 (show b.toNat = (48 : UInt8).toNat from by have : (48 : UInt8).toNat = 48 := rfl; omega))
    have hpos : 0 < (b :: m).length := by simp
    obtain ⟨l, hll⟩ : ∃ l, b :: m = l := ⟨_, rfl⟩
    rw [hll] at hdec hl hg0 hpos ⊢
    have hne : l.isEmpty = false := by rw [← hll]; rfl
    have HDEC := Lib.hid hdec
    clear hdec hll hb
    go_enter Tryz.func40, Tryz.ntmps40
    go_wp2_with fail
    go_loop [17] (fun i => ∃ k : Nat, k ≤ l.length ∧ i = I k ∧ (l.take k).all isDig = true) (fun i => l.length - (intOf i).toNat)
    case atStart => exact ⟨0, Nat.zero_le _, rfl, rfl⟩
    case round =>
      obtain ⟨k, hk, rfl, hall⟩ := hrel
      have HA := Lib.hid hall
      clear hall
      by_cases hlt : k < l.length
      · have hst : (l.take (k + 1)).all isDig = ((l.take k).all isDig && isDig l[k]) := by
          rw [List.take_succ_eq_append_getElem hlt, List.all_append]; simp
        have hno : isDig l[k] = false → l.all isDig = false := fun h => by
          rw [← List.take_append_drop k l, List.all_append, List.drop_eq_getElem_cons hlt, List.all_cons, h]; simp
        obtain ⟨c, hc⟩ : ∃ c, l[k] = c := ⟨_, rfl⟩
        rw [hc] at hst hno
        have hg : ∀ h', (ByteArray.mk l.toArray)[k]'h' = c := fun _ => hc
        have HST := Lib.hid hst
        have HNO := Lib.hid hno
        clear hst hno hc
        by_cases h1 : c.toNat < 48
        · have hd : isDig c = false := by simp [isDig]; omega
          have HD := Lib.hid hd
          clear hd
          go_wp2_with fail
          go_ret
          exact ⟨ret_bool (by rw [HDEC.out, HNO.out HD.out]), rfl⟩
        · by_cases h2 : 57 < c.toNat
          · have hd : isDig c = false := by simp [isDig]; omega
            have HD := Lib.hid hd
            clear hd
            go_wp2_with fail
            go_ret
            exact ⟨ret_bool (by rw [HDEC.out, HNO.out HD.out]), rfl⟩
          · have hd : isDig c = true := by simp [isDig]; omega
            have HD := Lib.hid hd
            clear hd
            go_wp2_with fail
            go_round
            case rel => exact ⟨k + 1, by omega, by go_num, by rw [HST.out, HA.out, HD.out]; rfl⟩
            case measure => simp [intOf]; omega
      · have hke : k = l.length := by omega
        have hfin : l.all isDig = true := by have h := HA.out; rwa [hke, List.take_length] at h
        have HF := Lib.hid hfin
        clear hfin hke
        go_wp2_with fail
        go_ret
        exact ⟨ret_bool (by rw [HDEC.out, HF.out]), rfl⟩
set_option maxRecDepth 100000 in
set_option maxHeartbeats 1600000 in
theorem isDecimal_nought (w : World) : Calls Tryz.prog 40 #[S [48]] w fun e w' => e = .returned (.bool (decB [48])) ∧ w' = w := by
  go_enter Tryz.func40, Tryz.ntmps40
  go_wp2_with fail
  go_loop [17] (fun i => ∃ k : Nat, k ≤ 1 ∧ i = I k) (fun i => 1 - (intOf i).toNat)
  case atStart => exact ⟨0, Nat.zero_le _, rfl⟩
  case round =>
    obtain ⟨k, hk, rfl⟩ := hrel
    have : k = 0 ∨ k = 1 := by omega
    rcases this with rfl | rfl
    · go_wp2_with fail
      go_round
      case rel => exact ⟨1, by omega, by go_num⟩
      case measure => decide
    · go_wp2_with fail
      go_ret
      exact ⟨rfl, rfl⟩
set_option maxRecDepth 100000 in
set_option maxHeartbeats 1600000 in
theorem isDecimal_any (l : List UInt8) (w : World) (hl : l.length ≤ 1048576) :
    Calls Tryz.prog 40 #[S l] w fun e w' => e = .returned (.bool (decB l)) ∧ w' = w := by
  rcases l with _ | ⟨b, m⟩
  · go_enter Tryz.func40, Tryz.ntmps40
    go_wp2_with fail
    go_ret
    exact ⟨rfl, rfl⟩
  · by_cases hz : b = 48 ∧ m ≠ []
    · obtain ⟨rfl, hm⟩ := hz
      obtain ⟨c, m, rfl⟩ : ∃ c m', m = c :: m' := by
        cases m with
        | nil => exact absurd rfl hm
        | cons c m' => exact ⟨c, m', rfl⟩
      have hd : decB (48 :: c :: m) = false := rfl
      rw [hd]
      exact isDecimal_zero c m w (by simp at hl; omega)
    · by_cases hb : b = 48
      · have hm : m = [] := by
          cases m with
          | nil => rfl
          | cons c m' => exact absurd ⟨hb, by simp⟩ hz
        subst hb hm
        exact isDecimal_nought w
      · exact isDecimal_rest b m w hl hb
end Go.Proofs.YtcghnkdfhiancaaGreatDoor
