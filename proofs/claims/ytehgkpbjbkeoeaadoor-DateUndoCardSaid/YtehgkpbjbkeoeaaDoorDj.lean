/- Package date's isDigit, isPlain, isRight. -/
import Derived.Test.YtehgkpbjbkeoeaaDoorDi
namespace Go.Proofs.YtehgkpbjbkeoeaaDoor
open Go.RowKit Go.Shelf
attribute [local go_sem] Oper.semAt_some
def Lay.dig (c : UInt8) : Bool := decide (48 ≤ c.toNat) && decide (c.toNat ≤ 57)
abbrev cY (c : UInt8) : Value := .int .u8 (c.toNat : Int)
set_option maxRecDepth 100000 in
set_option maxHeartbeats 800000 in
theorem isDigit_any (c : UInt8) (w : World) : Calls Tryd.prog 51 #[cY c] w fun e w' => e = .returned (.bool (Lay.dig c)) ∧ w = w' := by
  by_cases h1 : 48 ≤ c.toNat
  · by_cases h2 : c.toNat ≤ 57
    · have HF := Lib.hid (show Lay.dig c = true by simp [Lay.dig, h1, h2])
      have h4 : decide ((c.toNat : Int) ≤ 57) = true := decide_eq_true (by omega)
      go_enter Tryd.func51, Tryd.ntmps51
      go_wp2_with fail
      go_ret
      exact ⟨by rw [HF.out]; rfl, rfl⟩
    · have HF := Lib.hid (show Lay.dig c = false by simp [Lay.dig, h2])
      have h3 : decide ((c.toNat : Int) ≤ 57) = false := decide_eq_false (by omega)
      go_enter Tryd.func51, Tryd.ntmps51
      go_wp2_with fail
      go_ret
      exact ⟨by rw [HF.out]; rfl, rfl⟩
  · have HF := Lib.hid (show Lay.dig c = false by simp [Lay.dig, h1])
    go_enter Tryd.func51, Tryd.ntmps51
    go_wp2_with fail
    go_ret
    exact ⟨by rw [HF.out]; rfl, rfl⟩
theorem Lay.plain_eq (c : UInt8) : Lay.plain c = (decide (32 ≤ c.toNat) && decide (c.toNat ≤ 126) && !Lay.dig c && !(c == 89)) := rfl
theorem byte_ne (c : UInt8) (k : Nat) (hk : k < 256) : ((c.toNat : Int) == (k : Int)) = (c == UInt8.ofNat k) := by
  rw [Bool.eq_iff_iff]
  simp only [beq_iff_eq]
  constructor
  · intro h
    apply UInt8.toNat_inj.1
    rw [UInt8.toNat_ofNat']
    omega
  · rintro rfl
    rw [UInt8.toNat_ofNat']
    omega
set_option maxRecDepth 100000 in
set_option maxHeartbeats 800000 in
theorem isPlain_any (c : UInt8) (w : World) : Calls Tryd.prog 42 #[cY c] w fun e w' => e = .returned (.bool (Lay.plain c)) ∧ w = w' := by
  have HD := Lib.hid (isDigit_any c w)
  have hb := byte_ne c 89 (by omega)
  by_cases h1 : 32 ≤ c.toNat
  · by_cases h2 : c.toNat ≤ 126
    · rcases h3 : Lay.dig c
      · rw [h3] at HD
        rcases h4 : (c == 89)
        · have HF := Lib.hid (show Lay.plain c = true by rw [Lay.plain_eq, h3, h4]; simp [h1, h2])
          have h5 : ((c.toNat : Int) == 89) = false := hb.trans h4
          have h6 : ((c.toNat : Int) != 89) = true := by rw [bne, h5]; rfl
          clear hb h3 h4 h5
          go_enter Tryd.func42, Tryd.ntmps42
          go_wp2_with (go_at_call 51; with_reducible refine HD.out.mono ?_; rintro e w' ⟨rfl, rfl⟩)
          go_ret
          exact ⟨by rw [HF.out]; rfl, rfl⟩
        · have HF := Lib.hid (show Lay.plain c = false by rw [Lay.plain_eq, h3, h4]; simp)
          have h5 : ((c.toNat : Int) == 89) = true := hb.trans h4
          have h6 : ((c.toNat : Int) != 89) = false := by rw [bne, h5]; rfl
          clear hb h3 h4 h5
          go_enter Tryd.func42, Tryd.ntmps42
          go_wp2_with (go_at_call 51; with_reducible refine HD.out.mono ?_; rintro e w' ⟨rfl, rfl⟩)
          go_ret
          exact ⟨by rw [HF.out]; rfl, rfl⟩
      · rw [h3] at HD
        have HF := Lib.hid (show Lay.plain c = false by rw [Lay.plain_eq, h3]; simp)
        clear hb h3
        go_enter Tryd.func42, Tryd.ntmps42
        go_wp2_with (go_at_call 51; with_reducible refine HD.out.mono ?_; rintro e w' ⟨rfl, rfl⟩)
        go_ret
        exact ⟨by rw [HF.out]; rfl, rfl⟩
    · have HF := Lib.hid (show Lay.plain c = false by rw [Lay.plain_eq]; simp [h2])
      have h3 : 126 < c.toNat := by omega
      clear hb
      go_enter Tryd.func42, Tryd.ntmps42
      go_wp2_with fail
      go_ret
      exact ⟨by rw [HF.out]; rfl, rfl⟩
  · have HF := Lib.hid (show Lay.plain c = false by rw [Lay.plain_eq]; simp [h1])
    clear hb
    go_enter Tryd.func42, Tryd.ntmps42
    go_wp2_with fail
    go_ret
    exact ⟨by rw [HF.out]; rfl, rfl⟩
theorem results_cell_bool {P : Program} {fn : Func} {p : Tmp} {ty : TypeId} (h : fn.results = #[.cell p ty]) (tmps : Array Value) (w : World) (g : Nat) (v : Value)
    (hp : tmps.getD p undef = .pointer (some ⟨g, 0, none⟩)) (hc : w.cell? ⟨g, 0, none⟩ = some v) (hu : P.underlying ty = some .bool) :
    (results fn tmps).run P w = .ok v w := by
  have hp' : tmps[p]?.getD undef = .pointer (some ⟨g, 0, none⟩) := by simpa using hp
  simp [results, h, hp', asAddr, loadVar, isAgg, run_underlying hu, hc, go_sem]
end Go.Proofs.YtehgkpbjbkeoeaaDoor
