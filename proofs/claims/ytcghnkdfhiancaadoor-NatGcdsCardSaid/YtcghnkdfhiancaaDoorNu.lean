/- Contracts of package nat's Parse at a text with a zero in front, and of Text at one digit. -/
import Derived.Test.YtcghnkdfhiancaaDoorNt
namespace Go.Proofs.YtcghnkdfhiancaaDoor
open Go.RowKit
set_option maxRecDepth 100000 in
set_option maxHeartbeats 1600000 in
theorem isDecimal_zero (b : UInt8) (l : List UInt8) (w : World) (hl : l.length ≤ 1048576) :
    Calls Tryd.prog 61 #[S (48 :: b :: l)] w fun e w' => e = .returned (.bool false) ∧ w' = w := by
  have h0 : ((((ByteArray.mk (48 :: b :: l).toArray)[0]'(by simp [ByteArray.size])).toNat : Int) == 48) = true := rfl
  go_enter Tryd.func61, Tryd.ntmps61
  go_wp2_with fail
  go_ret
  exact ⟨rfl, rfl⟩
set_option maxHeartbeats 1600000 in
theorem Parse_zero (b : UInt8) (l : List UInt8) (w : World) (hl : l.length ≤ 1048576) :
    Calls Tryd.prog 35 #[S (48 :: b :: l)] w fun e w' => e = .returned (.tuple #[S [], .bool false]) ∧ w' = w := by
  go_enter Tryd.func35, Tryd.ntmps35
  go_wp2_with fail
  refine (isDecimal_zero b l _ hl).mono ?_
  rintro e w' ⟨rfl, rfl⟩
  go_wp2_with fail
  go_ret2
  exact ⟨rfl, rfl⟩
end Go.Proofs.YtcghnkdfhiancaaDoor
