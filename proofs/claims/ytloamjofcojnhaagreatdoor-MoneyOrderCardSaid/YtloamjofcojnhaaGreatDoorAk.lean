/- Package money: greatest. -/
import Derived.Test.YtloamjofcojnhaaGreatDoorAj
namespace Go.Proofs.YtloamjofcojnhaaGreatDoor
open Go.RowKit
set_option maxRecDepth 100000 in
set_option maxHeartbeats 3200000 in
theorem greatest_any (p : Option Addr) (n cap : Nat) (c : Int) (w : World) :
    Calls Tryz.prog 106 #[.slice p n cap, .int .i64 c] w fun e w' => e = .returned (.func (.func 147) #[] #[.pointer (some ⟨w.heap.size, 0, none⟩), .pointer (some ⟨w.heap.size + 1, 0, none⟩)]) ∧
      w' = (w.alloc (.cells #[.slice p n cap] 66)).alloc (.cells #[.int .i64 c] 3) := by
  go_enter Tryz.func106, Tryz.ntmps106
  go_wp2_with fail
  go_ret
  exact ⟨rfl, rfl⟩
end Go.Proofs.YtloamjofcojnhaaGreatDoor
