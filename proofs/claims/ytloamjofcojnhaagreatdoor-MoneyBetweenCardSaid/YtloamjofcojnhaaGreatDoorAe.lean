/- Package money: amounts. -/
import Derived.Test.YtloamjofcojnhaaGreatDoorAd
namespace Go.Proofs.YtloamjofcojnhaaGreatDoor
open Go.RowKit
/-- Amounts of so many cents. -/
def amts (neg : Bool) (l : List (List UInt8)) : List T3 := l.map fun x => pt (mq neg (bv x) 100)
set_option maxRecDepth 100000 in
set_option maxHeartbeats 3200000 in
theorem amounts_any (neg : Bool) (L : List (List UInt8)) (p : Option Addr) (n cap : Nat) (w : World) (hv : Vs w p n (L.map S)) (hn : n ≤ 200) (hsz : ∀ x ∈ L, x.length ≤ 900 ∧ Rt x) :
    Calls Tryz.prog 56 #[.bool neg, .slice p n cap] w fun e w' => e = .returned (.slice (some ⟨w.heap.size, 0, none⟩) n n) ∧ Blk w' w.heap.size 26 (rcs (amts neg L)) ∧ Ch w.heap.size none1 w w' := by
  have hmk : ∀ W : World, (Instr.makeSlice 32 (.int .i64 (n : Int)) (.int .i64 (n : Int))).run Tryz.prog W = .ok (.slice (some ⟨W.heap.size, 0, none⟩) n n) (W.alloc (.cells (madeCells #[.bool false, S [], S []] (n * 3)) 26)) := fun W => by
    have hinf : (Tryz.prog.info? 26).map (fun i => (i.zero, i.size, i.bytes)) = some (some (.agg #[.bool false, S [], S []]), 3, 40) := by kernel_rfl
    obtain ⟨i0, hi, hz0, hz1, hz2⟩ := info_parts hinf
    have h := run_make (P := Tryz.prog) W 32 26 i0 (.agg #[.bool false, S [], S []]) Tryz.underlying32 hi hz0 .i64 .i64 n n (by omega) (Int.le_refl _) (by rw [hz2]; omega) (by omega)
    rw [hz1] at h
    simp only [Int.toNat_natCast] at h
    exact h
  have hlen : L.length = n := by rw [← hv.len, List.length_map]
  have HV := Lib.hid hv
  have HS := Lib.hid hsz
  have HLN := Lib.hid hlen
  clear hv hsz hlen
  obtain ⟨G, hG⟩ : ∃ G, w.heap.size = G := ⟨_, rfl⟩
  rw [hG]
  go_enter Tryz.func56, Tryz.ntmps56
  go_wp2_with fail
  go_loopw [13] (fun i wr => ∃ k : Nat, k ≤ n ∧ i = .int .i64 k ∧ Fl w wr none1 G n (amts neg L) k) (fun i _ => n - (intOf i).toNat)
  case atStart => exact ⟨0, Nat.zero_le _, rfl, Fl.start hG n _⟩
  case round =>
    obtain ⟨k, hk, rfl, hrel⟩ := hrel
    have HR := Lib.hid hrel
    clear hrel
    by_cases hlt : k < n
    · have HVR := Lib.hid (HV.out.ch HR.out.ch)
      obtain ⟨g, o, rfl⟩ := HVR.out.addr (by omega)
      obtain ⟨x, hx⟩ : ∃ x, L[k]? = some x := ⟨L[k]'(by rw [HLN.out]; exact hlt), List.getElem?_eq_getElem _⟩
      obtain ⟨lx, rx⟩ := HS.out x (List.mem_of_getElem? hx)
      have c0 := HVR.out.get (i := k) (t := S x) (by rw [List.getElem?_map, hx]; rfl)
      have h100 : Rt [100] := .inr ⟨100, [], rfl, by decide⟩
      have H1 := Lib.hid (C_Make (s := neg) (n := x) (d := [100]) (by omega) (by decide) rx h100 (by simp) (by rw [show bv [100] = 100 from rfl]; exact pt_is (mq neg (bv x) 100)))
      have HFL := Lib.hid (show (amts neg L)[k]? = some (pt (mq neg (bv x) 100)) by unfold amts; rw [List.getElem?_map, hx]; rfl)
      obtain ⟨⟨s1, n1, d1⟩, hq⟩ : ∃ q, pt (mq neg (bv x) 100) = q := ⟨_, rfl⟩
      rw [hq] at H1 HFL
      clear hq hx lx rx h100
      go_wp2_with fail
      refine (H1.out _).mono ?_
      rintro e wq ⟨rfl, hC⟩
      have HF2 := Lib.hid (HR.out.on hC (fun q => q) (fun _ _ q => q.elim))
      clear hC HR c0
      obtain ⟨x0, y0, z0, e0, e1, e2, f0, f1, f2⟩ := HF2.out.slots hlt
      go_wp2_with fail
      go_roundw
      case rel =>
        refine ⟨k + 1, by omega, by go_num, ?_⟩
        clear hmk
        have hh := HF2.out.put hlt HFL.out
        with_reducible exact hh
      case measure => simp [intOf]; omega
    · have hkn : k = n := by omega
      subst hkn
      go_wp2
      go_ret
      exact ⟨rfl, HR.out.done (by unfold amts; rw [List.length_map, HLN.out]), hG ▸ HR.out.ch⟩
end Go.Proofs.YtloamjofcojnhaaGreatDoor
