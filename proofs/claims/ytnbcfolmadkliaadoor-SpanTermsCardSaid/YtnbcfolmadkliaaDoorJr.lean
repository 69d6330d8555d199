/- SpanRules: mathematics and the walk. -/
import Derived.Test.YtnbcfolmadkliaaDoorSt
namespace Go.Proofs.YtnbcfolmadkliaaDoor
open Go.RowKit Go.Shelf
theorem has_rev (l : List Spn.Sp) (d : Int) : Spn.has l.reverse d = Spn.has l d := by unfold Spn.has; rw [List.any_reverse]
theorem has_u (A B : List Spn.Sp) (d : Int) : Spn.has (Spn.nf (dUnion A B)) d = (Spn.has A d || Spn.has B d) := (Spn.nf_spec (dom_union A B)).2 d
theorem has_m (A B : List Spn.Sp) (d : Int) : Spn.has (Spn.nf (dMeet A B)) d = (Spn.has A d && Spn.has B d) := (Spn.nf_spec (dom_meet A B)).2 d
theorem has_l (A B : List Spn.Sp) (d : Int) : Spn.has (Spn.nf (dLess A B)) d = (Spn.has A d && !Spn.has B d) := (Spn.nf_spec (dom_less A B)).2 d
theorem rl1 (A B : List Spn.Sp) : Spn.nf (dUnion B A.reverse) = Spn.nf (dUnion A B) := congrArg Spn.nf (funext fun d => by
  show (Spn.has B d || Spn.has A.reverse d) = (Spn.has A d || Spn.has B d)
  rw [has_rev, Bool.or_comm])
theorem rl2 (A B : List Spn.Sp) : Spn.nf (dMeet B A.reverse) = Spn.nf (dMeet A B) := congrArg Spn.nf (funext fun d => by
  show (Spn.has B d && Spn.has A.reverse d) = (Spn.has A d && Spn.has B d)
  rw [has_rev, Bool.and_comm])
theorem rl3 (A B : List Spn.Sp) : Spn.nf (dUnion (Spn.nf (dUnion A B)) A) = Spn.nf (dUnion A B) := congrArg Spn.nf (funext fun d => by
  show (Spn.has (Spn.nf (dUnion A B)) d || Spn.has A d) = (Spn.has A d || Spn.has B d)
  rw [has_u]
  cases Spn.has A d <;> cases Spn.has B d <;> rfl)
theorem rl4 (A B : List Spn.Sp) : Spn.nf (dMeet (Spn.nf (dMeet A B)) B) = Spn.nf (dMeet A B) := congrArg Spn.nf (funext fun d => by
  show (Spn.has (Spn.nf (dMeet A B)) d && Spn.has B d) = (Spn.has A d && Spn.has B d)
  rw [has_m]
  cases Spn.has A d <;> cases Spn.has B d <;> rfl)
theorem rl5 (A B : List Spn.Sp) : Spn.nf (dMeet (Spn.nf (dMeet A B)) (Spn.nf (dLess A B))) = [] := Spn.nf_eq Spn.Nrm.nil fun d => by
  show false = (Spn.has (Spn.nf (dMeet A B)) d && Spn.has (Spn.nf (dLess A B)) d)
  rw [has_m, has_l]
  cases Spn.has A d <;> cases Spn.has B d <;> rfl
theorem rl6 (A B : List Spn.Sp) : Spn.nf (dUnion (Spn.nf (dMeet A B)) (Spn.nf (dLess A B))) = Spn.nf (Spn.has A) := congrArg Spn.nf (funext fun d => by
  show (Spn.has (Spn.nf (dMeet A B)) d || Spn.has (Spn.nf (dLess A B)) d) = Spn.has A d
  rw [has_m, has_l]
  cases Spn.has A d <;> cases Spn.has B d <;> rfl)
theorem rl7 (A B : List Spn.Sp) : Spn.nf (dLess A.reverse B) = Spn.nf (dLess A B) := congrArg Spn.nf (funext fun d => by
  show (Spn.has A.reverse d && !Spn.has B d) = (Spn.has A d && !Spn.has B d)
  rw [has_rev])
theorem Union_as {a b L : List Spn.Sp} {pa pb : Option Addr} {na nb ca cb : Nat} {w : World} (ha : Rd spc 2 w pa na a) (hb : Rd spc 2 w pb nb b) (hna : na ≤ 4000000) (hnb : nb ≤ 4000000) (h : Spn.nf (dUnion a b) = L) :
    Calls Tryd.prog 12 #[.slice pa na ca, .slice pb nb cb] w (Ys w L) := by
  have := Union_any a b pa pb na nb ca cb w ha hb hna hnb
  rwa [h] at this
theorem Meet_as {a b L : List Spn.Sp} {pa pb : Option Addr} {na nb ca cb : Nat} {w : World} (ha : Rd spc 2 w pa na a) (hb : Rd spc 2 w pb nb b) (hna : na ≤ 4000000) (hnb : nb ≤ 4000000) (h : Spn.nf (dMeet a b) = L) :
    Calls Tryd.prog 13 #[.slice pa na ca, .slice pb nb cb] w (Ys w L) := by
  have := Meet_any a b pa pb na nb ca cb w ha hb hna hnb
  rwa [h] at this
theorem Less_as {a b L : List Spn.Sp} {pa pb : Option Addr} {na nb ca cb : Nat} {w : World} (ha : Rd spc 2 w pa na a) (hb : Rd spc 2 w pb nb b) (hna : na ≤ 4000000) (hnb : nb ≤ 4000000) (h : Spn.nf (dLess a b) = L) :
    Calls Tryd.prog 14 #[.slice pa na ca, .slice pb nb cb] w (Ys w L) := by
  have := Less_any a b pa pb na nb ca cb w ha hb hna hnb
  rwa [h] at this
end Go.Proofs.YtnbcfolmadkliaaDoor
