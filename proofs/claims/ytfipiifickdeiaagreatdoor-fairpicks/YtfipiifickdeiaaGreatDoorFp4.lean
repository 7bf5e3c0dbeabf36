/- The law FairPicks, but for its fixed calls. -/
import Derived.Test.YtfipiifickdeiaaGreatDoorRows
import Derived.Test.YtfipiifickdeiaaGreatDoorFp3
import Derived.WalkKit
import Derived.ProofKit
import Derived.OpenShut
import Derived.BigQuiet
import Derived.BigGuard
import Derived.Carry
namespace Go.Proofs.YtfipiifickdeiaaGreatDoor.Fai
open Go.ChangeShapes Go.WideShapes Go.ChangeAt Go.RowKit
open Mm

theorem nat_of {z : Int} (h : (Lit.int .u64 z).wf = true) : ∃ n : Nat, z = (n : Int) ∧ n < 18446744073709551616 := by
  simp [Lit.wf, IntKind.min, IntKind.max, IntKind.bits, IntKind.signed] at h
  exact ⟨z.toNat, by omega, by omega⟩
set_option maxRecDepth 100000 in
set_option maxHeartbeats 4000000 in
theorem picks_walk (xs : List Int) (o : Nat) (n : Int) (a : Option Addr) (cap : Nat) (w : World) (h : Row w (.slice a xs.length cap) xs) (hc : xs.length ≤ cap) (ho : o < 18446744073709551616) (hn : (Lit.int .i64 n).wf = true) (KN : ∀ u, Below w.heap.size w u → Calls Tryz.prog 4 #[] u fun e w' => e = .returned (.bool true) ∧ Below u.heap.size u w') :
    Calls Tryz.prog 3 #[.slice a xs.length cap, .int .u64 (o : Int), .int .i64 n] w fun e w' => e = .returned (.bool true) ∧ Below w.heap.size w w' := by
  have HK : Hid (∀ u, Below w.heap.size w u → Calls Tryz.prog 4 #[] u fun e w' => e = .returned (.bool true) ∧ Below u.heap.size u w') := KN
  by_cases h0 : (300 : Int) < xs.length
  · have e0 : decide ((300 : Int) < (xs.length : Int)) = true := decide_eq_true h0
    have C : Hid (Calls Tryz.prog _ _ _ _) := HK.out w (Below.refl _ _)
    clear h KN HK hn
    go_enter Tryz.func3, Tryz.ntmps3
    go_wp2_with fail
    refine C.out.mono ?_
    rintro e w1 ⟨rfl, b1⟩
    have B1 : Hid (Below w.heap.size w w1) := b1
    clear b1
    go_wp2
    go_ret
    exact ⟨rfl, B1.out⟩
  · have e0 : decide ((300 : Int) < (xs.length : Int)) = false := decide_eq_false h0
    have C1 : Hid (∀ _ : Unit, _) := fun _ => fair_any xs o n a cap w h hc ho (by omega) hn
    have C2 : Hid (∀ u, Below w.heap.size w u → _) := fun u b => rfair_any xs o n (.slice a xs.length cap) u (Row.keep h (Fr.of_below b) (Nat.le_refl _)) ho (by omega) hn
    have C3 : Hid (∀ v, _) := fun v => bound_any n v
    have C4 : Hid (∀ v, _) := fun v => rbound_any n v
    clear h KN
    generalize fairp xs o n = r at *
    generalize bnd n = q at *
    have r0 : (r == r) = true := by simp
    have q0 : (q == q) = true := by simp
    go_enter Tryz.func3, Tryz.ntmps3
    go_wp2_with fail
    refine (C1.out ()).mono ?_
    rintro e w1 ⟨rfl, b1⟩
    have B1 : Hid (Below w.heap.size w w1) := b1
    clear b1
    go_wp2_with fail
    refine (C2.out _ B1.out).mono ?_
    rintro e w2 ⟨rfl, b2⟩
    have B2 : Hid (Below w.heap.size w w2) := B1.out.trans (b2.mono B1.out.size)
    clear b2
    go_wp2_with fail
    refine (C3.out _).mono ?_
    rintro e w3 ⟨rfl, rfl⟩
    go_wp2_with fail
    refine (C4.out _).mono ?_
    rintro e w4 ⟨rfl, rfl⟩
    go_wp2_with fail
    refine (HK.out _ B2.out).mono ?_
    rintro e w5 ⟨rfl, b5⟩
    have B5 : Hid (Below w.heap.size w w5) := B2.out.trans (b5.mono B2.out.size)
    clear b5
    go_wp2
    go_ret
    exact ⟨rfl, B5.out⟩
end Go.Proofs.YtfipiifickdeiaaGreatDoor.Fai
