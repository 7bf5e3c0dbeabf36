/- What the document's dice roll (davitref37). -/
import Derived.Test.YtijicghdmlfheaaRows
import Derived.Test.YtijicghdmlfheaaDr0
import Derived.WalkKit
import Derived.ProofKit
import Derived.OpenShut
import Derived.BigQuiet
import Derived.BigGuard
import Derived.Carry
namespace Go.Proofs.Ytijicghdmlfheaa.Dri
open Go.ChangeShapes Go.WideShapes Go.ChangeAt Go.RowKit
open Mm
set_option linter.unusedVariables false
set_option linter.unusedSimpArgs false

theorem wu64 (n : Int) : IntKind.u64.wrap n = n % 18446744073709551616 := by simp [IntKind.wrap, IntKind.bits, IntKind.signed]
theorem st_int (x : Nat) : IntKind.u64.wrap (IntKind.u64.wrap ((x : Int) * 6364136223846793005) + 1442695040888963407) = (st x : Nat) := by
  unfold st
  rw [wu64, wu64]
  omega
theorem w64 (s c : Nat) (h : s < 18446744073709551616) (hc : c ≤ 2147483648) (h1 : 1 ≤ c) : wrap64 ((s : Int) / 8589934592 % (c : Int)) = ((s / 8589934592 % c : Nat) : Int) := by
  have e : ((s : Int) / 8589934592 % (c : Int)) = ((s / 8589934592 % c : Nat) : Int) := by simp
  rw [e]
  have : s / 8589934592 % c < c := Nat.mod_lt _ (by omega)
  unfold wrap64
  omega
set_option maxRecDepth 100000 in
set_option maxHeartbeats 4000000 in
theorem rroll_any (z x : Nat) (b : Int) (w : World) (h : Blk w z [.int .u64 (x : Int)] 28) (hx : x < 18446744073709551616) :
    Calls Try.prog 9 #[.pointer (some ⟨z, 0, none⟩), .int .i64 b] w fun e w' => e = .returned (.int .i64 (rlN x b)) ∧ Blk w' z [.int .u64 (rlS x b : Nat)] 28 ∧ Fr w.heap.size [z] w w' := by
  have HB : Hid (Blk w z [.int .u64 (x : Int)] 28) := h
  by_cases h1 : b < 1
  · have e1 : decide (b < 1) = true := decide_eq_true h1
    have v0 : vd b = false := by unfold vd; rw [decide_eq_false (by omega)]; rfl
    rw [show rlN x b = 0 by unfold rlN; rw [v0]; rfl, show rlS x b = x by unfold rlS; rw [v0]; rfl]
    clear h
    go_enter Try.func9, Try.ntmps9
    go_wp2
    go_ret
    exact ⟨rfl, HB.out, Fr.refl _ _ _⟩
  · have e1 : decide (b < 1) = false := decide_eq_false h1
    by_cases h2 : 2147483648 < b
    · have e2 : decide (2147483648 < b) = true := decide_eq_true h2
      have v0 : vd b = false := by unfold vd; rw [decide_eq_true (show 1 ≤ b by omega), decide_eq_false (by omega)]; rfl
      rw [show rlN x b = 0 by unfold rlN; rw [v0]; rfl, show rlS x b = x by unfold rlS; rw [v0]; rfl]
      clear h
      go_enter Try.func9, Try.ntmps9
      go_wp2
      go_ret
      exact ⟨rfl, HB.out, Fr.refl _ _ _⟩
    · have e2 : decide (2147483648 < b) = false := decide_eq_false h2
      have v1 : vd b = true := by unfold vd; rw [decide_eq_true (show 1 ≤ b by omega), decide_eq_true (by omega)]; rfl
      obtain ⟨c, rfl⟩ := Int.eq_ofNat_of_zero_le (show 0 ≤ b by omega)
      rw [show rlN x (c : Int) = ((st x / 8589934592 % c : Nat) : Int) by unfold rlN; rw [if_pos v1, Int.toNat_natCast], show rlS x (c : Int) = st x by unfold rlS; rw [if_pos v1]]
      have SI := st_int x
      have SL : Hid (st x < 18446744073709551616) := st_lt x
      have KS : Hid (Blk (w.setCell ⟨z, 0, none⟩ (.int .u64 (st x : Nat))) z [.int .u64 (st x : Nat)] 28) := h.set 0 _
      have FS : Hid (Fr w.heap.size [z] w (w.setCell ⟨z, 0, none⟩ (.int .u64 (st x : Nat)))) := (Fr.refl _ _ _).setCell (Or.inr (by simp)) _
      have c0 : w.cell? ⟨z, 0, none⟩ = some (.int .u64 (x : Int)) := h.cell 0
      have fz : w.frozen? ⟨z, 0, none⟩ = false := h.free 0
      clear h
      generalize st x = s at *
      go_enter Try.func9, Try.ntmps9
      go_wp2
      go_ret
      exact ⟨congrArg (fun n => Ending.returned (.int .i64 n)) (w64 s c SL.out (by omega) (by omega)), KS.out, FS.out⟩
end Go.Proofs.Ytijicghdmlfheaa.Dri
