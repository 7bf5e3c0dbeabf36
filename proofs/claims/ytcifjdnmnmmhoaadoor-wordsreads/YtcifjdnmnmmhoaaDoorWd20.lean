/- Events as lines: what must come of fixed calls (the law's own). -/
import Derived.Test.YtcifjdnmnmmhoaaDoorRows
import Derived.Test.YtcifjdnmnmmhoaaDoorWd10
import Derived.WalkKit
import Derived.ProofKit
import Derived.OpenShut
import Derived.BigQuiet
import Derived.WalkSmall
import Derived.WalkSpells
namespace Go.Proofs.YtcifjdnmnmmhoaaDoor
open Go.ChangeShapes Go.WideShapes Go.ChangeAt Go.RowKit
open Wd Mm
set_option linter.unusedVariables false
set_option linter.unusedSimpArgs false
set_option maxRecDepth 100000

theorem kn1 : lineOf ⟨3, 0, 3, 5, 0⟩ = some [115, 112, 97, 119, 110, 32, 51, 32, 48, 44, 50] := by decide +kernel
theorem kn2 : evOf [115, 108, 101, 101, 112, 32, 45, 49, 32, 55] = some ⟨6, 0, -1, 0, 7⟩ := by decide +kernel
theorem kn3 : rdo (parts 10 [98, 97, 108, 97, 110, 99, 101, 10, 115, 116, 101, 112, 10]) 0 [] = .inr 1 := by decide +kernel
theorem kn4 : nmI 25 = [102, 97, 105, 108] ∧ kOf [103, 105, 118, 101] = 22 := by decide +kernel

set_option maxHeartbeats 4000000 in
theorem known_yes (w : World) (g : GW w) : Calls Tryd.prog 11 #[] w fun e w' => e = .returned (.bool true) ∧ Below w.heap.size w w' := by
  have C1 : Hid (∀ _ : Unit, Calls Tryd.prog 7 #[.agg #[.int .i64 3, .int .i64 0, .int .i64 3, .int .u64 5, .int .i64 0]] w fun r w' => r = .returned (.tuple #[.string (sb [115, 112, 97, 119, 110, 32, 51, 32, 48, 44, 50]), .int .i64 0]) ∧ Below w.heap.size w w') := fun _ => by
    have := line_any ⟨3, 0, 3, 5, 0⟩ ⟨by unfold inR; decide, by unfold inR; decide, by unfold inR; decide, by decide, by unfold inR; decide⟩ w g
    rw [show lineR ⟨3, 0, 3, 5, 0⟩ = .tuple #[.string (sb [115, 112, 97, 119, 110, 32, 51, 32, 48, 44, 50]), .int .i64 0] by unfold lineR; rw [kn1]] at this
    exact this
  have C2 : Hid (∀ u, Below w.heap.size w u → Calls Tryd.prog 12 #[.string (sb [115, 108, 101, 101, 112, 32, 45, 49, 32, 55])] u fun r w' => r = .returned (.tuple #[.agg #[.int .i64 6, .int .i64 0, .int .i64 (-1), .int .u64 0, .int .i64 7], .int .i64 0]) ∧ Below u.heap.size u w') := fun u b => by
    have := parse_any [115, 108, 101, 101, 112, 32, 45, 49, 32, 55] u (g.below b)
    rw [show parR [115, 108, 101, 101, 112, 32, 45, 49, 32, 55] = .tuple #[.agg #[.int .i64 6, .int .i64 0, .int .i64 (-1), .int .u64 0, .int .i64 7], .int .i64 0] by unfold parR; rw [if_neg (by decide), kn2]; rfl] at this
    exact this
  have C3 : Hid (∀ u, Below w.heap.size w u → Calls Tryd.prog 18 #[.string (sb [98, 97, 108, 97, 110, 99, 101, 10, 115, 116, 101, 112, 10])] u fun r w' => (∃ v, r = .returned (.tuple #[v, .int .i64 1, .int .i64 13])) ∧ Below u.heap.size u w') := fun u b => by
    refine (read_any [98, 97, 108, 97, 110, 99, 101, 10, 115, 116, 101, 112, 10] u (g.below b)).mono ?_
    rintro r w' ⟨⟨v, a, y, rfl, h⟩, b⟩
    unfold RdE at h
    rw [if_neg (by decide), kn3] at h
    obtain ⟨rfl, rfl, rfl⟩ := h
    exact ⟨⟨_, rfl⟩, b⟩
  have C4 : Hid (∀ u, Below w.heap.size w u → Calls Tryd.prog 9 #[.int .i64 25] u fun e w' => e = .returned (.string (sb [102, 97, 105, 108])) ∧ w' = u) := fun u b => by
    have := name_any 25 u (g.below b)
    rw [kn4.1] at this
    exact this
  have C5 : Hid (∀ u, Below w.heap.size w u → Calls Tryd.prog 14 #[.string (sb [103, 105, 118, 101])] u fun e w' => e = .returned (.int .i64 22) ∧ w' = u) := fun u b => by
    have := kind_any [103, 105, 118, 101] u (g.below b)
    rw [kn4.2] at this
    exact this
  clear g
  go_enter Tryd.func11, Tryd.ntmps11
  go_wp2_with fail
  refine (C1.out ()).mono ?_
  rintro e u1 ⟨rfl, b1⟩
  have B1 : Hid (Below w.heap.size w u1) := b1
  clear b1 C1
  go_wp2_with fail
  refine (C2.out _ B1.out).mono ?_
  rintro e u2 ⟨rfl, b2⟩
  have B2 : Hid (Below w.heap.size w (u2.alloc (.cells #[.int .i64 6, .int .i64 0, .int .i64 (-1), .int .u64 0, .int .i64 7] 24))) := (B1.out.trans (b2.mono B1.out.size)).alloc (Nat.le_trans B1.out.size b2.size) _
  have KB : Hid (Blk (u2.alloc (.cells #[.int .i64 6, .int .i64 0, .int .i64 (-1), .int .u64 0, .int .i64 7] 24)) u2.heap.size [.int .i64 6, .int .i64 0, .int .i64 (-1), .int .u64 0, .int .i64 7] 24) := Blk.new u2 _ _
  clear b2 C2 B1
  go_wp2_with fail
  refine (C3.out _ B2.out).mono ?_
  rintro e u3 ⟨⟨v, rfl⟩, b3⟩
  have B3 : Hid (Below w.heap.size w u3) := B2.out.trans (b3.mono B2.out.size)
  have K3 : Blk u3 u2.heap.size [.int .i64 6, .int .i64 0, .int .i64 (-1), .int .u64 0, .int .i64 7] 24 := Blk.keep KB.out (Fr.of_below b3) (Blk.lt KB.out) (by simp)
  have k0 : u3.cell? ⟨u2.heap.size, 0, none⟩ = some (.int .i64 6) := K3.cell 0
  have k1 : u3.cell? ⟨u2.heap.size, 1, none⟩ = some (.int .i64 0) := K3.cell 1
  have k2 : u3.cell? ⟨u2.heap.size, 2, none⟩ = some (.int .i64 (-1)) := K3.cell 2
  have k3 : u3.cell? ⟨u2.heap.size, 3, none⟩ = some (.int .u64 0) := K3.cell 3
  have k4 : u3.cell? ⟨u2.heap.size, 4, none⟩ = some (.int .i64 7) := K3.cell 4
  clear b3 C3 B2 KB K3
  go_wp2_with fail
  refine (C4.out _ B3.out).mono ?_
  rintro e u4 ⟨rfl, rfl⟩
  go_wp2_with fail
  refine (C5.out _ B3.out).mono ?_
  rintro e u5 ⟨rfl, rfl⟩
  go_wp2
  go_ret
  exact ⟨rfl, B3.out⟩
end Go.Proofs.YtcifjdnmnmmhoaaDoor
