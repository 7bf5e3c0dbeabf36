/- Contracts of the program's layers, as far as this claim needs them. -/
import Derived.Test.YtmkboahjkhkefaaGreatDoorQKse
import Derived.Test.YtmkboahjkhkefaaGreatDoorRows
import Derived.WalkKit
import Derived.ProofKit
import Derived.OpenShut
import Derived.BigQuiet
import Derived.Deep.RegionHeld3
set_option linter.unusedVariables false
set_option linter.unusedSimpArgs false
namespace Go.Proofs.YtmkboahjkhkefaaGreatDoor.Krn
open Go.ChangeShapes Go.WideShapes Go.ChangeAt Go.RowKit
open Mm
section
variable {B : Nat} {w0 : World} {A : List (Nat × List Value × TypeId)} {a : KA} {m m' : Nat} {S S' : KS} {w w' : World}
theorem rec_ret {z : Nat} {x : Rec} {tmps : Array Value} (h : Blk w z [.int .i64 x.kind, .int .i64 x.cpu, .int .i64 x.id, .int .i64 x.n, .int .i64 x.why] 37) (h2 : tmps.getD 6 undef = .pointer (some ⟨z, 0, none⟩)) :
    (results Tryz.f91 tmps).run Tryz.prog w = .ok (.agg #[.int .i64 x.kind, .int .i64 x.cpu, .int .i64 x.id, .int .i64 x.n, .int .i64 x.why]) w := by
  have q0 : w.cell? ⟨z, 0, none⟩ = some (.int .i64 x.kind) := h.cell 0
  have q1 : w.cell? ⟨z, 1, none⟩ = some (.int .i64 x.cpu) := h.cell 1
  have q2 : w.cell? ⟨z, 2, none⟩ = some (.int .i64 x.id) := h.cell 2
  have q3 : w.cell? ⟨z, 3, none⟩ = some (.int .i64 x.n) := h.cell 3
  have q4 : w.cell? ⟨z, 4, none⟩ = some (.int .i64 x.why) := h.cell 4
  rw [results_one (p := 6) (ty := 37) rfl, h2]
  simp [go_sem, q0, q1, q2, q3, q4]
set_option maxRecDepth 100000 in
set_option maxHeartbeats 4000000 in
theorem k_thing8 (h : KX B w0 A a m S w) (c : Int) :
    Calls Tryz.prog 91 #[.pointer (some ⟨a.k, 0, none⟩), .int .i64 (8), .int .i64 (c)] w fun e w' => e = .returned (.agg #[.int .i64 2, .int .i64 c, .int .i64 (Rqu.pkN a.n S.q c), .int .i64 0, .int .i64 0]) ∧ KX B w0 A a m { adS S c with q := Rqu.pkK a.n S.q c } w' := by
  have c11 : ∀ o, (w.alloc o).cell? ⟨a.k, 11, none⟩ = some (.pointer (some ⟨a.ct, 0, none⟩)) := fun o => (h.alloc o).c11
  have h0 := h.new [.int .i64 0, .int .i64 0, .int .i64 0, .int .i64 0, .int .i64 0] 37
  have ne0 : ∀ x ∈ A, x.1 ≠ w.heap.size := fun x hx => by have := (h.bx x hx).lt; omega
  have CA : Hid (∀ _ : Unit, _) := fun _ => ct_add h0 c
  have CT : Hid (∀ v A, KX B w0 A a m (adS S c) v → _) := fun v A k => rq_pick k c
  simp only [show (adS S c).q = S.q from rfl] at CT
  generalize Rqu.pkN a.n S.q c = id at *
  generalize Rqu.pkE a.n S.q c = ee at *
  go_enter Tryz.func91, Tryz.ntmps91
  go_wp2_with fail
  refine (CA.out ()).mono ?_
  rintro e w1 ⟨rfl, h1⟩
  have h3 := h1.new [.int .i64 2, .int .i64 c, .int .i64 0, .int .i64 0, .int .i64 0] 37
  have lt1 : w.heap.size < w1.heap.size := h1.blk.lt
  have ne1 : ∀ x ∈ ((w.heap.size, [.int .i64 0, .int .i64 0, .int .i64 0, .int .i64 0, .int .i64 0], 37) :: A), x.1 ≠ w1.heap.size := fun x hx => by have := (h1.bx x hx).lt; omega
  have nb1 : w.heap.size ≠ w1.heap.size := by omega
  have nb2 : w1.heap.size ≠ w.heap.size := by omega
  have nb3 : (w.heap.size == w1.heap.size) = false := by simp; omega
  have nb4 : (w1.heap.size == w.heap.size) = false := by simp; omega
  have hb1 : B ≤ w1.heap.size := h1.sz
  have c4 := h3.c4
  go_wp2_with fail
  refine (CT.out _ _ h3).mono ?_
  rintro e w4 ⟨rfl, h4⟩
  have fr : ∀ j, w4.frozen? ⟨w1.heap.size, j, none⟩ = false := fun j => h4.blk.free j
  have fq : ∀ j, w4.frozen? ⟨w.heap.size, j, none⟩ = false := fun j => h4.drop.blk.free j
  have r0 : w4.cell? ⟨w1.heap.size, 0, none⟩ = some (.int .i64 2) := h4.blk.cell 0
  have r1 : w4.cell? ⟨w1.heap.size, 1, none⟩ = some (.int .i64 c) := h4.blk.cell 1
  have r2 : w4.cell? ⟨w1.heap.size, 2, none⟩ = some (.int .i64 0) := h4.blk.cell 2
  have r3 : w4.cell? ⟨w1.heap.size, 3, none⟩ = some (.int .i64 0) := h4.blk.cell 3
  have r4 : w4.cell? ⟨w1.heap.size, 4, none⟩ = some (.int .i64 0) := h4.blk.cell 4
  have z0 : w4.cell? ⟨w.heap.size, 0, none⟩ = some (.int .i64 0) := h4.drop.blk.cell 0
  have z1 : w4.cell? ⟨w.heap.size, 1, none⟩ = some (.int .i64 0) := h4.drop.blk.cell 1
  have z2 : w4.cell? ⟨w.heap.size, 2, none⟩ = some (.int .i64 0) := h4.drop.blk.cell 2
  have z3 : w4.cell? ⟨w.heap.size, 3, none⟩ = some (.int .i64 0) := h4.drop.blk.cell 3
  have z4 : w4.cell? ⟨w.heap.size, 4, none⟩ = some (.int .i64 0) := h4.drop.blk.cell 4
  go_wp2
  have h8 := h4.setb ne1 hb1 2 (.int .i64 (id))
  have h9 := h8.drop
  have h9 := h9.setb ne0 h.sz 0 (.int .i64 2)
  have h9 := h9.setb ne0 h.sz 1 (.int .i64 c)
  have h9 := h9.setb ne0 h.sz 2 (.int .i64 (id))
  have h9 := h9.setb ne0 h.sz 3 (.int .i64 (0))
  have h9 := h9.setb ne0 h.sz 4 (.int .i64 0)
  exact bodyPost_ret (rec_ret (x := ⟨2, c, id, 0, 0⟩) h9.blk rfl) rfl ⟨rfl, h9.drop⟩
end
end Go.Proofs.YtmkboahjkhkefaaGreatDoor.Krn
