/- Contracts of the program's layers, as far as this claim needs them. -/
import Derived.Test.YtmkboahjkhkefaaGreatDoorQKse
import Derived.Test.YtmkboahjkhkefaaGreatDoorQKrc
import Derived.Conc.MuLone
import Derived.Test.YtmkboahjkhkefaaGreatDoorRows
import Derived.WalkKit
import Derived.ProofKit
import Derived.OpenShut
import Derived.BigQuiet
import Derived.Deep.RegionHeld3
set_option linter.unusedVariables false
set_option linter.unusedSimpArgs false
namespace Go.Proofs.YtmkboahjkhkefaaGreatDoor.Krn
open Go.ChangeShapes Go.WideShapes Go.ChangeAt Go.RowKit
open Mm
section
variable {B : Nat} {w0 : World} {A : List (Nat × List Value × TypeId)} {a : KA} {m m' : Nat} {S S' : KS} {w w' : World}
def Fnc (f : Nat) : Prop := ∀ (args : Array Value) (w : World), (callFunc f args).run Tryz.prog w = .ok (.enter f args) w
theorem fnc_of {f : Nat} {fn : Func} {c : Code} (hf : Tryz.prog.funcs[f]? = some fn) (hn : (fn.name == "runtime.NumGoroutine") = false) (hb : fn.body = some c) : Fnc f := fun args w => MuLone.run_callFunc_enter hf hn hb args w
def Ansr (B : Nat) (w0 : World) (a : KA) (A : List (Nat × List Value × TypeId)) (f : Nat) (args : Array Value) (m m' : Nat) (S : KS) (r : Int × Int × KS) : Prop :=
  ∀ A' w, (∀ x ∈ A, x ∈ A') → KX B w0 A' a m S w → Calls Tryz.prog f args w fun e w' => e = .returned (.tuple #[.int .i64 r.1, .int .i64 r.2.1]) ∧ KX B w0 A' a m' r.2.2 w'
theorem recd_ret {z : Nat} {x : Rec} {tmps : Array Value} (h : Blk w z [.int .i64 x.kind, .int .i64 x.cpu, .int .i64 x.id, .int .i64 x.n, .int .i64 x.why] 37) (h2 : tmps.getD 2 undef = .pointer (some ⟨z, 0, none⟩)) :
    (results Tryz.f61 tmps).run Tryz.prog w = .ok (.agg #[.int .i64 x.kind, .int .i64 x.cpu, .int .i64 x.id, .int .i64 x.n, .int .i64 x.why]) w := by
  have q0 : w.cell? ⟨z, 0, none⟩ = some (.int .i64 x.kind) := h.cell 0
  have q1 : w.cell? ⟨z, 1, none⟩ = some (.int .i64 x.cpu) := h.cell 1
  have q2 : w.cell? ⟨z, 2, none⟩ = some (.int .i64 x.id) := h.cell 2
  have q3 : w.cell? ⟨z, 3, none⟩ = some (.int .i64 x.n) := h.cell 3
  have q4 : w.cell? ⟨z, 4, none⟩ = some (.int .i64 x.why) := h.cell 4
  rw [results_one (p := 2) (ty := 37) rfl, h2]
  simp [go_sem, q0, q1, q2, q3, q4]
set_option maxRecDepth 100000 in
set_option maxHeartbeats 1000000 in
theorem record_c (h : KX B w0 A a m S w) (f : Nat) (cap : Array Value) {r : Int × Int × KS} (hf : Fnc f) (C : Ansr B w0 a A f (cap) m m' S r) :
    Calls Tryz.prog 61 #[.func (.func f) #[] cap] w fun e w' => e = .returned (.agg #[.int .i64 1, .int .i64 0, .int .i64 (ret r.1 r.2.1).id, .int .i64 0, .int .i64 r.2.1]) ∧ KX B w0 A a m' r.2.2 w' := by
  obtain ⟨r1, r2, T⟩ := r
  unfold ret
  simp only at *
  have ne0 : ∀ x ∈ A, x.1 ≠ w.heap.size := fun x hx => by have := (h.bx x hx).lt; omega
  have h0 := h.new [.int .i64 0, .int .i64 0, .int .i64 0, .int .i64 0, .int .i64 0] 37
  have CC : Hid (Calls Tryz.prog f (cap) (w.alloc (.cells #[.int .i64 0, .int .i64 0, .int .i64 0, .int .i64 0, .int .i64 0] 37)) _) := C _ _ (fun x hx => List.mem_cons_of_mem _ hx) h0
  have FF := hf
  unfold Fnc at FF
  clear C hf
  by_cases q : r2 = 0
  · subst q
    simp only [if_true]
    go_enter Tryz.func61, Tryz.ntmps61
    go_wp2_with fail
    refine CC.out.mono ?_
    rintro e w1 ⟨rfl, h1⟩
    have fq : ∀ j, w1.frozen? ⟨w.heap.size, j, none⟩ = false := fun j => h1.blk.free j
    have z0 : w1.cell? ⟨w.heap.size, 0, none⟩ = some (.int .i64 0) := h1.blk.cell 0
    have z1 : w1.cell? ⟨w.heap.size, 1, none⟩ = some (.int .i64 0) := h1.blk.cell 1
    have z2 : w1.cell? ⟨w.heap.size, 2, none⟩ = some (.int .i64 0) := h1.blk.cell 2
    have z3 : w1.cell? ⟨w.heap.size, 3, none⟩ = some (.int .i64 0) := h1.blk.cell 3
    have z4 : w1.cell? ⟨w.heap.size, 4, none⟩ = some (.int .i64 0) := h1.blk.cell 4
    go_wp2
    have h9 := h1
    have h9 := h9.setb ne0 h.sz 0 (.int .i64 1)
    have h9 := h9.setb ne0 h.sz 1 (.int .i64 0)
    have h9 := h9.setb ne0 h.sz 2 (.int .i64 r1)
    have h9 := h9.setb ne0 h.sz 3 (.int .i64 0)
    have h9 := h9.setb ne0 h.sz 4 (.int .i64 0)
    exact bodyPost_ret (recd_ret (x := ⟨1, 0, r1, 0, 0⟩) h9.blk rfl) rfl ⟨rfl, h9.drop⟩
  · simp only [if_neg q]
    have q2 : (r2 == 0) = false := by simpa using q
    go_enter Tryz.func61, Tryz.ntmps61
    go_wp2_with fail
    refine CC.out.mono ?_
    rintro e w1 ⟨rfl, h1⟩
    have fq : ∀ j, w1.frozen? ⟨w.heap.size, j, none⟩ = false := fun j => h1.blk.free j
    have z0 : w1.cell? ⟨w.heap.size, 0, none⟩ = some (.int .i64 0) := h1.blk.cell 0
    have z1 : w1.cell? ⟨w.heap.size, 1, none⟩ = some (.int .i64 0) := h1.blk.cell 1
    have z2 : w1.cell? ⟨w.heap.size, 2, none⟩ = some (.int .i64 0) := h1.blk.cell 2
    have z3 : w1.cell? ⟨w.heap.size, 3, none⟩ = some (.int .i64 0) := h1.blk.cell 3
    have z4 : w1.cell? ⟨w.heap.size, 4, none⟩ = some (.int .i64 0) := h1.blk.cell 4
    go_wp2
    have h9 := h1
    have h9 := h9.setb ne0 h.sz 0 (.int .i64 1)
    have h9 := h9.setb ne0 h.sz 1 (.int .i64 0)
    have h9 := h9.setb ne0 h.sz 2 (.int .i64 0)
    have h9 := h9.setb ne0 h.sz 3 (.int .i64 0)
    have h9 := h9.setb ne0 h.sz 4 (.int .i64 r2)
    exact bodyPost_ret (recd_ret (x := ⟨1, 0, 0, 0, r2⟩) h9.blk rfl) rfl ⟨rfl, h9.drop⟩
set_option maxRecDepth 100000 in
set_option maxHeartbeats 1000000 in
theorem record_b (h : KX B w0 A a m S w) (f : Nat) (p : Value) {r : Int × Int × KS} (hf : Fnc f) (C : Ansr B w0 a A f (#[p]) m m' S r) :
    Calls Tryz.prog 61 #[.func (.func f) #[p] #[]] w fun e w' => e = .returned (.agg #[.int .i64 1, .int .i64 0, .int .i64 (ret r.1 r.2.1).id, .int .i64 0, .int .i64 r.2.1]) ∧ KX B w0 A a m' r.2.2 w' := by
  obtain ⟨r1, r2, T⟩ := r
  unfold ret
  simp only at *
  have ne0 : ∀ x ∈ A, x.1 ≠ w.heap.size := fun x hx => by have := (h.bx x hx).lt; omega
  have h0 := h.new [.int .i64 0, .int .i64 0, .int .i64 0, .int .i64 0, .int .i64 0] 37
  have CC : Hid (Calls Tryz.prog f (#[p]) (w.alloc (.cells #[.int .i64 0, .int .i64 0, .int .i64 0, .int .i64 0, .int .i64 0] 37)) _) := C _ _ (fun x hx => List.mem_cons_of_mem _ hx) h0
  have FF := hf
  unfold Fnc at FF
  clear C hf
  by_cases q : r2 = 0
  · subst q
    simp only [if_true]
    go_enter Tryz.func61, Tryz.ntmps61
    go_wp2_with fail
    refine CC.out.mono ?_
    rintro e w1 ⟨rfl, h1⟩
    have fq : ∀ j, w1.frozen? ⟨w.heap.size, j, none⟩ = false := fun j => h1.blk.free j
    have z0 : w1.cell? ⟨w.heap.size, 0, none⟩ = some (.int .i64 0) := h1.blk.cell 0
    have z1 : w1.cell? ⟨w.heap.size, 1, none⟩ = some (.int .i64 0) := h1.blk.cell 1
    have z2 : w1.cell? ⟨w.heap.size, 2, none⟩ = some (.int .i64 0) := h1.blk.cell 2
    have z3 : w1.cell? ⟨w.heap.size, 3, none⟩ = some (.int .i64 0) := h1.blk.cell 3
    have z4 : w1.cell? ⟨w.heap.size, 4, none⟩ = some (.int .i64 0) := h1.blk.cell 4
    go_wp2
    have h9 := h1
    have h9 := h9.setb ne0 h.sz 0 (.int .i64 1)
    have h9 := h9.setb ne0 h.sz 1 (.int .i64 0)
    have h9 := h9.setb ne0 h.sz 2 (.int .i64 r1)
    have h9 := h9.setb ne0 h.sz 3 (.int .i64 0)
    have h9 := h9.setb ne0 h.sz 4 (.int .i64 0)
    exact bodyPost_ret (recd_ret (x := ⟨1, 0, r1, 0, 0⟩) h9.blk rfl) rfl ⟨rfl, h9.drop⟩
  · simp only [if_neg q]
    have q2 : (r2 == 0) = false := by simpa using q
    go_enter Tryz.func61, Tryz.ntmps61
    go_wp2_with fail
    refine CC.out.mono ?_
    rintro e w1 ⟨rfl, h1⟩
    have fq : ∀ j, w1.frozen? ⟨w.heap.size, j, none⟩ = false := fun j => h1.blk.free j
    have z0 : w1.cell? ⟨w.heap.size, 0, none⟩ = some (.int .i64 0) := h1.blk.cell 0
    have z1 : w1.cell? ⟨w.heap.size, 1, none⟩ = some (.int .i64 0) := h1.blk.cell 1
    have z2 : w1.cell? ⟨w.heap.size, 2, none⟩ = some (.int .i64 0) := h1.blk.cell 2
    have z3 : w1.cell? ⟨w.heap.size, 3, none⟩ = some (.int .i64 0) := h1.blk.cell 3
    have z4 : w1.cell? ⟨w.heap.size, 4, none⟩ = some (.int .i64 0) := h1.blk.cell 4
    go_wp2
    have h9 := h1
    have h9 := h9.setb ne0 h.sz 0 (.int .i64 1)
    have h9 := h9.setb ne0 h.sz 1 (.int .i64 0)
    have h9 := h9.setb ne0 h.sz 2 (.int .i64 0)
    have h9 := h9.setb ne0 h.sz 3 (.int .i64 0)
    have h9 := h9.setb ne0 h.sz 4 (.int .i64 r2)
    exact bodyPost_ret (recd_ret (x := ⟨1, 0, 0, 0, r2⟩) h9.blk rfl) rfl ⟨rfl, h9.drop⟩
end
end Go.Proofs.YtmkboahjkhkefaaGreatDoor.Krn
