/- The texts Kan Kao Kcl Kof Kog Koh Koi Koj Kdo of one layer, laid together. -/
import Derived.Test.YtmlilgbochbbiaaGreatDoorRows
import Derived.Test.YtmlilgbochbbiaaGreatDoorZkb
import Derived.Conc.MuLone
import Derived.WalkKit
import Derived.ProofKit
import Derived.OpenShut
import Derived.BigQuiet
import Derived.Deep.RegionHeld3
namespace Go.Proofs.YtmlilgbochbbiaaGreatDoor.Krn
open Go.ChangeShapes Go.WideShapes Go.ChangeAt Go.RowKit
open Mm
section
variable {B : Nat} {w0 : World} {A : List (Nat × List Value × TypeId)} {a : KA} {m m' : Nat} {S S' : KS} {w w' : World}
/-- A function of the program that is entered when it is called. -/
def Fnc (f : Nat) : Prop := ∀ (args : Array Value) (w : World), (callFunc f args).run Tryz.prog w = .ok (.enter f args) w
theorem fnc_of {f : Nat} {fn : Func} {c : Code} (hf : Tryz.prog.funcs[f]? = some fn) (hn : (fn.name == "runtime.NumGoroutine") = false) (hb : fn.body = some c) : Fnc f := fun args w => MuLone.run_callFunc_enter hf hn hb args w
/-- What a function answers, and leaves, wherever the blocks that it goes by lie beside the kernel. -/
def Ansr (B : Nat) (w0 : World) (a : KA) (A : List (Nat × List Value × TypeId)) (f : Nat) (args : Array Value) (m m' : Nat) (S : KS) (r : Int × Int × KS) : Prop :=
  ∀ A' w, (∀ x ∈ A, x ∈ A') → KX B w0 A' a m S w → Calls Tryz.prog f args w fun e w' => e = .returned (.tuple #[.int .i64 r.1, .int .i64 r.2.1]) ∧ KX B w0 A' a m' r.2.2 w'
theorem recd_ret {z : Nat} {x : Rec} {tmps : Array Value} (h : Blk w z [.int .i64 x.kind, .int .i64 x.cpu, .int .i64 x.id, .int .i64 x.n, .int .i64 x.why] 52) (h2 : tmps.getD 2 undef = .pointer (some ⟨z, 0, none⟩)) :
    (results Tryz.f54 tmps).run Tryz.prog w = .ok (.agg #[.int .i64 x.kind, .int .i64 x.cpu, .int .i64 x.id, .int .i64 x.n, .int .i64 x.why]) w := by
  have q0 : w.cell? ⟨z, 0, none⟩ = some (.int .i64 x.kind) := h.cell 0
  have q1 : w.cell? ⟨z, 1, none⟩ = some (.int .i64 x.cpu) := h.cell 1
  have q2 : w.cell? ⟨z, 2, none⟩ = some (.int .i64 x.id) := h.cell 2
  have q3 : w.cell? ⟨z, 3, none⟩ = some (.int .i64 x.n) := h.cell 3
  have q4 : w.cell? ⟨z, 4, none⟩ = some (.int .i64 x.why) := h.cell 4
  rw [results_one (p := 2) (ty := 52) rfl, h2]
  simp [go_sem, q0, q1, q2, q3, q4]
set_option maxRecDepth 100000 in
set_option maxHeartbeats 1000000 in
theorem record_c (h : KX B w0 A a m S w) (f : Nat) (cap : Array Value) {r : Int × Int × KS} (hf : Fnc f) (C : Ansr B w0 a A f (cap) m m' S r) :
    Calls Tryz.prog 54 #[.func (.func f) #[] cap] w fun e w' => e = .returned (.agg #[.int .i64 1, .int .i64 0, .int .i64 (ret r.1 r.2.1).id, .int .i64 0, .int .i64 r.2.1]) ∧ KX B w0 A a m' r.2.2 w' := by
  obtain ⟨r1, r2, T⟩ := r
  unfold ret
  simp only at *
  have ne0 : ∀ x ∈ A, x.1 ≠ w.heap.size := fun x hx => by have := (h.bx x hx).lt; omega
  have h0 := h.new [.int .i64 0, .int .i64 0, .int .i64 0, .int .i64 0, .int .i64 0] 52
  have CC : Hid (Calls Tryz.prog f (cap) (w.alloc (.cells #[.int .i64 0, .int .i64 0, .int .i64 0, .int .i64 0, .int .i64 0] 52)) _) := C _ _ (fun x hx => List.mem_cons_of_mem _ hx) h0
  have FF := hf
  unfold Fnc at FF
  clear C hf
  by_cases q : r2 = 0
  · subst q
    simp only [if_true]
    go_enter Tryz.func54, Tryz.ntmps54
    go_wp2_with fail
    refine CC.out.mono ?_
    rintro e w1 ⟨rfl, h1⟩
    have fq : ∀ j, w1.frozen? ⟨w.heap.size, j, none⟩ = false := fun j => h1.blk.free j
    have z0 : w1.cell? ⟨w.heap.size, 0, none⟩ = some (.int .i64 0) := h1.blk.cell 0
    have z1 : w1.cell? ⟨w.heap.size, 1, none⟩ = some (.int .i64 0) := h1.blk.cell 1
    have z2 : w1.cell? ⟨w.heap.size, 2, none⟩ = some (.int .i64 0) := h1.blk.cell 2
    have z3 : w1.cell? ⟨w.heap.size, 3, none⟩ = some (.int .i64 0) := h1.blk.cell 3
    have z4 : w1.cell? ⟨w.heap.size, 4, none⟩ = some (.int .i64 0) := h1.blk.cell 4
    go_wp2
    have h9 := h1
    have h9 := h9.setb ne0 h.sz 0 (.int .i64 1)
    have h9 := h9.setb ne0 h.sz 1 (.int .i64 0)
    have h9 := h9.setb ne0 h.sz 2 (.int .i64 r1)
    have h9 := h9.setb ne0 h.sz 3 (.int .i64 0)
    have h9 := h9.setb ne0 h.sz 4 (.int .i64 0)
    exact bodyPost_ret (recd_ret (x := ⟨1, 0, r1, 0, 0⟩) h9.blk rfl) rfl ⟨rfl, h9.drop⟩
  · simp only [if_neg q]
    have q2 : (r2 == 0) = false := by simpa using q
    go_enter Tryz.func54, Tryz.ntmps54
    go_wp2_with fail
    refine CC.out.mono ?_
    rintro e w1 ⟨rfl, h1⟩
    have fq : ∀ j, w1.frozen? ⟨w.heap.size, j, none⟩ = false := fun j => h1.blk.free j
    have z0 : w1.cell? ⟨w.heap.size, 0, none⟩ = some (.int .i64 0) := h1.blk.cell 0
    have z1 : w1.cell? ⟨w.heap.size, 1, none⟩ = some (.int .i64 0) := h1.blk.cell 1
    have z2 : w1.cell? ⟨w.heap.size, 2, none⟩ = some (.int .i64 0) := h1.blk.cell 2
    have z3 : w1.cell? ⟨w.heap.size, 3, none⟩ = some (.int .i64 0) := h1.blk.cell 3
    have z4 : w1.cell? ⟨w.heap.size, 4, none⟩ = some (.int .i64 0) := h1.blk.cell 4
    go_wp2
    have h9 := h1
    have h9 := h9.setb ne0 h.sz 0 (.int .i64 1)
    have h9 := h9.setb ne0 h.sz 1 (.int .i64 0)
    have h9 := h9.setb ne0 h.sz 2 (.int .i64 0)
    have h9 := h9.setb ne0 h.sz 3 (.int .i64 0)
    have h9 := h9.setb ne0 h.sz 4 (.int .i64 r2)
    exact bodyPost_ret (recd_ret (x := ⟨1, 0, 0, 0, r2⟩) h9.blk rfl) rfl ⟨rfl, h9.drop⟩
set_option maxRecDepth 100000 in
set_option maxHeartbeats 1000000 in
theorem record_b (h : KX B w0 A a m S w) (f : Nat) (p : Value) {r : Int × Int × KS} (hf : Fnc f) (C : Ansr B w0 a A f (#[p]) m m' S r) :
    Calls Tryz.prog 54 #[.func (.func f) #[p] #[]] w fun e w' => e = .returned (.agg #[.int .i64 1, .int .i64 0, .int .i64 (ret r.1 r.2.1).id, .int .i64 0, .int .i64 r.2.1]) ∧ KX B w0 A a m' r.2.2 w' := by
  obtain ⟨r1, r2, T⟩ := r
  unfold ret
  simp only at *
  have ne0 : ∀ x ∈ A, x.1 ≠ w.heap.size := fun x hx => by have := (h.bx x hx).lt; omega
  have h0 := h.new [.int .i64 0, .int .i64 0, .int .i64 0, .int .i64 0, .int .i64 0] 52
  have CC : Hid (Calls Tryz.prog f (#[p]) (w.alloc (.cells #[.int .i64 0, .int .i64 0, .int .i64 0, .int .i64 0, .int .i64 0] 52)) _) := C _ _ (fun x hx => List.mem_cons_of_mem _ hx) h0
  have FF := hf
  unfold Fnc at FF
  clear C hf
  by_cases q : r2 = 0
  · subst q
    simp only [if_true]
    go_enter Tryz.func54, Tryz.ntmps54
    go_wp2_with fail
    refine CC.out.mono ?_
    rintro e w1 ⟨rfl, h1⟩
    have fq : ∀ j, w1.frozen? ⟨w.heap.size, j, none⟩ = false := fun j => h1.blk.free j
    have z0 : w1.cell? ⟨w.heap.size, 0, none⟩ = some (.int .i64 0) := h1.blk.cell 0
    have z1 : w1.cell? ⟨w.heap.size, 1, none⟩ = some (.int .i64 0) := h1.blk.cell 1
    have z2 : w1.cell? ⟨w.heap.size, 2, none⟩ = some (.int .i64 0) := h1.blk.cell 2
    have z3 : w1.cell? ⟨w.heap.size, 3, none⟩ = some (.int .i64 0) := h1.blk.cell 3
    have z4 : w1.cell? ⟨w.heap.size, 4, none⟩ = some (.int .i64 0) := h1.blk.cell 4
    go_wp2
    have h9 := h1
    have h9 := h9.setb ne0 h.sz 0 (.int .i64 1)
    have h9 := h9.setb ne0 h.sz 1 (.int .i64 0)
    have h9 := h9.setb ne0 h.sz 2 (.int .i64 r1)
    have h9 := h9.setb ne0 h.sz 3 (.int .i64 0)
    have h9 := h9.setb ne0 h.sz 4 (.int .i64 0)
    exact bodyPost_ret (recd_ret (x := ⟨1, 0, r1, 0, 0⟩) h9.blk rfl) rfl ⟨rfl, h9.drop⟩
  · simp only [if_neg q]
    have q2 : (r2 == 0) = false := by simpa using q
    go_enter Tryz.func54, Tryz.ntmps54
    go_wp2_with fail
    refine CC.out.mono ?_
    rintro e w1 ⟨rfl, h1⟩
    have fq : ∀ j, w1.frozen? ⟨w.heap.size, j, none⟩ = false := fun j => h1.blk.free j
    have z0 : w1.cell? ⟨w.heap.size, 0, none⟩ = some (.int .i64 0) := h1.blk.cell 0
    have z1 : w1.cell? ⟨w.heap.size, 1, none⟩ = some (.int .i64 0) := h1.blk.cell 1
    have z2 : w1.cell? ⟨w.heap.size, 2, none⟩ = some (.int .i64 0) := h1.blk.cell 2
    have z3 : w1.cell? ⟨w.heap.size, 3, none⟩ = some (.int .i64 0) := h1.blk.cell 3
    have z4 : w1.cell? ⟨w.heap.size, 4, none⟩ = some (.int .i64 0) := h1.blk.cell 4
    go_wp2
    have h9 := h1
    have h9 := h9.setb ne0 h.sz 0 (.int .i64 1)
    have h9 := h9.setb ne0 h.sz 1 (.int .i64 0)
    have h9 := h9.setb ne0 h.sz 2 (.int .i64 0)
    have h9 := h9.setb ne0 h.sz 3 (.int .i64 0)
    have h9 := h9.setb ne0 h.sz 4 (.int .i64 r2)
    exact bodyPost_ret (recd_ret (x := ⟨1, 0, 0, 0, r2⟩) h9.blk rfl) rfl ⟨rfl, h9.drop⟩
end
end Go.Proofs.YtmlilgbochbbiaaGreatDoor.Krn
namespace Go.Proofs.YtmlilgbochbbiaaGreatDoor.Krn
open Go.ChangeShapes Go.WideShapes Go.ChangeAt Go.RowKit
open Mm
section
variable {B : Nat} {w0 : World} {A : List (Nat × List Value × TypeId)} {a : KA} {m m' : Nat} {S S' : KS} {w w' : World}
end
end Go.Proofs.YtmlilgbochbbiaaGreatDoor.Krn
namespace Go.Proofs.YtmlilgbochbbiaaGreatDoor.Krn
open Go.ChangeShapes Go.WideShapes Go.ChangeAt Go.RowKit
open Mm
section
variable {B : Nat} {w0 : World} {A : List (Nat × List Value × TypeId)} {a : KA} {m m' : Nat} {S S' : KS} {w w' : World}
def EvOk (e : Ev) : Prop := wf e.kind ∧ wf e.cpu ∧ wf e.id ∧ wf e.n ∧ e.mask < 18446744073709551616
set_option maxRecDepth 100000 in
set_option maxHeartbeats 1000000 in
theorem ofThreads_1_any {bk be bw : Nat} {e : Ev} (ok : EvOk e) (_hm : m + 64 ≤ 1000000) (hk : (bk, [Value.pointer (some ⟨a.k, 0, none⟩)], 59) ∈ A) (he : (be, [Value.int .i64 e.kind, .int .i64 e.cpu, .int .i64 e.id, .int .u64 (e.mask : Int), .int .i64 e.n], 50) ∈ A) (hw : (bw, [Value.int .u64 (e.mask : Int)], 76) ∈ A) : Ansr B w0 a A 77 #[.pointer (some ⟨bk, 0, none⟩), .pointer (some ⟨be, 0, none⟩), .pointer (some ⟨bw, 0, none⟩)] m (m + 64) S (spawn a.n S e.id e.mask) := by
  obtain ⟨o0, o1, o2, o3, o4⟩ := ok
  intro A' w sub h
  have h1 := h
  have ck0 : w.cell? ⟨bk, 0, none⟩ = some (.pointer (some ⟨a.k, 0, none⟩)) := (h1.bx _ (sub _ hk)).cell 0
  have ce0 : w.cell? ⟨be, 0, none⟩ = some (.int .i64 e.kind) := (h1.bx _ (sub _ he)).cell 0
  have ce1 : w.cell? ⟨be, 1, none⟩ = some (.int .i64 e.cpu) := (h1.bx _ (sub _ he)).cell 1
  have ce2 : w.cell? ⟨be, 2, none⟩ = some (.int .i64 e.id) := (h1.bx _ (sub _ he)).cell 2
  have ce3 : w.cell? ⟨be, 3, none⟩ = some (.int .u64 (e.mask : Int)) := (h1.bx _ (sub _ he)).cell 3
  have ce4 : w.cell? ⟨be, 4, none⟩ = some (.int .i64 e.n) := (h1.bx _ (sub _ he)).cell 4
  have cw0 : w.cell? ⟨bw, 0, none⟩ = some (.int .u64 (e.mask : Int)) := (h1.bx _ (sub _ hw)).cell 0
  have CC : Hid (∀ v, Sm v w → _) := fun v s => k_spawn (h1.sm s) e.id e.mask o4 (by omega)
  generalize spawn a.n S e.id e.mask = r at *
  obtain ⟨r1, r2, T⟩ := r
  simp only at *
  go_enter Tryz.func77, Tryz.ntmps77
  go_wp2_with fail
  refine (CC.out _ ?_).mono ?_
  · exact ⟨rfl, rfl, rfl, rfl⟩
  rintro e w3 ⟨rfl, h3⟩
  go_wp2
  go_ret2
  exact ⟨rfl, (h3).more (by omega)⟩
end
end Go.Proofs.YtmlilgbochbbiaaGreatDoor.Krn
namespace Go.Proofs.YtmlilgbochbbiaaGreatDoor.Krn
open Go.ChangeShapes Go.WideShapes Go.ChangeAt Go.RowKit
open Mm
section
variable {B : Nat} {w0 : World} {A : List (Nat × List Value × TypeId)} {a : KA} {m m' : Nat} {S S' : KS} {w w' : World}
theorem KX.at {z : Nat} (h : KX B w0 A a m S w) (hz : w.heap.size = z) (cs : List Value) (ty : TypeId) : KX B w0 ((z, cs, ty) :: A) a m S (w.alloc (.cells cs.toArray ty)) := hz ▸ h.new cs ty
theorem Ansr.more {f : Nat} {args : Array Value} {r : Int × Int × KS} (C : Ansr B w0 a A f args m m' S r) {m2 : Nat} (hm : m' ≤ m2) : Ansr B w0 a A f args m m2 S r := fun A' w s h => (C A' w s h).mono fun _ _ x => ⟨x.1, x.2.more hm⟩
/-- A function value that answers. -/
def AnsV (B : Nat) (w0 : World) (a : KA) (A : List (Nat × List Value × TypeId)) (m m' : Nat) (S : KS) (r : Int × Int × KS) (v : Value) : Prop :=
  ∃ f fs cap, v = .func (.func f) fs cap ∧ Fnc f ∧ ((fs = #[] ∧ Ansr B w0 a A f cap m m' S r) ∨ (cap = #[] ∧ ∃ p, fs = #[p] ∧ Ansr B w0 a A f #[p] m m' S r))
def OfP (B : Nat) (w0 : World) (a : KA) (A : List (Nat × List Value × TypeId)) (m m' : Nat) (S : KS) (r : Int × Int × KS) (e : Ending) (w' : World) : Prop :=
  ∃ v X, e = .returned v ∧ KX B w0 (X ++ A) a m S w' ∧ AnsV B w0 a (X ++ A) m m' S r v
theorem OfP.mk {v : Value} {X : List (Nat × List Value × TypeId)} {r : Int × Int × KS} (h : KX B w0 (X ++ A) a m S w') (c : AnsV B w0 a (X ++ A) m m' S r v) : OfP B w0 a A m m' S r (.returned v) w' := ⟨v, X, rfl, h, c⟩
theorem AnsV.mk {f : Nat} {cap : Array Value} {r : Int × Int × KS} (hf : Fnc f) (C : Ansr B w0 a A f cap m m' S r) : AnsV B w0 a A m m' S r (.func (.func f) #[] cap) := ⟨f, #[], cap, rfl, hf, Or.inl ⟨rfl, C⟩⟩
theorem fnc_146 : Fnc 146 := fnc_of Tryz.func146 (by decide) rfl
theorem fnc_346 : Fnc 346 := fnc_of Tryz.func346 (by decide) rfl
theorem fnc_136 : Fnc 136 := fnc_of Tryz.func136 (by decide) rfl
theorem fnc_227 : Fnc 227 := fnc_of Tryz.func227 (by decide) rfl
theorem fnc_92 : Fnc 92 := fnc_of Tryz.func92 (by decide) rfl
theorem fnc_236 : Fnc 236 := fnc_of Tryz.func236 (by decide) rfl
theorem fnc_239 : Fnc 239 := fnc_of Tryz.func239 (by decide) rfl
theorem fnc_240 : Fnc 240 := fnc_of Tryz.func240 (by decide) rfl
theorem fnc_77 : Fnc 77 := fnc_of Tryz.func77 (by decide) rfl
theorem fnc_80 : Fnc 80 := fnc_of Tryz.func80 (by decide) rfl
theorem fnc_82 : Fnc 82 := fnc_of Tryz.func82 (by decide) rfl
theorem fnc_84 : Fnc 84 := fnc_of Tryz.func84 (by decide) rfl
theorem fnc_86 : Fnc 86 := fnc_of Tryz.func86 (by decide) rfl
theorem fnc_89 : Fnc 89 := fnc_of Tryz.func89 (by decide) rfl
theorem fnc_91 : Fnc 91 := fnc_of Tryz.func91 (by decide) rfl
theorem fnc_153 : Fnc 153 := fnc_of Tryz.func153 (by decide) rfl
theorem fnc_156 : Fnc 156 := fnc_of Tryz.func156 (by decide) rfl
theorem fnc_157 : Fnc 157 := fnc_of Tryz.func157 (by decide) rfl
theorem fnc_159 : Fnc 159 := fnc_of Tryz.func159 (by decide) rfl
theorem fnc_161 : Fnc 161 := fnc_of Tryz.func161 (by decide) rfl
theorem fnc_163 : Fnc 163 := fnc_of Tryz.func163 (by decide) rfl
theorem fnc_165 : Fnc 165 := fnc_of Tryz.func165 (by decide) rfl
theorem fnc_167 : Fnc 167 := fnc_of Tryz.func167 (by decide) rfl
theorem fnc_169 : Fnc 169 := fnc_of Tryz.func169 (by decide) rfl
theorem fnc_235 : Fnc 235 := fnc_of Tryz.func235 (by decide) rfl
theorem fnc_237 : Fnc 237 := fnc_of Tryz.func237 (by decide) rfl
theorem fnc_241 : Fnc 241 := fnc_of Tryz.func241 (by decide) rfl
theorem fnc_297 : Fnc 297 := fnc_of Tryz.func297 (by decide) rfl
theorem fnc_299 : Fnc 299 := fnc_of Tryz.func299 (by decide) rfl
theorem fnc_301 : Fnc 301 := fnc_of Tryz.func301 (by decide) rfl
theorem fnc_303 : Fnc 303 := fnc_of Tryz.func303 (by decide) rfl
theorem fnc_305 : Fnc 305 := fnc_of Tryz.func305 (by decide) rfl
theorem fnc_307 : Fnc 307 := fnc_of Tryz.func307 (by decide) rfl
end
end Go.Proofs.YtmlilgbochbbiaaGreatDoor.Krn
namespace Go.Proofs.YtmlilgbochbbiaaGreatDoor.Krn
open Go.ChangeShapes Go.WideShapes Go.ChangeAt Go.RowKit
open Mm
section
variable {B : Nat} {w0 : World} {A : List (Nat × List Value × TypeId)} {a : KA} {m m' : Nat} {S S' : KS} {w w' : World}
theorem OfP.sub {Y : List (Nat × List Value × TypeId)} {r : Int × Int × KS} {e : Ending} (h : OfP B w0 a (Y ++ A) m m' S r e w') : OfP B w0 a A m m' S r e w' := by
  obtain ⟨v, X, e, k, c⟩ := h
  rw [← List.append_assoc] at k c
  exact ⟨v, X ++ Y, e, k, c⟩
end
end Go.Proofs.YtmlilgbochbbiaaGreatDoor.Krn
namespace Go.Proofs.YtmlilgbochbbiaaGreatDoor.Krn
open Go.ChangeShapes Go.WideShapes Go.ChangeAt Go.RowKit
open Mm
section
variable {B : Nat} {w0 : World} {A : List (Nat × List Value × TypeId)} {a : KA} {m m' : Nat} {S S' : KS} {w w' : World}
end
end Go.Proofs.YtmlilgbochbbiaaGreatDoor.Krn
namespace Go.Proofs.YtmlilgbochbbiaaGreatDoor.Krn
open Go.ChangeShapes Go.WideShapes Go.ChangeAt Go.RowKit
open Mm
section
variable {B : Nat} {w0 : World} {A : List (Nat × List Value × TypeId)} {a : KA} {m m' : Nat} {S S' : KS} {w w' : World}
end
end Go.Proofs.YtmlilgbochbbiaaGreatDoor.Krn
namespace Go.Proofs.YtmlilgbochbbiaaGreatDoor.Krn
open Go.ChangeShapes Go.WideShapes Go.ChangeAt Go.RowKit
open Mm
section
variable {B : Nat} {w0 : World} {A : List (Nat × List Value × TypeId)} {a : KA} {m m' : Nat} {S S' : KS} {w w' : World}
set_option maxRecDepth 100000 in
set_option maxHeartbeats 1000000 in
theorem ofThreads_3 (h : KX B w0 A a m S w) {ec ei : Int} {em : Nat} {en : Int} (ok : EvOk ⟨3, ec, ei, em, en⟩) (hm : m + 64 ≤ 1000000) : Calls Tryz.prog 53 #[.pointer (some ⟨a.k, 0, none⟩), .agg #[.int .i64 3, .int .i64 ec, .int .i64 ei, .int .u64 (em : Int), .int .i64 en]] w fun e w' => OfP B w0 a A m (m + 64) S (ofThreads a.n S ⟨3, ec, ei, em, en⟩) e w' := by
  have h0 := h
  have h1 := h0.at (z := w.heap.size) (by simp) [.pointer (some ⟨a.k, 0, none⟩)] 59
  have h2 := h1.at (z := w.heap.size + 1) (by simp) [.int .i64 3, .int .i64 ec, .int .i64 ei, .int .u64 (em : Int), .int .i64 en] 50
  have h3 := h2.at (z := w.heap.size + 2) (by simp) [.int .u64 (em : Int)] 76
  have hmf : ∀ (fn : Fn) (first cap : Array Value) (w : World), (Instr.makeFunc fn first cap).run Tryz.prog w = .ok (.func fn first cap) w := fun _ _ _ _ => rfl
  go_enter Tryz.func53, Tryz.ntmps53
  go_wp2
  go_ret
  exact OfP.mk (X := [_, _, _]) h3 (AnsV.mk fnc_77 (ofThreads_1_any (e := ⟨3, ec, ei, em, en⟩) ok hm (List.mem_cons_of_mem _ (List.mem_cons_of_mem _ (List.mem_cons_self ..))) (List.mem_cons_of_mem _ (List.mem_cons_self ..)) (List.mem_cons_self ..)))
end
end Go.Proofs.YtmlilgbochbbiaaGreatDoor.Krn
namespace Go.Proofs.YtmlilgbochbbiaaGreatDoor.Krn
open Go.ChangeShapes Go.WideShapes Go.ChangeAt Go.RowKit
open Mm
section
variable {B : Nat} {w0 : World} {A : List (Nat × List Value × TypeId)} {a : KA} {m m' : Nat} {S S' : KS} {w w' : World}
end
end Go.Proofs.YtmlilgbochbbiaaGreatDoor.Krn
