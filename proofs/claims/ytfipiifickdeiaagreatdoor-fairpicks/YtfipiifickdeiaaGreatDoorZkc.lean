/- The texts Kan Kao Kcl Kof Kog Koh Koi Koj Kdo of one layer, laid together. -/
import Derived.Test.YtfipiifickdeiaaGreatDoorRows
import Derived.Test.YtfipiifickdeiaaGreatDoorZkb
import Derived.Conc.MuLone
import Derived.WalkKit
import Derived.ProofKit
import Derived.OpenShut
import Derived.BigQuiet
import Derived.Deep.RegionHeld3
namespace Go.Proofs.YtfipiifickdeiaaGreatDoor.Krn
open Go.ChangeShapes Go.WideShapes Go.ChangeAt Go.RowKit
open Mm
section
variable {B : Nat} {w0 : World} {A : List (Nat × List Value × TypeId)} {a : KA} {m m' : Nat} {S S' : KS} {w w' : World}
/-- A function of the program that is entered when it is called. -/
def Fnc (f : Nat) : Prop := ∀ (args : Array Value) (w : World), (callFunc f args).run Tryz.prog w = .ok (.enter f args) w
theorem fnc_of {f : Nat} {fn : Func} {c : Code} (hf : Tryz.prog.funcs[f]? = some fn) (hn : (fn.name == "runtime.NumGoroutine") = false) (hb : fn.body = some c) : Fnc f := fun args w => MuLone.run_callFunc_enter hf hn hb args w
/-- What a function answers, and leaves, wherever the blocks that it goes by lie beside the kernel. -/
def Ansr (B : Nat) (w0 : World) (a : KA) (A : List (Nat × List Value × TypeId)) (f : Nat) (args : Array Value) (m m' : Nat) (S : KS) (r : Int × Int × KS) : Prop :=
  ∀ A' w, (∀ x ∈ A, x ∈ A') → KX B w0 A' a m S w → Calls Tryz.prog f args w fun e w' => e = .returned (.tuple #[.int .i64 r.1, .int .i64 r.2.1]) ∧ KX B w0 A' a m' r.2.2 w'
theorem recd_ret {z : Nat} {x : Rec} {tmps : Array Value} (h : Blk w z [.int .i64 x.kind, .int .i64 x.cpu, .int .i64 x.id, .int .i64 x.n, .int .i64 x.why] 105) (h2 : tmps.getD 2 undef = .pointer (some ⟨z, 0, none⟩)) :
    (results Tryz.f39 tmps).run Tryz.prog w = .ok (.agg #[.int .i64 x.kind, .int .i64 x.cpu, .int .i64 x.id, .int .i64 x.n, .int .i64 x.why]) w := by
  have q0 : w.cell? ⟨z, 0, none⟩ = some (.int .i64 x.kind) := h.cell 0
  have q1 : w.cell? ⟨z, 1, none⟩ = some (.int .i64 x.cpu) := h.cell 1
  have q2 : w.cell? ⟨z, 2, none⟩ = some (.int .i64 x.id) := h.cell 2
  have q3 : w.cell? ⟨z, 3, none⟩ = some (.int .i64 x.n) := h.cell 3
  have q4 : w.cell? ⟨z, 4, none⟩ = some (.int .i64 x.why) := h.cell 4
  rw [results_one (p := 2) (ty := 105) rfl, h2]
  simp [go_sem, q0, q1, q2, q3, q4]
set_option maxRecDepth 100000 in
set_option maxHeartbeats 1000000 in
theorem record_c (h : KX B w0 A a m S w) (f : Nat) (cap : Array Value) {r : Int × Int × KS} (hf : Fnc f) (C : Ansr B w0 a A f (cap) m m' S r) :
    Calls Tryz.prog 39 #[.func (.func f) #[] cap] w fun e w' => e = .returned (.agg #[.int .i64 1, .int .i64 0, .int .i64 (ret r.1 r.2.1).id, .int .i64 0, .int .i64 r.2.1]) ∧ KX B w0 A a m' r.2.2 w' := by
  obtain ⟨r1, r2, T⟩ := r
  unfold ret
  simp only at *
  have ne0 : ∀ x ∈ A, x.1 ≠ w.heap.size := fun x hx => by have := (h.bx x hx).lt; omega
  have h0 := h.new [.int .i64 0, .int .i64 0, .int .i64 0, .int .i64 0, .int .i64 0] 105
  have CC : Hid (Calls Tryz.prog f (cap) (w.alloc (.cells #[.int .i64 0, .int .i64 0, .int .i64 0, .int .i64 0, .int .i64 0] 105)) _) := C _ _ (fun x hx => List.mem_cons_of_mem _ hx) h0
  have FF := hf
  unfold Fnc at FF
  clear C hf
  by_cases q : r2 = 0
  · subst q
    simp only [if_true]
    go_enter Tryz.func39, Tryz.ntmps39
    go_wp2_with fail
    refine CC.out.mono ?_
    rintro e w1 ⟨rfl, h1⟩
    have fq : ∀ j, w1.frozen? ⟨w.heap.size, j, none⟩ = false := fun j => h1.blk.free j
    have z0 : w1.cell? ⟨w.heap.size, 0, none⟩ = some (.int .i64 0) := h1.blk.cell 0
    have z1 : w1.cell? ⟨w.heap.size, 1, none⟩ = some (.int .i64 0) := h1.blk.cell 1
    have z2 : w1.cell? ⟨w.heap.size, 2, none⟩ = some (.int .i64 0) := h1.blk.cell 2
    have z3 : w1.cell? ⟨w.heap.size, 3, none⟩ = some (.int .i64 0) := h1.blk.cell 3
    have z4 : w1.cell? ⟨w.heap.size, 4, none⟩ = some (.int .i64 0) := h1.blk.cell 4
    go_wp2
    have h9 := h1
    have h9 := h9.setb ne0 h.sz 0 (.int .i64 1)
    have h9 := h9.setb ne0 h.sz 1 (.int .i64 0)
    have h9 := h9.setb ne0 h.sz 2 (.int .i64 r1)
    have h9 := h9.setb ne0 h.sz 3 (.int .i64 0)
    have h9 := h9.setb ne0 h.sz 4 (.int .i64 0)
    exact bodyPost_ret (recd_ret (x := ⟨1, 0, r1, 0, 0⟩) h9.blk rfl) rfl ⟨rfl, h9.drop⟩
  · simp only [if_neg q]
    have q2 : (r2 == 0) = false := by simpa using q
    go_enter Tryz.func39, Tryz.ntmps39
    go_wp2_with fail
    refine CC.out.mono ?_
    rintro e w1 ⟨rfl, h1⟩
    have fq : ∀ j, w1.frozen? ⟨w.heap.size, j, none⟩ = false := fun j => h1.blk.free j
    have z0 : w1.cell? ⟨w.heap.size, 0, none⟩ = some (.int .i64 0) := h1.blk.cell 0
    have z1 : w1.cell? ⟨w.heap.size, 1, none⟩ = some (.int .i64 0) := h1.blk.cell 1
    have z2 : w1.cell? ⟨w.heap.size, 2, none⟩ = some (.int .i64 0) := h1.blk.cell 2
    have z3 : w1.cell? ⟨w.heap.size, 3, none⟩ = some (.int .i64 0) := h1.blk.cell 3
    have z4 : w1.cell? ⟨w.heap.size, 4, none⟩ = some (.int .i64 0) := h1.blk.cell 4
    go_wp2
    have h9 := h1
    have h9 := h9.setb ne0 h.sz 0 (.int .i64 1)
    have h9 := h9.setb ne0 h.sz 1 (.int .i64 0)
    have h9 := h9.setb ne0 h.sz 2 (.int .i64 0)
    have h9 := h9.setb ne0 h.sz 3 (.int .i64 0)
    have h9 := h9.setb ne0 h.sz 4 (.int .i64 r2)
    exact bodyPost_ret (recd_ret (x := ⟨1, 0, 0, 0, r2⟩) h9.blk rfl) rfl ⟨rfl, h9.drop⟩
set_option maxRecDepth 100000 in
set_option maxHeartbeats 1000000 in
theorem record_b (h : KX B w0 A a m S w) (f : Nat) (p : Value) {r : Int × Int × KS} (hf : Fnc f) (C : Ansr B w0 a A f (#[p]) m m' S r) :
    Calls Tryz.prog 39 #[.func (.func f) #[p] #[]] w fun e w' => e = .returned (.agg #[.int .i64 1, .int .i64 0, .int .i64 (ret r.1 r.2.1).id, .int .i64 0, .int .i64 r.2.1]) ∧ KX B w0 A a m' r.2.2 w' := by
  obtain ⟨r1, r2, T⟩ := r
  unfold ret
  simp only at *
  have ne0 : ∀ x ∈ A, x.1 ≠ w.heap.size := fun x hx => by have := (h.bx x hx).lt; omega
  have h0 := h.new [.int .i64 0, .int .i64 0, .int .i64 0, .int .i64 0, .int .i64 0] 105
  have CC : Hid (Calls Tryz.prog f (#[p]) (w.alloc (.cells #[.int .i64 0, .int .i64 0, .int .i64 0, .int .i64 0, .int .i64 0] 105)) _) := C _ _ (fun x hx => List.mem_cons_of_mem _ hx) h0
  have FF := hf
  unfold Fnc at FF
  clear C hf
  by_cases q : r2 = 0
  · subst q
    simp only [if_true]
    go_enter Tryz.func39, Tryz.ntmps39
    go_wp2_with fail
    refine CC.out.mono ?_
    rintro e w1 ⟨rfl, h1⟩
    have fq : ∀ j, w1.frozen? ⟨w.heap.size, j, none⟩ = false := fun j => h1.blk.free j
    have z0 : w1.cell? ⟨w.heap.size, 0, none⟩ = some (.int .i64 0) := h1.blk.cell 0
    have z1 : w1.cell? ⟨w.heap.size, 1, none⟩ = some (.int .i64 0) := h1.blk.cell 1
    have z2 : w1.cell? ⟨w.heap.size, 2, none⟩ = some (.int .i64 0) := h1.blk.cell 2
    have z3 : w1.cell? ⟨w.heap.size, 3, none⟩ = some (.int .i64 0) := h1.blk.cell 3
    have z4 : w1.cell? ⟨w.heap.size, 4, none⟩ = some (.int .i64 0) := h1.blk.cell 4
    go_wp2
    have h9 := h1
    have h9 := h9.setb ne0 h.sz 0 (.int .i64 1)
    have h9 := h9.setb ne0 h.sz 1 (.int .i64 0)
    have h9 := h9.setb ne0 h.sz 2 (.int .i64 r1)
    have h9 := h9.setb ne0 h.sz 3 (.int .i64 0)
    have h9 := h9.setb ne0 h.sz 4 (.int .i64 0)
    exact bodyPost_ret (recd_ret (x := ⟨1, 0, r1, 0, 0⟩) h9.blk rfl) rfl ⟨rfl, h9.drop⟩
  · simp only [if_neg q]
    have q2 : (r2 == 0) = false := by simpa using q
    go_enter Tryz.func39, Tryz.ntmps39
    go_wp2_with fail
    refine CC.out.mono ?_
    rintro e w1 ⟨rfl, h1⟩
    have fq : ∀ j, w1.frozen? ⟨w.heap.size, j, none⟩ = false := fun j => h1.blk.free j
    have z0 : w1.cell? ⟨w.heap.size, 0, none⟩ = some (.int .i64 0) := h1.blk.cell 0
    have z1 : w1.cell? ⟨w.heap.size, 1, none⟩ = some (.int .i64 0) := h1.blk.cell 1
    have z2 : w1.cell? ⟨w.heap.size, 2, none⟩ = some (.int .i64 0) := h1.blk.cell 2
    have z3 : w1.cell? ⟨w.heap.size, 3, none⟩ = some (.int .i64 0) := h1.blk.cell 3
    have z4 : w1.cell? ⟨w.heap.size, 4, none⟩ = some (.int .i64 0) := h1.blk.cell 4
    go_wp2
    have h9 := h1
    have h9 := h9.setb ne0 h.sz 0 (.int .i64 1)
    have h9 := h9.setb ne0 h.sz 1 (.int .i64 0)
    have h9 := h9.setb ne0 h.sz 2 (.int .i64 0)
    have h9 := h9.setb ne0 h.sz 3 (.int .i64 0)
    have h9 := h9.setb ne0 h.sz 4 (.int .i64 r2)
    exact bodyPost_ret (recd_ret (x := ⟨1, 0, 0, 0, r2⟩) h9.blk rfl) rfl ⟨rfl, h9.drop⟩
set_option maxRecDepth 100000 in
set_option maxHeartbeats 1000000 in
theorem onCore_any (id : Int) (f : Nat) (fs cap : Array Value) (w : World) : Calls Tryz.prog 151 #[.pointer (some ⟨a.k, 0, none⟩), .int .i64 id, .func (.func f) fs cap] w fun e w' => e = .returned (.func (.func 214) #[] #[.pointer (some ⟨w.heap.size, 0, none⟩), .pointer (some ⟨w.heap.size + 1, 0, none⟩), .pointer (some ⟨w.heap.size + 2, 0, none⟩)]) ∧ w' = ((w.alloc (.cells #[.pointer (some ⟨a.k, 0, none⟩)] 29)).alloc (.cells #[.int .i64 id] 3)).alloc (.cells #[.func (.func f) fs cap] 257) := by
  have hmf : ∀ (fn : Fn) (first cap : Array Value) (w : World), (Instr.makeFunc fn first cap).run Tryz.prog w = .ok (.func fn first cap) w := fun _ _ _ _ => rfl
  go_enter Tryz.func151, Tryz.ntmps151
  go_wp2
  go_ret
  exact ⟨rfl, rfl⟩
end
end Go.Proofs.YtfipiifickdeiaaGreatDoor.Krn
namespace Go.Proofs.YtfipiifickdeiaaGreatDoor.Krn
open Go.ChangeShapes Go.WideShapes Go.ChangeAt Go.RowKit
open Mm
section
variable {B : Nat} {w0 : World} {A : List (Nat × List Value × TypeId)} {a : KA} {m m' : Nat} {S S' : KS} {w w' : World}
set_option maxRecDepth 100000 in
set_option maxHeartbeats 1000000 in
theorem onCore1_b {b0 b1 b2 f : Nat} {p : Value} {c : Int} {r : Int × Int × KS} (h0 : (b0, [.pointer (some ⟨a.k, 0, none⟩)], 29) ∈ A) (h1 : (b1, [Value.int .i64 c], 3) ∈ A) (h2 : (b2, [Value.func (.func f) #[p] #[]], 257) ∈ A) (hf : Fnc f) (hmm : m ≤ m') (C : Ansr B w0 a A f (#[p, .int .i64 c]) m m' S r) : Ansr B w0 a A 214 #[.pointer (some ⟨b0, 0, none⟩), .pointer (some ⟨b1, 0, none⟩), .pointer (some ⟨b2, 0, none⟩)] m m' S (onK a.n S c r) := by
  intro A' w sub h
  have c0 : w.cell? ⟨b0, 0, none⟩ = some (.pointer (some ⟨a.k, 0, none⟩)) := (h.bx _ (sub _ h0)).cell 0
  have c1 : w.cell? ⟨b1, 0, none⟩ = some (.int .i64 c) := (h.bx _ (sub _ h1)).cell 0
  have c2 : w.cell? ⟨b2, 0, none⟩ = some (Value.func (.func f) #[p] #[]) := (h.bx _ (sub _ h2)).cell 0
  have k1 := h.c1
  have CI : Hid (∀ _ : Unit, _) := fun _ => k_isCore h c
  have CH : Hid (∀ u, _) := fun u => khas_any S.ac c u h.kb.2.2
  have CC : Hid (∀ v, Sm v w → _) := fun v s => C A' v sub (h.sm s)
  have FF := hf
  unfold Fnc at FF
  obtain ⟨r1, r2, T⟩ := r
  simp only at *
  clear C hf
  unfold onK
  cases q1 : isC a.n c
  · simp only [if_true]
    rw [q1] at CI
    go_enter Tryz.func214, Tryz.ntmps214
    go_wp2_with fail
    refine (CI.out ()).mono ?_
    rintro e w1 ⟨rfl, rfl⟩
    go_wp2
    go_ret2
    exact ⟨rfl, h.more hmm⟩
  · simp only [Bool.true_eq_false, if_false]
    rw [q1] at CI
    cases q2 : tb S.ac c
    · simp only [if_true]
      rw [q2] at CH
      go_enter Tryz.func214, Tryz.ntmps214
      go_wp2_with fail
      refine (CI.out ()).mono ?_
      rintro e w1 ⟨rfl, rfl⟩
      go_wp2_with fail
      go_region_held3 (fun w' => w'.cell? ⟨b0, 0, none⟩ = some (.pointer (some ⟨a.k, 0, none⟩)) ∧ w'.cell? ⟨b1, 0, none⟩ = some (.int .i64 c) ∧ w'.cell? ⟨a.k, 1, none⟩ = some (.int .u64 (S.ac : Int))) (go_keep)
        (first | (go_at_call 107; refine (CH.out _).mono ?_; rintro e w2 ⟨rfl, rfl⟩))
      go_wp2
      go_ret2
      exact ⟨rfl, h.drew.more hmm⟩
    · simp only [Bool.true_eq_false, if_false]
      rw [q2] at CH
      go_enter Tryz.func214, Tryz.ntmps214
      go_wp2_with fail
      refine (CI.out ()).mono ?_
      rintro e w1 ⟨rfl, rfl⟩
      go_wp2_with fail
      go_region_held3 (fun w' => w'.cell? ⟨b0, 0, none⟩ = some (.pointer (some ⟨a.k, 0, none⟩)) ∧ w'.cell? ⟨b1, 0, none⟩ = some (.int .i64 c) ∧ w'.cell? ⟨a.k, 1, none⟩ = some (.int .u64 (S.ac : Int))) (go_keep)
        (first | (go_at_call 107; refine (CH.out _).mono ?_; rintro e w2 ⟨rfl, rfl⟩))
      go_wp2_with fail
      refine (CC.out _ ?_).mono ?_
      · exact ⟨rfl, rfl, rfl, rfl⟩
      rintro e w3 ⟨rfl, h3⟩
      go_wp2
      go_ret2
      exact ⟨rfl, h3⟩
end
end Go.Proofs.YtfipiifickdeiaaGreatDoor.Krn
namespace Go.Proofs.YtfipiifickdeiaaGreatDoor.Krn
open Go.ChangeShapes Go.WideShapes Go.ChangeAt Go.RowKit
open Mm
section
variable {B : Nat} {w0 : World} {A : List (Nat × List Value × TypeId)} {a : KA} {m m' : Nat} {S S' : KS} {w w' : World}
def EvOk (e : Ev) : Prop := wf e.kind ∧ wf e.cpu ∧ wf e.id ∧ wf e.n ∧ e.mask < 18446744073709551616
end
end Go.Proofs.YtfipiifickdeiaaGreatDoor.Krn
namespace Go.Proofs.YtfipiifickdeiaaGreatDoor.Krn
open Go.ChangeShapes Go.WideShapes Go.ChangeAt Go.RowKit
open Mm
section
variable {B : Nat} {w0 : World} {A : List (Nat × List Value × TypeId)} {a : KA} {m m' : Nat} {S S' : KS} {w w' : World}
theorem KX.at {z : Nat} (h : KX B w0 A a m S w) (hz : w.heap.size = z) (cs : List Value) (ty : TypeId) : KX B w0 ((z, cs, ty) :: A) a m S (w.alloc (.cells cs.toArray ty)) := hz ▸ h.new cs ty
theorem Ansr.more {f : Nat} {args : Array Value} {r : Int × Int × KS} (C : Ansr B w0 a A f args m m' S r) {m2 : Nat} (hm : m' ≤ m2) : Ansr B w0 a A f args m m2 S r := fun A' w s h => (C A' w s h).mono fun _ _ x => ⟨x.1, x.2.more hm⟩
/-- A function value that answers. -/
def AnsV (B : Nat) (w0 : World) (a : KA) (A : List (Nat × List Value × TypeId)) (m m' : Nat) (S : KS) (r : Int × Int × KS) (v : Value) : Prop :=
  ∃ f fs cap, v = .func (.func f) fs cap ∧ Fnc f ∧ ((fs = #[] ∧ Ansr B w0 a A f cap m m' S r) ∨ (cap = #[] ∧ ∃ p, fs = #[p] ∧ Ansr B w0 a A f #[p] m m' S r))
def OfP (B : Nat) (w0 : World) (a : KA) (A : List (Nat × List Value × TypeId)) (m m' : Nat) (S : KS) (r : Int × Int × KS) (e : Ending) (w' : World) : Prop :=
  ∃ v X, e = .returned v ∧ KX B w0 (X ++ A) a m S w' ∧ AnsV B w0 a (X ++ A) m m' S r v
theorem OfP.mk {v : Value} {X : List (Nat × List Value × TypeId)} {r : Int × Int × KS} (h : KX B w0 (X ++ A) a m S w') (c : AnsV B w0 a (X ++ A) m m' S r v) : OfP B w0 a A m m' S r (.returned v) w' := ⟨v, X, rfl, h, c⟩
theorem AnsV.mk {f : Nat} {cap : Array Value} {r : Int × Int × KS} (hf : Fnc f) (C : Ansr B w0 a A f cap m m' S r) : AnsV B w0 a A m m' S r (.func (.func f) #[] cap) := ⟨f, #[], cap, rfl, hf, Or.inl ⟨rfl, C⟩⟩
theorem fnc_142 : Fnc 142 := fnc_of Tryz.func142 (by decide) rfl
theorem fnc_330 : Fnc 330 := fnc_of Tryz.func330 (by decide) rfl
theorem fnc_132 : Fnc 132 := fnc_of Tryz.func132 (by decide) rfl
theorem fnc_214 : Fnc 214 := fnc_of Tryz.func214 (by decide) rfl
theorem fnc_90 : Fnc 90 := fnc_of Tryz.func90 (by decide) rfl
theorem fnc_223 : Fnc 223 := fnc_of Tryz.func223 (by decide) rfl
theorem fnc_226 : Fnc 226 := fnc_of Tryz.func226 (by decide) rfl
theorem fnc_227 : Fnc 227 := fnc_of Tryz.func227 (by decide) rfl
theorem fnc_75 : Fnc 75 := fnc_of Tryz.func75 (by decide) rfl
theorem fnc_78 : Fnc 78 := fnc_of Tryz.func78 (by decide) rfl
theorem fnc_80 : Fnc 80 := fnc_of Tryz.func80 (by decide) rfl
theorem fnc_82 : Fnc 82 := fnc_of Tryz.func82 (by decide) rfl
theorem fnc_84 : Fnc 84 := fnc_of Tryz.func84 (by decide) rfl
theorem fnc_87 : Fnc 87 := fnc_of Tryz.func87 (by decide) rfl
theorem fnc_89 : Fnc 89 := fnc_of Tryz.func89 (by decide) rfl
theorem fnc_149 : Fnc 149 := fnc_of Tryz.func149 (by decide) rfl
theorem fnc_152 : Fnc 152 := fnc_of Tryz.func152 (by decide) rfl
theorem fnc_153 : Fnc 153 := fnc_of Tryz.func153 (by decide) rfl
theorem fnc_155 : Fnc 155 := fnc_of Tryz.func155 (by decide) rfl
theorem fnc_157 : Fnc 157 := fnc_of Tryz.func157 (by decide) rfl
theorem fnc_159 : Fnc 159 := fnc_of Tryz.func159 (by decide) rfl
theorem fnc_161 : Fnc 161 := fnc_of Tryz.func161 (by decide) rfl
theorem fnc_163 : Fnc 163 := fnc_of Tryz.func163 (by decide) rfl
theorem fnc_165 : Fnc 165 := fnc_of Tryz.func165 (by decide) rfl
theorem fnc_222 : Fnc 222 := fnc_of Tryz.func222 (by decide) rfl
theorem fnc_224 : Fnc 224 := fnc_of Tryz.func224 (by decide) rfl
theorem fnc_228 : Fnc 228 := fnc_of Tryz.func228 (by decide) rfl
theorem fnc_282 : Fnc 282 := fnc_of Tryz.func282 (by decide) rfl
theorem fnc_284 : Fnc 284 := fnc_of Tryz.func284 (by decide) rfl
theorem fnc_286 : Fnc 286 := fnc_of Tryz.func286 (by decide) rfl
theorem fnc_288 : Fnc 288 := fnc_of Tryz.func288 (by decide) rfl
theorem fnc_290 : Fnc 290 := fnc_of Tryz.func290 (by decide) rfl
theorem fnc_292 : Fnc 292 := fnc_of Tryz.func292 (by decide) rfl
end
end Go.Proofs.YtfipiifickdeiaaGreatDoor.Krn
namespace Go.Proofs.YtfipiifickdeiaaGreatDoor.Krn
open Go.ChangeShapes Go.WideShapes Go.ChangeAt Go.RowKit
open Mm
section
variable {B : Nat} {w0 : World} {A : List (Nat × List Value × TypeId)} {a : KA} {m m' : Nat} {S S' : KS} {w w' : World}
theorem OfP.sub {Y : List (Nat × List Value × TypeId)} {r : Int × Int × KS} {e : Ending} (h : OfP B w0 a (Y ++ A) m m' S r e w') : OfP B w0 a A m m' S r e w' := by
  obtain ⟨v, X, e, k, c⟩ := h
  rw [← List.append_assoc] at k c
  exact ⟨v, X ++ Y, e, k, c⟩
end
end Go.Proofs.YtfipiifickdeiaaGreatDoor.Krn
namespace Go.Proofs.YtfipiifickdeiaaGreatDoor.Krn
open Go.ChangeShapes Go.WideShapes Go.ChangeAt Go.RowKit
open Mm
section
variable {B : Nat} {w0 : World} {A : List (Nat × List Value × TypeId)} {a : KA} {m m' : Nat} {S S' : KS} {w w' : World}
set_option maxRecDepth 100000 in
set_option maxHeartbeats 1000000 in
theorem ofStores_18x (h : KX B w0 A a m S w) {ec ei : Int} {em : Nat} {en : Int} (_ok : EvOk ⟨18, ec, ei, em, en⟩) (_hm : m + 64 ≤ 1000000) (qc : ¬ ec = -1) : Calls Tryz.prog 167 #[.pointer (some ⟨a.k, 0, none⟩), .agg #[.int .i64 18, .int .i64 ec, .int .i64 ei, .int .u64 (em : Int), .int .i64 en]] w fun e w' => OfP B w0 a A m (m + 64) S (ofStores a.n S ⟨18, ec, ei, em, en⟩) e w' := by
  have pc : (ec == -1) = false := by simpa using qc
  have hr : ofStores a.n S ⟨18, ec, ei, em, en⟩ = onK a.n S ec (queue a.n S ec) := by
    show (if ec = -1 then _ else _) = _
    rw [if_neg qc]
  rw [hr]
  have h0 := h
  have h1 := h0.at (z := w.heap.size) (by simp) [.pointer (some ⟨a.k, 0, none⟩)] 29
  have h2 := h1.at (z := w.heap.size + 1) (by simp) [.int .i64 18, .int .i64 ec, .int .i64 ei, .int .u64 (em : Int), .int .i64 en] 37
  have h3 := h2.at (z := w.heap.size + 2) (by simp) [.pointer (some ⟨a.k, 0, none⟩)] 29
  have h4 := h3.at (z := w.heap.size + 3) (by simp) [.int .i64 ec] 3
  have h5 := h4.at (z := w.heap.size + 4) (by simp) [.func (.func 223) #[.pointer (some ⟨a.wk + 6, 0, none⟩)] #[]] 257
  have k8 := h2.c8
  have hd := h5.drew
  have y0 := ((hd.bx (w.heap.size, [.pointer (some ⟨a.k, 0, none⟩)], 29) (List.mem_cons_of_mem _ (List.mem_cons_of_mem _ (List.mem_cons_of_mem _ (List.mem_cons_of_mem _ (List.mem_cons_self ..)))))).cell 0).trans (rfl : _ = some (.pointer (some ⟨a.k, 0, none⟩) : Value))
  have y1 := ((hd.bx (w.heap.size + 1, [.int .i64 18, .int .i64 ec, .int .i64 ei, .int .u64 (em : Int), .int .i64 en], 37) (List.mem_cons_of_mem _ (List.mem_cons_of_mem _ (List.mem_cons_of_mem _ (List.mem_cons_self ..))))).cell 1).trans (rfl : _ = some (.int .i64 ec : Value))
  have y2 := hd.c8
  have x0 := ((h5.bx (w.heap.size, [.pointer (some ⟨a.k, 0, none⟩)], 29) (List.mem_cons_of_mem _ (List.mem_cons_of_mem _ (List.mem_cons_of_mem _ (List.mem_cons_of_mem _ (List.mem_cons_self ..)))))).cell 0).trans (rfl : _ = some (.pointer (some ⟨a.k, 0, none⟩) : Value))
  have x1 := ((h5.bx (w.heap.size + 1, [.int .i64 18, .int .i64 ec, .int .i64 ei, .int .u64 (em : Int), .int .i64 en], 37) (List.mem_cons_of_mem _ (List.mem_cons_of_mem _ (List.mem_cons_of_mem _ (List.mem_cons_self ..))))).cell 1).trans (rfl : _ = some (.int .i64 ec : Value))
  have x2 := h5.c8
  simp only at y0 y1 x0 x1
  have hmf : ∀ (fn : Fn) (first cap : Array Value) (w : World), (Instr.makeFunc fn first cap).run Tryz.prog w = .ok (.func fn first cap) w := fun _ _ _ _ => rfl
  go_enter Tryz.func167, Tryz.ntmps167
  go_wp2_with fail
  go_region_held3 (fun w' => w'.cell? ⟨w.heap.size, 0, none⟩ = some (.pointer (some ⟨a.k, 0, none⟩)) ∧ w'.cell? ⟨w.heap.size + 1, 1, none⟩ = some (.int .i64 ec) ∧ w'.cell? ⟨a.k, 8, none⟩ = some (.pointer (some ⟨a.wk + 6, 0, none⟩))) (go_keep)
    (first | (go_at_call 151; refine (onCore_any _ _ _ _ _).mono ?_; rintro e w1 ⟨rfl, rfl⟩))
  go_wp2
  go_ret
  exact OfP.mk (X := [_, _, _, _, _]) h5.drew (AnsV.mk fnc_214 (onCore1_b (List.mem_cons_of_mem _ (List.mem_cons_of_mem _ (List.mem_cons_self ..))) (List.mem_cons_of_mem _ (List.mem_cons_self ..)) (List.mem_cons_self ..) fnc_223 (by omega) (fun A' w s k => (wk_queue k ec).mono fun _ _ x => ⟨x.1, x.2.more (by omega)⟩)))
end
end Go.Proofs.YtfipiifickdeiaaGreatDoor.Krn
namespace Go.Proofs.YtfipiifickdeiaaGreatDoor.Krn
open Go.ChangeShapes Go.WideShapes Go.ChangeAt Go.RowKit
open Mm
section
variable {B : Nat} {w0 : World} {A : List (Nat × List Value × TypeId)} {a : KA} {m m' : Nat} {S S' : KS} {w w' : World}
end
end Go.Proofs.YtfipiifickdeiaaGreatDoor.Krn
namespace Go.Proofs.YtfipiifickdeiaaGreatDoor.Krn
open Go.ChangeShapes Go.WideShapes Go.ChangeAt Go.RowKit
open Mm
section
variable {B : Nat} {w0 : World} {A : List (Nat × List Value × TypeId)} {a : KA} {m m' : Nat} {S S' : KS} {w w' : World}
end
end Go.Proofs.YtfipiifickdeiaaGreatDoor.Krn
namespace Go.Proofs.YtfipiifickdeiaaGreatDoor.Krn
open Go.ChangeShapes Go.WideShapes Go.ChangeAt Go.RowKit
open Mm
section
variable {B : Nat} {w0 : World} {A : List (Nat × List Value × TypeId)} {a : KA} {m m' : Nat} {S S' : KS} {w w' : World}
end
end Go.Proofs.YtfipiifickdeiaaGreatDoor.Krn
