/- The texts Kt Kn Ku Kr Kra Zk Kr3 Krb Krc Ks Kse Kth Kfl Kst of one layer, laid together. -/
import Derived.Test.YtmlilgbochbbiaaGreatDoorRows
import Derived.Test.YtmlilgbochbbiaaGreatDoorZka
import Derived.WalkKit
import Derived.ProofKit
import Derived.OpenShut
import Derived.BigQuiet
import Derived.Deep.RegionHeld3
import Derived.Deep.RegionHeld
namespace Go.Proofs.YtmlilgbochbbiaaGreatDoor.Krn
open Go.ChangeShapes Go.WideShapes Go.ChangeAt Go.RowKit
open Mm
section
variable {B : Nat} {w0 : World} {A : List (Nat × List Value × TypeId)} {a : KA} {m m' : Nat} {S S' : KS} {w w' : World}
theorem ff_lt {k : Nat} {O : Nat → Bool} {i : Nat} (h : Sl.ff k O = some i) : i < k := by
  have := List.mem_of_find?_eq_some h
  simpa using this
theorem sp_rg {n : Nat} {O : Nat → Bool} (p : Int) (x : Nat) : 0 ≤ Tm.spN n O p x ∧ Tm.spN n O p x ≤ 32 := by
  unfold Tm.spN
  split
  · cases e : Sl.ff 32 O with
    | none => simp [Sl.tN]
    | some i => have := ff_lt e; simp only [Sl.tN]; omega
  · omega
theorem sp_no {n : Nat} {S : KS} {p : Int} {x : Nat} (q : ¬ Tm.spE n S.O p x = 0) : spS n S p x = S := by
  unfold spS Tm.spO Tm.spX
  unfold Tm.spE at q
  by_cases b : Tm.spB n p x = true
  · rw [if_pos b] at q
    rw [if_pos b, if_pos b]
    cases e : Sl.ff 32 S.O with
    | none => rfl
    | some i => rw [e] at q; exact absurd rfl q
  · rw [if_neg b, if_neg b]
set_option maxRecDepth 100000 in
theorem k_spawn (h : KX B w0 A a m S w) (p : Int) (x : Nat) (hx : x < 18446744073709551616) (hm : m ≤ 1000000) :
    Calls Tryz.prog 78 #[.pointer (some ⟨a.k, 0, none⟩), .int .i64 (p), .int .u64 (x : Int)] w fun e w' => e = .returned (.tuple #[.int .i64 (spawn a.n S p x).1, .int .i64 (spawn a.n S p x).2.1]) ∧ KX B w0 A a (m + 1) (spawn a.n S p x).2.2 w' := by
  unfold spawn
  have c3 := h.c3
  have C : Hid (∀ _ : Unit, _) := fun _ => th_spawn h p x hx
  have n1 : (1 : Int) ≤ a.n := by have := h.n1; omega
  by_cases q : Tm.spE a.n S.O p x = 0
  · simp only [if_pos q]
    rw [q] at C
    have r := sp_rg (n := a.n) (O := S.O) p x
    generalize Tm.spN a.n S.O p x = id at *
    have hw : wf id := wf_of (by omega) (by omega)
    have hn : -9223372036854775808 ≤ id.tmod a.n := by
      have := Int.tmod_nonneg (a.n : Int) r.1
      omega
    have nz : ((a.n : Int) == 0) = false := by simp; omega
    have wr : IntKind.i64.wrap (id.tmod a.n) = id.tmod a.n := by
      have h1 := Int.tmod_nonneg (a.n : Int) r.1
      have h2 : id.tmod a.n < a.n := Int.tmod_lt_of_pos id (by omega)
      have h3 := h.n2
      rw [IntKind.wrap_i64]
      omega
    generalize hz : id.tmod (a.n : Int) = z at *
    go_enter Tryz.func78, Tryz.ntmps78
    go_wp2_with fail
    refine (C.out ()).mono ?_
    rintro e w1 ⟨rfl, h1⟩
    go_wp2_with fail
    refine (k_Cpus h1).mono ?_
    rintro e w2 ⟨rfl, rfl⟩
    go_wp2_with fail
    refine (k_put h1 id z hw hn hm).mono ?_
    rintro e w3 ⟨rfl, h3⟩
    go_wp2
    go_ret2
    exact ⟨rfl, h3⟩
  · simp only [if_neg q]
    have e0 : spS a.n S p x = S := sp_no q
    rw [e0] at C
    generalize Tm.spE a.n S.O p x = y at *
    generalize Tm.spN a.n S.O p x = id at *
    have q2 : (y == 0) = false := by simpa using q
    go_enter Tryz.func78, Tryz.ntmps78
    go_wp2_with fail
    refine (C.out ()).mono ?_
    rintro e w1 ⟨rfl, h1⟩
    go_wp2
    go_ret2
    exact ⟨rfl, h1.more (by omega)⟩
end
end Go.Proofs.YtmlilgbochbbiaaGreatDoor.Krn
namespace Go.Proofs.YtmlilgbochbbiaaGreatDoor.Krn
open Go.ChangeShapes Go.WideShapes Go.ChangeAt Go.RowKit
open Mm
section
variable {B : Nat} {w0 : World} {A : List (Nat × List Value × TypeId)} {a : KA} {m m' : Nat} {S S' : KS} {w w' : World}
end
end Go.Proofs.YtmlilgbochbbiaaGreatDoor.Krn
namespace Go.Proofs.YtmlilgbochbbiaaGreatDoor.Krn
open Go.ChangeShapes Go.WideShapes Go.ChangeAt Go.RowKit
open Mm
section
variable {B : Nat} {w0 : World} {A : List (Nat × List Value × TypeId)} {a : KA} {m m' : Nat} {S S' : KS} {w w' : World}
end
end Go.Proofs.YtmlilgbochbbiaaGreatDoor.Krn
namespace Go.Proofs.YtmlilgbochbbiaaGreatDoor.Krn
open Go.ChangeShapes Go.WideShapes Go.ChangeAt Go.RowKit
open Mm
section
variable {B : Nat} {w0 : World} {A : List (Nat × List Value × TypeId)} {a : KA} {m m' : Nat} {S S' : KS} {w w' : World}
end
end Go.Proofs.YtmlilgbochbbiaaGreatDoor.Krn
namespace Go.Proofs.YtmlilgbochbbiaaGreatDoor.Krn
open Go.ChangeShapes Go.WideShapes Go.ChangeAt Go.RowKit
open Mm
section
variable {B : Nat} {w0 : World} {A : List (Nat × List Value × TypeId)} {a : KA} {m m' : Nat} {S S' : KS} {w w' : World}
end
end Go.Proofs.YtmlilgbochbbiaaGreatDoor.Krn
namespace Go.Proofs.YtmlilgbochbbiaaGreatDoor
section
variable {P : Program} {ops : Array Oper} {Q : Exit → Act → World → Prop} {md : Region.Mode} {S : World → Prop} {zs : List Nat}
/-- What has come up waits for nothing that has not. -/
def Closed (md : Region.Mode) (ops : Array Oper) (listed : Array Bool) : Prop := ∀ j o, ops[j]? = some o → listed.getD j false = true → ∀ e ∈ o.after, Region.binds md e = true → listed.getD e.on false = true
theorem Closed.set {listed : Array Bool} (h : Closed md ops listed) {j : Nat} (hj : j ∈ Region.ready md ops listed) : Closed md ops (listed.setIfInBounds j true) := fun k o ho hl e he hb => by
  by_cases c : k = j
  · subst c
    obtain ⟨_, o', ho', hall⟩ := mem_ready.1 hj
    rw [ho] at ho'
    cases ho'
    exact getD_set_true (hall e he hb)
  · rw [getD_set_ne false (fun q => c q.symm)] at hl
    exact getD_set_true (h k o ho hl e he hb)
end
end Go.Proofs.YtmlilgbochbbiaaGreatDoor
namespace Go.Proofs.YtmlilgbochbbiaaGreatDoor.Krn
open Go.ChangeShapes Go.WideShapes Go.ChangeAt Go.RowKit
open Mm
section
variable {B : Nat} {w0 : World} {A : List (Nat × List Value × TypeId)} {a : KA} {m m' : Nat} {S S' : KS} {w w' : World}
end
end Go.Proofs.YtmlilgbochbbiaaGreatDoor.Krn
namespace Go.Proofs.YtmlilgbochbbiaaGreatDoor.Krn
open Go.ChangeShapes Go.WideShapes Go.ChangeAt Go.RowKit
open Mm
section
variable {B : Nat} {w0 : World} {A : List (Nat × List Value × TypeId)} {a : KA} {m m' : Nat} {S S' : KS} {w w' : World}
end
end Go.Proofs.YtmlilgbochbbiaaGreatDoor.Krn
namespace Go.Proofs.YtmlilgbochbbiaaGreatDoor.Krn
open Go.ChangeShapes Go.WideShapes Go.ChangeAt Go.RowKit
open Mm
section
variable {B : Nat} {w0 : World} {A : List (Nat × List Value × TypeId)} {a : KA} {m m' : Nat} {S S' : KS} {w w' : World}
/-- The cells of a record; the records that a call hands back, in a block beside the kernel. -/
def rc (r : Rec) : List Value := [.int .i64 r.kind, .int .i64 r.cpu, .int .i64 r.id, .int .i64 r.n, .int .i64 r.why]
def Rr (X : List (Nat × List Value × TypeId)) (v : Value) (L : List Rec) : Prop :=
  (X = [] ∧ L = [] ∧ v = .slice none 0 0) ∨ ∃ b r, X = [(b, rc r, 52)] ∧ L = [r] ∧ v = .slice (some ⟨b, 0, none⟩) 1 1
theorem Rr.none : Rr [] (.slice none 0 0) [] := Or.inl ⟨rfl, rfl, rfl⟩
theorem KX.recd (h : KX B w0 A a m S w) (r : Rec) : KX B w0 ([(w.heap.size, rc r, 52)] ++ A) a m S (w.alloc (.cells (rc r).toArray 52)) ∧ Rr [(w.heap.size, rc r, 52)] (.slice (some ⟨w.heap.size, 0, none⟩) 1 1) [r] :=
  ⟨h.new (rc r) 52, Or.inr ⟨_, r, rfl, rfl, rfl⟩⟩
end
end Go.Proofs.YtmlilgbochbbiaaGreatDoor.Krn
namespace Go.Proofs.YtmlilgbochbbiaaGreatDoor.Krn
open Go.ChangeShapes Go.WideShapes Go.ChangeAt Go.RowKit
open Mm
section
variable {B : Nat} {w0 : World} {A : List (Nat × List Value × TypeId)} {a : KA} {m m' : Nat} {S S' : KS} {w w' : World}
theorem KX.smb {u : World} (h : KX B w0 A a m S w) (f : Below u.heap.size u w') (s : Sm u w) : KX B w0 A a m S w' := (h.sm s).below f
end
end Go.Proofs.YtmlilgbochbbiaaGreatDoor.Krn
namespace Go.Proofs.YtmlilgbochbbiaaGreatDoor.Krn
open Go.ChangeShapes Go.WideShapes Go.ChangeAt Go.RowKit
open Mm
section
variable {B : Nat} {w0 : World} {A : List (Nat × List Value × TypeId)} {a : KA} {m m' : Nat} {S S' : KS} {w w' : World}
/-- A block beside the kernel is written. -/
theorem KX.setb {b : Nat} {cs : List Value} {t : TypeId} (h : KX B w0 ((b, cs, t) :: A) a m S w) (ne : ∀ x ∈ A, x.1 ≠ b) (hb : B ≤ b) (i : Nat) (v : Value) : KX B w0 ((b, cs.set i v, t) :: A) a m S (w.setCell ⟨b, i, none⟩ v) := by
  obtain ⟨F, K, hB, hA⟩ := h.ex
  have f : Fr w.heap.size [b] w (w.setCell ⟨b, i, none⟩ v) := (Fr.refl _ _ _).setCell (Or.inr (by simp)) _
  have hs := h.sz
  have h1 := h.b1
  have hz : ∀ i, i < 16 → ∀ g ∈ F i, g ∉ [b] := fun j hj g hg e => by
    rw [List.mem_singleton.1 e] at hg
    exact hA (b, cs, t) (by simp) j hj hg
  refine ⟨⟨F, ⟨fun j hj => (K.p j hj).keep f (hz j hj) (K.lt j hj), K.dis, fun j hj k hk => Nat.lt_of_lt_of_le (K.lt j hj k hk) f.size⟩, hB, fun x hx j hj => ?_⟩, fun x hx => ?_, ?_, Nat.le_trans hs f.size, h1, ?_, h.n1, h.n2⟩
  · rcases List.mem_cons.1 hx with rfl | hx
    · exact hA (b, cs, t) (by simp) j hj
    · exact hA x (List.mem_cons_of_mem _ hx) j hj
  · rcases List.mem_cons.1 hx with rfl | hx
    · exact h.blk.set i v
    · exact (h.bx x (List.mem_cons_of_mem _ hx)).keep f (h.bx x (List.mem_cons_of_mem _ hx)).lt (by simp; exact ne x hx)
  · exact h.bel.trans ((f.less hs).below fun k hk => by rw [List.mem_singleton.1 hk]; exact hb)
  · exact tab_keep h.tab (by omega) f (by simp; omega)
theorem results_one {fn : Func} {p : Tmp} {ty : TypeId} (h : fn.results = #[.cell p ty]) (tmps : Array Value) (P : Program) (w : World) :
    (results fn tmps).run P w = ((asAddr (tmps.getD p undef)).run P w).andThen fun a w₁ => (loadVar ty a).run P w₁ := by
  simp only [results, h]
  simp [Sem.run_bind, Result.andThen]
end
end Go.Proofs.YtmlilgbochbbiaaGreatDoor.Krn
namespace Go.Proofs.YtmlilgbochbbiaaGreatDoor.Krn
open Go.ChangeShapes Go.WideShapes Go.ChangeAt Go.RowKit
open Mm
section
variable {B : Nat} {w0 : World} {A : List (Nat × List Value × TypeId)} {a : KA} {m m' : Nat} {S S' : KS} {w w' : World}
end
end Go.Proofs.YtmlilgbochbbiaaGreatDoor.Krn
namespace Go.Proofs.YtmlilgbochbbiaaGreatDoor.Krn
open Go.ChangeShapes Go.WideShapes Go.ChangeAt Go.RowKit
open Mm
section
variable {B : Nat} {w0 : World} {A : List (Nat × List Value × TypeId)} {a : KA} {m m' : Nat} {S S' : KS} {w w' : World}
end
end Go.Proofs.YtmlilgbochbbiaaGreatDoor.Krn
namespace Go.Proofs.YtmlilgbochbbiaaGreatDoor.Krn
open Go.ChangeShapes Go.WideShapes Go.ChangeAt Go.RowKit
open Mm
section
variable {B : Nat} {w0 : World} {A : List (Nat × List Value × TypeId)} {a : KA} {m m' : Nat} {S S' : KS} {w w' : World}
end
end Go.Proofs.YtmlilgbochbbiaaGreatDoor.Krn
