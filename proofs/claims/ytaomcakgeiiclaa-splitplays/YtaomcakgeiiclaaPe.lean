/- Both numbers in parts, the program's and the document's, in the middle of a law. -/
import Derived.Test.YtaomcakgeiiclaaRows
import Derived.Test.YtaomcakgeiiclaaPd
import Derived.Test.YtaomcakgeiiclaaFs
import Derived.Test.YtaomcakgeiiclaaFo
import Derived.WalkKit
import Derived.ProofKit
import Derived.OpenShut
namespace Go.Proofs.Ytaomcakgeiiclaa
open Go.ChangeShapes Go.WideShapes Go.ChangeAt Go.RowKit
open Pm

/-- Both hold L. -/
structure PQ (w wr : World) (s t : Nat) (L : List Int) : Prop where
  sl : SL wr (s + 1) s L
  rl : RL wr (t + 1) (t) L
  bel : Below s w wr
  st : s + 1 < t

theorem PQ.lt {w wr : World} {s t : Nat} {L : List Int} (h : PQ w wr s t L) : t + 1 < wr.heap.size := h.rl.sb.lt
theorem PQ.new {w w1 w2 : World} {s t : Nat} {L : List Int} (h : PQ w w1 s t L) (b : Below w1.heap.size w1 w2) : PQ w w2 s t L := by
  have := h.lt
  exact ⟨h.sl.keep (Fr.of_below b) ⟨h.sl.sb.lt, h.sl.sg.lt⟩ ⟨by simp, by simp⟩, h.rl.keep (Fr.of_below b) ⟨h.rl.sb.lt, h.rl.sg.lt⟩ ⟨by simp, by simp⟩, h.bel.trans (b.mono (by have := h.st; omega)), h.st⟩
theorem PQ.alloc {w wr : World} {s t : Nat} {L : List Int} (h : PQ w wr s t L) (o : Obj) : PQ w (wr.alloc o) s t L := h.new (((Fr.refl wr.heap.size [] wr).alloc (Nat.le_refl _) o).below (by simp))
theorem PQ.sm {w w1 w2 : World} {s t : Nat} {L : List Int} (h : PQ w w1 s t L) (e : Sm w2 w1) : PQ w w2 s t L := ⟨h.sl.heap e.1, h.rl.heap e.1, e.below h.bel, h.st⟩
theorem PQ.act {w w1 w2 w3 : World} {s t : Nat} {L L2 : List Int} (h : PQ w w1 s t L) (k : SL w2 (s + 1) s L2) (f : Fr w1.heap.size [s] w1 w2) (k2 : RL w3 (t + 1) (t) L2) (f2 : Fr w2.heap.size [t] w2 w3) : PQ w w3 s t L2 := by
  have l := h.lt
  have l2 := f.size
  have l3 := h.st
  exact ⟨k.keep f2 ⟨by omega, by omega⟩ ⟨by simp; omega, by simp; omega⟩, k2, (h.bel.trans ((f.less (by omega)).below (by simp))).trans ((f2.less (by omega)).below (by simp; omega)), l3⟩
theorem PQ.other {w w1 w2 : World} {s t : Nat} {L : List Int} (h : PQ w w1 s t L) (f : Fr w1.heap.size [s] w1 w2) : RL w2 (t + 1) (t) L := h.rl.keep f ⟨h.rl.sb.lt, h.rl.sg.lt⟩ ⟨by have := h.st; simp; omega, by have := h.st; simp; omega⟩

theorem smS {K : Nat} {args : Array Value} {b g : Nat} {L L2 : List Int} {ee : Int} {wa : World} (hp : SL wa b g L)
    (hc : ∀ u, SL u b g L → Calls Try.prog K args u fun e w' => e = .returned (.int .i64 ee) ∧ SL w' b g L2 ∧ Fr u.heap.size [g] u w') (u : World) (h : Sm u wa) :
    Calls Try.prog K args u fun e w' => e = .returned (.int .i64 ee) ∧ SL w' b g L2 ∧ Fr wa.heap.size [g] wa w' := by
  refine (hc u (hp.heap h.1)).mono ?_
  rintro e w' ⟨rfl, k, f⟩
  rw [h.1] at f
  exact ⟨rfl, k, h.fr f⟩
theorem smR {K : Nat} {args : Array Value} {b g : Nat} {L L2 : List Int} {ee : Int} {wa : World} (hp : RL wa b g L)
    (hc : ∀ u, RL u b g L → Calls Try.prog K args u fun e w' => e = .returned (.int .i64 ee) ∧ RL w' b g L2 ∧ Fr u.heap.size [g] u w') (u : World) (h : Sm u wa) :
    Calls Try.prog K args u fun e w' => e = .returned (.int .i64 ee) ∧ RL w' b g L2 ∧ Fr wa.heap.size [g] wa w' := by
  refine (hc u (hp.heap h.1)).mono ?_
  rintro e w' ⟨rfl, k, f⟩
  rw [h.1] at f
  exact ⟨rfl, k, h.fr f⟩
theorem act_list {w wa : World} {s t : Nat} {L : List Int} (h : PQ w wa s t L) (u : World) (e : Sm u wa) :
    Calls Try.prog 39 #[.pointer (some ⟨s + 1, 0, none⟩)] u fun e w' => ∃ v, e = .returned v ∧ Gl wa w' v L := by
  refine (list_any u (h.sl.heap e.1)).mono ?_
  rintro e2 w2 ⟨v, rfl, g⟩
  have b := g.bel
  rw [e.1] at b
  exact ⟨v, rfl, g.row, e.from b, g.shape⟩
theorem act_same {w wa : World} {s t : Nat} {L : List Int} (h : PQ w wa s t L) (u1 : World) (v : Value) (g : Gl wa u1 v L) (u : World) (e : Sm u u1) :
    Calls Try.prog 38 #[v, .slice (some ⟨t, 0, none⟩) L.length L.length] u fun e w' => e = .returned (.bool true) ∧ ∃ n, w' = u.drewN n := by
  have r2 : Row u1 (.slice (some ⟨t, 0, none⟩) L.length L.length) L := (h.new g.bel).rl.row _
  have fu : Fr u1.heap.size [] u1 u := ⟨e.2.1, e.2.2.1, e.2.2.2, by rw [e.1]; exact Nat.le_refl _, fun k _ _ => by rw [e.1]⟩
  have := h.rl.len
  exact same_any L v _ u (by omega) (g.row.keep fu (Nat.le_refl _)) (r2.keep fu (Nat.le_refl _))
end Go.Proofs.Ytaomcakgeiiclaa
