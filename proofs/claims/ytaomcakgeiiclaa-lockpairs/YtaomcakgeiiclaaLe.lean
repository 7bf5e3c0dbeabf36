/- A pair in the middle of a law. -/
import Derived.Test.YtaomcakgeiiclaaRows
import Derived.Test.YtaomcakgeiiclaaLd
import Derived.Test.YtaomcakgeiiclaaFs
import Derived.Test.YtaomcakgeiiclaaFo
namespace Go.Proofs.Ytaomcakgeiiclaa
open Go.ChangeShapes Go.WideShapes Go.ChangeAt Go.RowKit
open Fm Ll

/-- The pair stands at block s; nothing below has turned. -/
structure PW (w wr : World) (s : Nat) (v : PV) : Prop where
  pb : PB 46 wr s v
  bel : Below s w wr

theorem PW.alloc {w wr : World} {s : Nat} {v : PV} (h : PW w wr s v) (o : Obj) : PW w (wr.alloc o) s v := by
  have := Blk.lt h.pb
  exact ⟨Blk.alloc h.pb o, h.bel.trans (((Fr.refl s [] wr).alloc (by omega) o).below (by simp))⟩
theorem PW.act {w w1 w2 : World} {s : Nat} {v v2 : PV} (h : PW w w1 s v) (k : PB 46 w2 s v2) (f : Fr w1.heap.size [s] w1 w2) : PW w w2 s v2 := by
  have := Blk.lt h.pb
  exact ⟨k, h.bel.trans ((f.less (by omega)).below (by simp))⟩

/-- While no core writes, p and q are the two numbers. -/
def Wh (v : PV) (p q : Int) : Prop := odd v = false → p = v.x0 ∧ q = v.x1

theorem wh_bg {v : PV} {p q : Int} (h : Wh v p q) (c : Int) : Wh (bgV v c) p q ∧ (bgV v c).t ≤ v.t + 1 := by
  unfold bgV
  cases i : ic c
  · simp; exact h
  · cases o : odd v
    · refine ⟨fun e => ?_, by simp⟩
      have := of_decide_eq_false o
      simp only [if_true, Bool.false_eq_true, if_false] at e
      have := of_decide_eq_false e
      simp only at this
      omega
    · simp; exact h
theorem wh_pt {v : PV} {p q : Int} (h : Wh v p q) (c a n : Int) : Wh (ptV v c a n) p q ∧ (ptV v c a n).t = v.t := by
  unfold ptV
  cases i : ic c
  · simp; exact h
  · cases l : ipl a
    · simp; exact h
    · cases o : me v c
      · simp; exact h
      · obtain ⟨o1, _⟩ := me_yes o
        by_cases z : a = 0
        · simp only [if_true, z]
          refine ⟨fun e => ?_, trivial⟩
          have e2 : odd v = false := e
          rw [o1] at e2
          cases e2
        · simp only [if_true, if_neg z]
          refine ⟨fun e => ?_, trivial⟩
          have e2 : odd v = false := e
          rw [o1] at e2
          cases e2
theorem wh_en {v : PV} (c : Int) : (enE v c = 0 ∧ Wh (enV v c) v.x0 v.x1 ∧ (enV v c).t ≤ v.t + 1 ∧ (enV v c).x0 = v.x0 ∧ (enV v c).x1 = v.x1) ∨ ((enE v c == 0) = false ∧ enV v c = v) := by
  unfold enE enV
  cases i : ic c
  · exact Or.inr ⟨by simp, by simp⟩
  · cases o : me v c
    · exact Or.inr ⟨by simp, by simp⟩
    · exact Or.inl ⟨by simp, fun _ => ⟨by simp, by simp⟩, by simp, by simp, by simp⟩

theorem pw_new (w : World) : PW w (w.alloc (.cells #[.int .i64 0, .int .i64 0, .int .i64 0, .int .i64 0] 46)) w.heap.size ⟨0, 0, 0, 0⟩ :=
  ⟨Blk.new w [.int .i64 0, .int .i64 0, .int .i64 0, .int .i64 0] _, ((Fr.refl w.heap.size [] w).alloc (Nat.le_refl _) _).below (by simp)⟩

/-- Both pairs, the program's and the document's, hold the same. -/
structure PP (w wr : World) (s : Nat) (v : PV) : Prop where
  pb : PB 46 wr s v
  rb : PB 49 wr (s + 1) v
  bel : Below s w wr

theorem pp_new (w : World) (o1 o2 : Array Value) (h1 : o1 = #[.int .i64 0, .int .i64 0, .int .i64 0, .int .i64 0]) (h2 : o2 = #[.int .i64 0, .int .i64 0, .int .i64 0, .int .i64 0]) : PP w ((w.alloc (.cells o1 46)).alloc (.cells o2 49)) w.heap.size ⟨0, 0, 0, 0⟩ := by
  subst h1
  subst h2
  refine ⟨Blk.alloc (Blk.new w [.int .i64 0, .int .i64 0, .int .i64 0, .int .i64 0] _) _, ?_, (((Fr.refl w.heap.size [] w).alloc (Nat.le_refl _) _).alloc (by simp) _).below (by simp)⟩
  have := Blk.new (w.alloc (.cells #[.int .i64 0, .int .i64 0, .int .i64 0, .int .i64 0] 46)) [.int .i64 0, .int .i64 0, .int .i64 0, .int .i64 0] 49
  rw [show (w.alloc (.cells #[.int .i64 0, .int .i64 0, .int .i64 0, .int .i64 0] 46)).heap.size = w.heap.size + 1 by simp] at this
  exact this

theorem PP.alloc {w wr : World} {s : Nat} {v : PV} (h : PP w wr s v) (o : Obj) : PP w (wr.alloc o) s v := by
  have := Blk.lt h.pb
  exact ⟨Blk.alloc h.pb o, Blk.alloc h.rb o, h.bel.trans (((Fr.refl s [] wr).alloc (by omega) o).below (by simp))⟩
theorem PP.sm {w w1 w2 : World} {s : Nat} {v : PV} (h : PP w w1 s v) (e : Sm w2 w1) : PP w w2 s v := ⟨Blk.heap h.pb e.1, Blk.heap h.rb e.1, e.below h.bel⟩

/-- An act on both; a third block stays. -/
theorem PP.act {w w1 w2 w3 : World} {s : Nat} {v v2 : PV} (h : PP w w1 s v) (k : PB 46 w2 s v2) (f : Fr w1.heap.size [s] w1 w2) (k2 : PB 49 w3 (s + 1) v2) (f2 : Fr w2.heap.size [s + 1] w2 w3) : PP w w3 s v2 := by
  have a := Blk.lt h.pb
  have b := Blk.lt k
  have c := f.size
  exact ⟨Blk.keep k f2 b (by simp), k2, (h.bel.trans ((f.less (by omega)).below (by simp))).trans ((f2.less (by omega)).below (by simp))⟩
theorem PP.other {w w1 w2 : World} {s : Nat} {v : PV} (h : PP w w1 s v) (f : Fr w1.heap.size [s] w1 w2) : PB 49 w2 (s + 1) v := Blk.keep h.rb f (Blk.lt h.rb) (by simp)

/-- A call at a world that differs by draws alone. -/
theorem sm_call {K : Nat} {args : Array Value} {ty : TypeId} {s : Nat} {v v2 : PV} {ee : Int} {wa : World} (hp : PB ty wa s v)
    (hc : ∀ u, PB ty u s v → Calls Try.prog K args u fun e w' => e = .returned (.int .i64 ee) ∧ PB ty w' s v2 ∧ Fr u.heap.size [s] u w') (u : World) (h : Sm u wa) :
    Calls Try.prog K args u fun e w' => e = .returned (.int .i64 ee) ∧ PB ty w' s v2 ∧ Fr wa.heap.size [s] wa w' := by
  refine (hc u (Blk.heap hp h.1)).mono ?_
  rintro e w' ⟨rfl, k, f⟩
  rw [h.1] at f
  exact ⟨rfl, k, h.fr f⟩

theorem bg_t (v : PV) (c : Int) : (bgV v c).t ≤ v.t + 1 := by
  unfold bgV
  cases ic c <;> cases odd v <;> simp
theorem pt_t (v : PV) (c a n : Int) : (ptV v c a n).t ≤ v.t + 1 := by
  unfold ptV
  cases ic c <;> cases ipl a <;> cases me v c <;> by_cases z : a = 0 <;> simp [z]
theorem en_t (v : PV) (c : Int) : (enV v c).t ≤ v.t + 1 := by
  unfold enV
  cases ic c <;> cases me v c <;> simp
end Go.Proofs.Ytaomcakgeiiclaa
