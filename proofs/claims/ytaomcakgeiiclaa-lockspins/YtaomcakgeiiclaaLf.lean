/- Both locks, the program's and the document's, in the middle of a law. -/
import Derived.Test.YtaomcakgeiiclaaRows
import Derived.Test.YtaomcakgeiiclaaLc
import Derived.Test.YtaomcakgeiiclaaFs
import Derived.Test.YtaomcakgeiiclaaFo
import Derived.WalkKit
import Derived.ProofKit
import Derived.OpenShut
namespace Go.Proofs.Ytaomcakgeiiclaa
open Go.ChangeShapes Go.WideShapes Go.ChangeAt Go.RowKit
open Fm Ll

/-- Both locks are wanted by L. -/
structure LS (w wr : World) (s : Nat) (L : List Int) : Prop where
  sp : ∃ A, SP wr s A L
  rs : ∃ a cap, RS wr (s + 1) (s + 2) L a cap
  bel : Below s w wr

theorem ls_new (w : World) {Z o : Array Value} (hZ : Z = ((List.replicate 64 (0 : Int)).map (Value.int .i64) ++ [Value.int .i64 0]).toArray) (ho : o = #[.slice none 0 0]) : LS w ((w.alloc (.cells Z 26)).alloc (.cells o 30)) w.heap.size [] := by
  subst ho
  have s0 := sp_new w hZ
  refine ⟨⟨_, s0.keep ((Fr.refl (w.alloc (.cells Z 26)).heap.size [] _).alloc (Nat.le_refl _) _) s0.sb.lt (by simp)⟩, ⟨none, 0, ?_, World.ownsRow_nil _ _ _ _, by omega, by simp⟩, (((Fr.refl w.heap.size [] w).alloc (Nat.le_refl _) _).alloc (by simp) _).below (by simp)⟩
  have := Blk.new (w.alloc (.cells Z 26)) [.slice none 0 0] 30
  rw [show (w.alloc (.cells Z 26)).heap.size = w.heap.size + 1 by simp] at this
  exact this

theorem LS.len {w wr : World} {s : Nat} {L : List Int} (h : LS w wr s L) : (L.length : Int) ≤ 64 := by
  obtain ⟨A, k⟩ := h.sp
  have := k.ln.len
  omega
theorem LS.nd {w wr : World} {s : Nat} {L : List Int} (h : LS w wr s L) : L.Nodup := by
  obtain ⟨A, k⟩ := h.sp
  exact k.ln.nodup
theorem LS.lt {w wr : World} {s : Nat} {L : List Int} (h : LS w wr s L) : s + 1 < wr.heap.size := by
  obtain ⟨a, c, k⟩ := h.rs
  exact k.sb.lt
theorem LS.new {w w1 w2 : World} {s : Nat} {L : List Int} (h : LS w w1 s L) (b : Below w1.heap.size w1 w2) : LS w w2 s L := by
  have := h.lt
  obtain ⟨A, k⟩ := h.sp
  obtain ⟨a, c, r⟩ := h.rs
  exact ⟨⟨A, k.keep (Fr.of_below b) k.sb.lt (by simp)⟩, ⟨a, c, r.keep (Fr.of_below b) (Nat.le_refl _) (by simp) (by simp)⟩, h.bel.trans (b.mono (by omega))⟩
theorem LS.alloc {w wr : World} {s : Nat} {L : List Int} (h : LS w wr s L) (o : Obj) : LS w (wr.alloc o) s L := h.new (((Fr.refl wr.heap.size [] wr).alloc (Nat.le_refl _) o).below (by simp))
theorem LS.sm {w w1 w2 : World} {s : Nat} {L : List Int} (h : LS w w1 s L) (e : Sm w2 w1) : LS w w2 s L := by
  obtain ⟨A, k⟩ := h.sp
  obtain ⟨a, c, r⟩ := h.rs
  exact ⟨⟨A, k.heap e.1⟩, ⟨a, c, r.heap e.1⟩, e.below h.bel⟩

/-- An act on both. -/
theorem LS.act {w w1 w2 w3 : World} {s : Nat} {L L2 A2 : List Int} {a a2 : Option Addr} {c c2 : Nat} (h : LS w w1 s L) (r : RS w1 (s + 1) (s + 2) L a c) (k : SP w2 s A2 L2) (f : Fr w1.heap.size [s] w1 w2) (r2 : RS w3 (s + 1) (s + 2) L2 a2 c2) (f2 : Fr w2.heap.size ((s + 1) :: ob a L.length c) w2 w3) : LS w w3 s L2 := by
  have l := h.lt
  have rk : RS w2 (s + 1) (s + 2) L a c := r.keep f (Nat.le_refl _) (by simp) (by simp)
  have f3 := rk.fr f2
  exact ⟨⟨A2, k.keep f3 (by omega) (by simp)⟩, ⟨a2, c2, r2⟩, (h.bel.trans ((f.less (by omega)).below (by simp))).trans ((f3.less (by omega)).below (by simp))⟩

theorem act_take {w wa : World} {s : Nat} {L : List Int} (h : LS w wa s L) (y : Int) (u : World) (e : Sm u wa) :
    Calls Try.prog 11 #[.pointer (some ⟨s, 0, none⟩), .int .i64 y] u fun e w' => e = .returned (.int .i64 (tkE L y)) ∧ (∃ A', SP w' s A' (tkL L y)) ∧ Fr wa.heap.size [s] wa w' := by
  obtain ⟨A, k⟩ := h.sp
  refine (take_any y u (k.heap e.1)).mono ?_
  rintro e2 w2 ⟨rfl, k2, f2⟩
  rw [e.1] at f2
  exact ⟨rfl, k2, e.fr f2⟩
theorem act_leave {w wa : World} {s : Nat} {L : List Int} (h : LS w wa s L) (y : Int) (u : World) (e : Sm u wa) :
    Calls Try.prog 9 #[.pointer (some ⟨s, 0, none⟩), .int .i64 y] u fun e w' => e = .returned (.int .i64 (lvE L y)) ∧ (∃ A', SP w' s A' (lvL L y)) ∧ Fr wa.heap.size [s] wa w' := by
  obtain ⟨A, k⟩ := h.sp
  refine (leave_any y u (k.heap e.1)).mono ?_
  rintro e2 w2 ⟨rfl, k2, f2⟩
  rw [e.1] at f2
  exact ⟨rfl, k2, e.fr f2⟩
theorem act_rtake {wa : World} {s : Nat} {L : List Int} {a : Option Addr} {c : Nat} (r : RS wa (s + 1) (s + 2) L a c) (hl : (L.length : Int) ≤ 64) (y : Int) (u1 : World) (f : Fr wa.heap.size [s] wa u1) (u : World) (e : Sm u u1) :
    Calls Try.prog 12 #[.pointer (some ⟨s + 1, 0, none⟩), .int .i64 y] u fun e w' => e = .returned (.int .i64 (tkE L y)) ∧ (∃ a' c', RS w' (s + 1) (s + 2) (tkL L y) a' c') ∧ Fr u1.heap.size ((s + 1) :: ob a L.length c) u1 w' := by
  refine (rtake_any y u ((r.keep f (Nat.le_refl _) (by simp) (by simp)).heap e.1) hl).mono ?_
  rintro e2 w2 ⟨rfl, k2, f2⟩
  rw [e.1] at f2
  exact ⟨rfl, k2, e.fr f2⟩
theorem act_rleave {wa : World} {s : Nat} {L : List Int} {a : Option Addr} {c : Nat} (r : RS wa (s + 1) (s + 2) L a c) (hl : (L.length : Int) ≤ 64) (hn : L.Nodup) (y : Int) (u1 : World) (f : Fr wa.heap.size [s] wa u1) (u : World) (e : Sm u u1) :
    Calls Try.prog 10 #[.pointer (some ⟨s + 1, 0, none⟩), .int .i64 y] u fun e w' => e = .returned (.int .i64 (lvE L y)) ∧ (∃ a' c', RS w' (s + 1) (s + 2) (lvL L y) a' c') ∧ Fr u1.heap.size ((s + 1) :: ob a L.length c) u1 w' := by
  refine (rleave_any y u ((r.keep f (Nat.le_refl _) (by simp) (by simp)).heap e.1) hl hn).mono ?_
  rintro e2 w2 ⟨rfl, k2, f2⟩
  rw [e.1] at f2
  exact ⟨rfl, k2, e.fr f2⟩
theorem act_waits {w wa : World} {s : Nat} {L : List Int} (h : LS w wa s L) (u : World) (e : Sm u wa) :
    Calls Try.prog 15 #[.pointer (some ⟨s, 0, none⟩)] u fun e w' => ∃ v, e = .returned v ∧ Gt wa w' v L := by
  obtain ⟨A, k⟩ := h.sp
  refine (waits_any u (k.heap e.1)).mono ?_
  rintro e2 w2 ⟨v, rfl, g⟩
  have b := g.bel
  have o := g.own
  rw [e.1] at b o
  exact ⟨v, rfl, o, e.from b⟩
theorem act_ints {wa : World} {s : Nat} {L : List Int} {a : Option Addr} {c : Nat} (r : RS wa (s + 1) (s + 2) L a c) (hl : (L.length : Int) ≤ 64) (u1 : World) (v : Value) (g : Gt wa u1 v L) (u : World) (e : Sm u u1) :
    Calls Try.prog 14 #[v, .slice a L.length c] u fun e w' => e = .returned (.bool true) ∧ ∃ n, w' = u.drewN n := by
  have r1 : Row u1 v L := row_of_owns g.own
  have r2 : Row u1 (.slice a L.length c) L := (r.keep (Fr.of_below g.bel) (Nat.le_refl _) (by simp) (by simp)).row
  have fu : Fr u1.heap.size [] u1 u := ⟨e.2.1, e.2.2.1, e.2.2.2, by rw [e.1]; exact Nat.le_refl _, fun k _ _ => by rw [e.1]⟩
  exact ints_any L v _ u (by omega) (r1.keep fu (Nat.le_refl _)) (r2.keep fu (Nat.le_refl _))
end Go.Proofs.Ytaomcakgeiiclaa
