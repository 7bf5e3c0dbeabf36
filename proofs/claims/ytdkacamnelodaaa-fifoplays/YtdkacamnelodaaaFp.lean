/- What the loop of FifoPlays keeps: the queue and the document's queue hold the same list; and what the calls behind each act answer. -/
import Derived.Test.YtdkacamnelodaaaRows
import Derived.Test.YtdkacamnelodaaaFk
import Derived.Test.YtdkacamnelodaaaFo
import Derived.WalkKit
import Derived.ProofKit
import Derived.OpenShut
namespace Go.Proofs.Ytdkacamnelodaaa
open Go.ChangeShapes Go.WideShapes Go.ChangeAt Go.RowKit
open Fm

/-- One world but for draws. -/
def Sm (w1 w : World) : Prop := w1.heap = w.heap ∧ w1.os = w.os ∧ w1.tape = w.tape ∧ w1.output = w.output

theorem Sm.below {B : Nat} {w w1 w2 : World} (h : Sm w2 w1) (b : Below B w w1) : Below B w w2 := by
  obtain ⟨e1, e2, e3, e4⟩ := h
  exact ⟨e2.trans b.os, e3.trans b.tape, e4.trans b.output, by rw [e1]; exact b.size, fun k hk => by rw [e1]; exact b.block k hk⟩
theorem Sm.from {B : Nat} {w w1 w2 : World} (h : Sm w1 w) (b : Below B w1 w2) : Below B w w2 := by
  obtain ⟨e1, e2, e3, e4⟩ := h
  exact ⟨b.os.trans e2, b.tape.trans e3, b.output.trans e4, by rw [← e1]; exact b.size, fun k hk => by rw [← e1]; exact b.block k hk⟩

theorem R.heap {w w1 : World} {b base m : Nat} {L : List Int} {a : Option Addr} {cap : Nat} (h : R w b base m L a cap) (e : w1.heap = w.heap) : R w1 b base m L a cap := by
  refine ⟨h.sb.heap e, ?_, h.lt, by rw [e]; exact h.le⟩
  obtain ⟨h1, h2⟩ := h.own
  refine ⟨h1, ?_⟩
  rw [e]
  exact h2

/-- Both queues hold L. -/
structure PI (w wr : World) (s br base m : Nat) (L : List Int) : Prop where
  q : ∃ f r, Q wr (s + 1) s m f r L
  r : ∃ a c, R wr br base m L a c
  bel : Below s w wr
  nd : L.Nodup

theorem PI.sm {w w1 w2 : World} {s br base m : Nat} {L : List Int} (h : PI w w1 s br base m L) (e : Sm w2 w1) : PI w w2 s br base m L := by
  obtain ⟨f, r, q⟩ := h.q
  obtain ⟨a, c, k⟩ := h.r
  exact ⟨⟨f, r, q.heap e.1⟩, ⟨a, c, k.heap e.1⟩, e.below h.bel, h.nd⟩

/-- Behind new blocks alone. -/
theorem PI.new {w w1 w2 : World} {s br base m : Nat} {L : List Int} (h : PI w w1 s br base m L) (b : Below w1.heap.size w1 w2) (hs : s ≤ w1.heap.size) : PI w w2 s br base m L := by
  obtain ⟨f, r, q⟩ := h.q
  obtain ⟨a, c, k⟩ := h.r
  exact ⟨⟨f, r, q.keep (Fr.of_below b) ⟨q.sb.lt, q.sg.lt⟩ ⟨by simp, by simp⟩⟩, ⟨a, c, k.keep (Fr.of_below b) (Nat.le_refl _) (by simp) (by simp)⟩, h.bel.trans (b.mono hs), h.nd⟩

/-- An act on both. -/
theorem PI.act {w w1 w2 w3 : World} {s br base m : Nat} {L L2 : List Int} (h : PI w w1 s br base m L) (hb : s + 1 < br ∧ br < base ∧ s ≤ w1.heap.size)
    {f2 : Nat} {r2 : List Int} {a3 : Option Addr} {c3 : Nat} (q2 : Q w2 (s + 1) s m f2 r2 L2) (f12 : Fr w1.heap.size [s + 1, s] w1 w2)
    (r3 : R w3 br base m L2 a3 c3) (f23 : Fr base [br] w2 w3) (hn : L2.Nodup) : PI w w3 s br base m L2 := by
  refine ⟨⟨f2, r2, q2.keep f23 ⟨by omega, by omega⟩ ⟨by simp; omega, by simp; omega⟩⟩, ⟨a3, c3, r3⟩, ?_, hn⟩
  refine (h.bel.trans ((f12.less hb.2.2).below (by simp))).trans ((f23.less (by omega)).below (by simp; omega))

/-- The document's queue behind a call of the other one. -/
theorem PI.other {w1 w2 : World} {s br base m : Nat} {L : List Int} {a : Option Addr} {c : Nat} (k : R w1 br base m L a c) (hb : s + 1 < br) (f12 : Fr w1.heap.size [s + 1, s] w1 w2) : R w2 br base m L a c :=
  k.keep f12 (Nat.le_refl _) (by have := k.lt; simp; omega) (by simp; omega)

theorem tail_facts {w wt : World} {s br base m : Nat} {L : List Int} (n : Int) (h : PI w wt s br base m L) (hs : s ≤ wt.heap.size) (hl : (L.length : Int) ≤ 1024) {a : Option Addr} {c : Nat} (k : R wt br base m L a c) :
    ∀ (w3 : World) (a3 : Option Addr) (c3 : Nat), w3.ownsRow wt.heap.size 3 1 (.slice a3 L.length c3) L.length (L.map (Value.int .i64)) → Below wt.heap.size wt w3 →
      w3.cell? ⟨br, 1, none⟩ = some (.slice a L.length c) ∧
      Hid (∀ w1 : World, w1.heap = w3.heap → Calls Try.prog 22 #[.slice a3 L.length c3, .slice a L.length c] w1 fun e w' => e = .returned (.bool true) ∧ ∃ n, w' = w1.drewN n) ∧
      Hid (∀ w1 : World, w1.heap = w3.heap → Calls Try.prog 24 #[.pointer (some ⟨s + 1, 0, none⟩), .int .i64 n] w1 fun e w' => e = .returned (.bool (decide (n ∈ L))) ∧ ∃ n, w' = w1.drewN n) ∧
      Hid (∀ w1 : World, w1.heap = w3.heap → Calls Try.prog 25 #[.slice a L.length c, .int .i64 n] w1 fun e w' => e = .returned (.bool (decide (n ∈ L))) ∧ w' = w1) ∧
      Hid (∀ w5 : World, Sm w5 w3 → PI w w5 s br base m L) := by
  intro w3 a3 c3 own b3
  have k3 := k.keep (Fr.of_below b3) (Nat.le_refl _) (by simp) (by simp)
  have p3 := h.new b3 hs
  obtain ⟨f, r, q3⟩ := p3.q
  have row3 := row_of_owns own
  have rw {v : Value} {w1 : World} (e : w1.heap = w3.heap) (hr : Row w3 v L) : Row w1 v L := by
    rcases hr with h | ⟨b, off, cap, hv, hlt, hc⟩
    · exact Or.inl h
    · exact Or.inr ⟨b, off, cap, hv, by rw [e]; exact hlt, fun i hi => by rw [← hc i hi]; unfold World.cell?; rw [e]⟩
  exact ⟨k3.c1, fun w1 e => ints_any L _ _ w1 (by omega) (rw e row3) (rw e k3.row), fun w1 e => has_any n w1 (q3.heap e), fun w1 e => rhas_any L _ n w1 (by omega) (rw e k3.row), fun w5 e => p3.sm e⟩

theorem list_sm {w wt : World} {s br base m : Nat} {L : List Int} (h : PI w wt s br base m L) (w1 : World) (e : Sm w1 wt) :
    Calls Try.prog 23 #[.pointer (some ⟨s + 1, 0, none⟩)] w1 fun e w' => ∃ a3 c3, e = .returned (.slice a3 L.length c3) ∧ w'.ownsRow wt.heap.size 3 1 (.slice a3 L.length c3) L.length (L.map (Value.int .i64)) ∧ Below wt.heap.size wt w' := by
  obtain ⟨f, r, q⟩ := h.q
  refine (list_any w1 (q.heap e.1)).mono ?_
  rintro e2 w2 ⟨v, rfl, own, b⟩
  obtain ⟨a3, c3, rfl⟩ := own_shape own
  rw [e.1] at own b
  exact ⟨a3, c3, rfl, own, e.from b⟩

theorem Sm.fr {B : Nat} {S : List Nat} {w w1 w2 : World} (h : Sm w1 w) (b : Fr B S w1 w2) : Fr B S w w2 := by
  obtain ⟨e1, e2, e3, e4⟩ := h
  exact ⟨b.os.trans e2, b.tape.trans e3, b.output.trans e4, by rw [← e1]; exact b.size, fun k hk hs => by rw [← e1]; exact b.block k hk hs⟩

theorem act_push {w wr : World} {s br base m : Nat} {L : List Int} (p : PI w wr s br base m L) (y : Int) (w1 : World) (h : Sm w1 wr) :
    Calls Try.prog 10 #[.pointer (some ⟨s + 1, 0, none⟩), .int .i64 y] w1 fun e w' => e = .returned (.int .i64 (pE m L y)) ∧ (∃ f r, Q w' (s + 1) s m f r (pL m L y)) ∧ Fr wr.heap.size [s + 1, s] wr w' := by
  obtain ⟨f, r, q⟩ := p.q
  refine (push_any y w1 (q.heap h.1)).mono ?_
  rintro e w2 ⟨rfl, ⟨r2, q2⟩, f2⟩
  rw [h.1] at f2
  exact ⟨rfl, ⟨_, _, q2⟩, h.fr f2⟩

theorem act_rpush {w wr : World} {s br base m : Nat} {L : List Int} (p : PI w wr s br base m L) (hb : s + 1 < br) (hm : (m : Int) ≤ 1024) (hl : (L.length : Int) ≤ m) (y : Int) (v1 w1 : World) (f : Fr wr.heap.size [s + 1, s] wr v1) (h : Sm w1 v1) :
    Calls Try.prog 11 #[.pointer (some ⟨br, 0, none⟩), .int .i64 y] w1 fun e w' => e = .returned (.int .i64 (pE m L y)) ∧ (∃ a c, R w' br base m (pL m L y) a c) ∧ Fr base [br] v1 w' := by
  obtain ⟨a, c, k⟩ := p.r
  refine (rpush_any y w1 ((PI.other k hb f).heap h.1) hl hm).mono ?_
  rintro e w2 ⟨rfl, ⟨a2, c2, k2⟩, f2⟩
  exact ⟨rfl, ⟨_, _, k2⟩, h.fr f2⟩

theorem act_drop {w wr : World} {s br base m : Nat} {L : List Int} (p : PI w wr s br base m L) (y : Int) (w1 : World) (h : Sm w1 wr) :
    Calls Try.prog 14 #[.pointer (some ⟨s + 1, 0, none⟩), .int .i64 y] w1 fun e w' => e = .returned (.int .i64 (dE L y)) ∧ (∃ f r, Q w' (s + 1) s m f r (wo L y)) ∧ Fr wr.heap.size [s + 1, s] wr w' := by
  obtain ⟨f, r, q⟩ := p.q
  refine (drop_any y w1 (q.heap h.1) p.nd).mono ?_
  rintro e w2 ⟨rfl, ⟨r2, q2⟩, f2⟩
  rw [h.1] at f2
  exact ⟨rfl, ⟨_, _, q2⟩, h.fr f2⟩

theorem act_rdrop {w wr : World} {s br base m : Nat} {L : List Int} (p : PI w wr s br base m L) (hb : s + 1 < br) (hm : (m : Int) ≤ 1024) (hl : (L.length : Int) ≤ m) (y : Int) (v1 w1 : World) (f : Fr wr.heap.size [s + 1, s] wr v1) (h : Sm w1 v1) :
    Calls Try.prog 15 #[.pointer (some ⟨br, 0, none⟩), .int .i64 y] w1 fun e w' => e = .returned (.int .i64 (dE L y)) ∧ (∃ a c, R w' br base m (wo L y) a c) ∧ Fr base [br] v1 w' := by
  obtain ⟨a, c, k⟩ := p.r
  refine (rdrop_any y w1 ((PI.other k hb f).heap h.1) (by omega)).mono ?_
  rintro e w2 ⟨rfl, ⟨a2, c2, k2⟩, f2⟩
  exact ⟨rfl, ⟨_, _, k2⟩, h.fr f2⟩
end Go.Proofs.Ytdkacamnelodaaa
