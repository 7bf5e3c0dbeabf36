/- A wheel of the program and the document's, side by side: what an act to one of them leaves of both. -/
import Derived.Test.YtadaghhgmflfdaaRows
import Derived.Test.YtadaghhgmflfdaaWk
import Derived.Test.YtadaghhgmflfdaaWq
import Derived.Test.YtadaghhgmflfdaaYc
import Derived.Test.YtadaghhgmflfdaaYd
import Derived.WalkKit
import Derived.ProofKit
import Derived.OpenShut
import Derived.BigQuiet
namespace Go.Proofs.Ytadaghhgmflfdaa
open Go.ChangeShapes Go.WideShapes Go.ChangeAt Go.RowKit
open Wm

/-- Both, alike. -/
structure PB (w wr : World) (s r : Nat) (now : Int) (L : List It) (k : Nat) : Prop where
  ex : ∃ F G, WW wr s now L F ∧ DD wr r now L G ∧ (∀ g ∈ F, g ∉ G ∧ w.heap.size ≤ g) ∧ (∀ g ∈ G, w.heap.size ≤ g)
  bel : Below w.heap.size w wr
  len : L.length ≤ k
/-- Both, while an act that lies at block b is done to one after the other. -/
structure PX (w wr : World) (s r : Nat) (n1 : Int) (L1 : List It) (n2 : Int) (L2 : List It) (b : Nat) (cs : List Value) (k : Nat) : Prop where
  ex : ∃ F G, WW wr s n1 L1 F ∧ DD wr r n2 L2 G ∧ (∀ g ∈ F, g ∉ G ∧ g ≠ b ∧ w.heap.size ≤ g) ∧ (∀ g ∈ G, g ≠ b ∧ w.heap.size ≤ g)
  bel : Below w.heap.size w wr
  bx : Blk wr b cs 32
  hb : w.heap.size ≤ b
  l1 : L1.length ≤ k
  l2 : L2.length ≤ k

theorem pb_start {w u1 u2 : World} {now : Int} (h1 : WW u1 w.heap.size now [] [w.heap.size]) (b1 : Below w.heap.size w u1) (h2 : DD u2 u1.heap.size now [] [u1.heap.size]) (b2 : Below u1.heap.size u1 u2) : PB w u2 w.heap.size u1.heap.size now [] 0 := by
  have z := h1.lt (g := w.heap.size) (by simp)
  refine ⟨⟨_, _, h1.below b2, h2, fun g hg => ?_, fun g hg => ?_⟩, b1.trans (b2.mono b1.size), Nat.le_refl _⟩
  · simp at hg
    subst hg
    exact ⟨by simp; omega, Nat.le_refl _⟩
  · simp at hg
    omega
theorem px_box {w wr : World} {s r : Nat} {now : Int} {L : List It} {k : Nat} (h : PB w wr s r now L k) (cs : List Value) : PX w (wr.alloc (.cells cs.toArray 32)) s r now L now L wr.heap.size cs k := by
  obtain ⟨F, G, h1, h2, h3, h4⟩ := h.ex
  have b : Below wr.heap.size wr (wr.alloc (.cells cs.toArray 32)) := (Below.refl _ _).alloc (Nat.le_refl _) _
  have z := h.bel.size
  exact ⟨⟨F, G, h1.below b, h2.below b, fun g hg => ⟨(h3 g hg).1, fun e => by have := h1.lt hg; omega, (h3 g hg).2⟩, fun g hg => ⟨fun e => by have := h2.lt hg; omega, h4 g hg⟩⟩, h.bel.trans (b.mono z), Blk.new _ _ _, z, h.len, h.len⟩
theorem px_open {w wr : World} {s r : Nat} {now : Int} {L : List It} {b : Nat} {cs : List Value} {k : Nat} (h : PX w wr s r now L now L b cs k) : PB w wr s r now L k := by
  obtain ⟨F, G, h1, h2, h3, h4⟩ := h.ex
  exact ⟨⟨F, G, h1, h2, fun g hg => ⟨(h3 g hg).1, (h3 g hg).2.2⟩, fun g hg => (h4 g hg).2⟩, h.bel, h.l1⟩
theorem PX.below {w wr w' : World} {s r : Nat} {n1 : Int} {L1 : List It} {n2 : Int} {L2 : List It} {b : Nat} {cs : List Value} {k : Nat} (h : PX w wr s r n1 L1 n2 L2 b cs k) (f : Below wr.heap.size wr w') : PX w w' s r n1 L1 n2 L2 b cs k := by
  obtain ⟨F, G, h1, h2, h3, h4⟩ := h.ex
  exact ⟨⟨F, G, h1.below f, h2.below f, h3, h4⟩, h.bel.trans (f.mono h.bel.size), h.bx.keep (Fr.of_below f) h.bx.lt (by simp), h.hb, h.l1, h.l2⟩
theorem PX.sm {w wr w' : World} {s r : Nat} {n1 : Int} {L1 : List It} {n2 : Int} {L2 : List It} {b : Nat} {cs : List Value} {k : Nat} (h : PX w wr s r n1 L1 n2 L2 b cs k) (f : Sm w' wr) : PX w w' s r n1 L1 n2 L2 b cs k := h.below (f.below (Below.refl _ _))
theorem PB.sm {w wr w' : World} {s r : Nat} {now : Int} {L : List It} {k : Nat} (h : PB w wr s r now L k) (f : Below wr.heap.size wr w') : PB w w' s r now L k := by
  obtain ⟨F, G, h1, h2, h3, h4⟩ := h.ex
  exact ⟨⟨F, G, h1.below f, h2.below f, h3, h4⟩, h.bel.trans (f.mono h.bel.size), h.len⟩

/-- An act to the program's. -/
theorem px_prog {w wr : World} {s r : Nat} {n1 n1' : Int} {L1 L1' : List It} {n2 : Int} {L2 : List It} {b : Nat} {cs : List Value} {k fn : Nat} {args : Array Value} {E : Ending} (h : PX w wr s r n1 L1 n2 L2 b cs k) (hl : L1'.length ≤ k + 1)
    (C : ∀ F, WW wr s n1 L1 F → Calls Try.prog fn args wr fun e w' => e = E ∧ ∃ F', WW w' s n1' L1' F' ∧ Mv wr w' F F') :
    Calls Try.prog fn args wr fun e w' => e = E ∧ PX w w' s r n1' L1' n2 L2 b cs (k + 1) := by
  obtain ⟨F, G, h1, h2, h3, h4⟩ := h.ex
  refine (C F h1).mono ?_
  rintro e w' ⟨rfl, F', h5, m⟩
  have z := h.bel.size
  have zb := h.bx.lt
  refine ⟨rfl, ⟨F', G, h5, h2.keep m.fr (Nat.le_refl _) (fun g hg hm => (h3 g hm).1 hg), fun g hg => ?_, h4⟩, fr_own h.bel m.fr z (fun g hg => (h3 g hg).2.2), h.bx.keep m.fr zb (fun hm => (h3 b hm).2.1 rfl), h.hb, hl, Nat.le_succ_of_le h.l2⟩
  rcases m.sub g hg with q | q
  · exact h3 g q
  · exact ⟨fun hm => by have := h2.lt hm; omega, by omega, by omega⟩
/-- An act to the document's. -/
theorem px_doc {w wr : World} {s r : Nat} {n1 : Int} {L1 : List It} {n2 n2' : Int} {L2 L2' : List It} {b : Nat} {cs : List Value} {k fn : Nat} {args : Array Value} {E : Ending} (h : PX w wr s r n1 L1 n2 L2 b cs k) (hl : L2'.length ≤ k)
    (C : ∀ G, DD wr r n2 L2 G → Calls Try.prog fn args wr fun e w' => e = E ∧ ∃ G', DD w' r n2' L2' G' ∧ Mv wr w' G G') :
    Calls Try.prog fn args wr fun e w' => e = E ∧ PX w w' s r n1 L1 n2' L2' b cs k := by
  obtain ⟨F, G, h1, h2, h3, h4⟩ := h.ex
  refine (C G h2).mono ?_
  rintro e w' ⟨rfl, G', h5, m⟩
  have z := h.bel.size
  have zb := h.bx.lt
  refine ⟨rfl, ⟨F, G', h1.keep m.fr (Nat.le_refl _) (fun g hg hm => (h3 g hg).1 hm), h5, fun g hg => ⟨fun hm => ?_, (h3 g hg).2⟩, fun g hg => ?_⟩, fr_own h.bel m.fr z (fun g hg => (h4 g hg).2), h.bx.keep m.fr zb (fun hm => (h4 b hm).1 rfl), h.hb, h.l1, hl⟩
  · rcases m.sub g hm with q | q
    · exact (h3 g hg).1 q
    · have := h1.lt hg
      omega
  · rcases m.sub g hg with q | q
    · exact h4 g q
    · exact ⟨by omega, by omega⟩
theorem PX.ww {w wr : World} {s r : Nat} {n1 : Int} {L1 : List It} {n2 : Int} {L2 : List It} {b : Nat} {cs : List Value} {k : Nat} (h : PX w wr s r n1 L1 n2 L2 b cs k) : ∃ F, WW wr s n1 L1 F := by
  obtain ⟨F, G, h1, h2, h3, h4⟩ := h.ex
  exact ⟨F, h1⟩
theorem PX.dd {w wr : World} {s r : Nat} {n1 : Int} {L1 : List It} {n2 : Int} {L2 : List It} {b : Nat} {cs : List Value} {k : Nat} (h : PX w wr s r n1 L1 n2 L2 b cs k) : ∃ G, DD wr r n2 L2 G := by
  obtain ⟨F, G, h1, h2, h3, h4⟩ := h.ex
  exact ⟨G, h2⟩

theorem len_ad {w : World} {s : Nat} {now : Int} {L : List It} {F : List Nat} (h : WW w s now L F) (id d : Int) : (adL L id d).length ≤ L.length + 1 := by
  obtain ⟨mp, V, h, rfl⟩ := h
  unfold adL
  by_cases hd : isT d
  · rw [if_pos hd]
    cases e : wn L id with
    | none => rw [Option.isSome_none, if_neg (by decide), ins_len h.srt (fun hm => wn_none.1 e _ hm rfl)]; exact Nat.le_refl _
    | some t => rw [Option.isSome_some, if_pos rfl]; omega
  · rw [if_neg hd]; omega
theorem len_rid (L : List It) (id : Int) : (rid id L).length ≤ L.length := List.length_filter_le _ _

/-- A tick some ticks on. -/
def onN (now n : Int) : Int := if n < 0 ∨ 1152921504606846976 - now < n then now else now + n
theorem on_any (now n : Int) (w : World) (hn : isT now) : Calls Try.prog 14 #[.int .i64 now, .int .i64 n] w fun e w' => e = .returned (.int .i64 (onN now n)) ∧ w' = w := by
  unfold onN
  obtain ⟨h1, h2⟩ := hn
  have h3 : IntKind.i64.wrap (1152921504606846976 - now) = 1152921504606846976 - now := by rw [IntKind.wrap_i64]; omega
  by_cases c1 : n < 0
  · rw [if_pos (Or.inl c1)]
    go_enter Try.func14, Try.ntmps14
    go_wp2
    go_ret
    exact ⟨rfl, rfl⟩
  · by_cases c2 : 1152921504606846976 - now < n
    · rw [if_pos (Or.inr c2)]
      go_enter Try.func14, Try.ntmps14
      go_wp2
      go_ret
      exact ⟨rfl, rfl⟩
    · rw [if_neg (by omega)]
      have h4 : IntKind.i64.wrap (now + n) = now + n := by rw [IntKind.wrap_i64]; omega
      go_enter Try.func14, Try.ntmps14
      go_wp2
      go_ret
      exact ⟨rfl, rfl⟩

theorem isT_go {now : Int} (h : isT now) (n : Int) : isT (goN now n) := by
  unfold goN
  obtain ⟨h1, h2⟩ := h
  split
  · exact ⟨h1, h2⟩
  · exact ⟨by omega, by omega⟩
theorem isT_on {now : Int} (h : isT now) (n : Int) : isT (onN now n) := by
  unfold onN
  obtain ⟨h1, h2⟩ := h
  split
  · exact ⟨h1, h2⟩
  · exact ⟨by omega, by omega⟩

theorem gt_sm {w1 w w' : World} {v : Value} {G : List Int} (h : Gt w1 w' v G) (e : Sm w1 w) : Gt w w' v G :=
  ⟨by have := h.own; rw [e.1] at this; exact this, by have := e.from h.bel; rwa [e.1] at this⟩
/-- Two lists that were gathered alike are told to be alike. -/
theorem ints_two {v0 v1 v2 w1 : World} {x y : Value} {G : List Int} (hl : G.length ≤ 1000) (g1 : Gt v0 v1 x G) (g2 : Gt v1 v2 y G) (e : Sm w1 v2) : Calls Try.prog 22 #[x, y] w1 fun e w' => e = .returned (.bool true) ∧ Sm w' v2 := by
  have R1 : Row v2 x G := (row_of_owns g1.own).keep (B := v1.heap.size) (Fr.of_below g2.bel) (Nat.le_refl _)
  have R2 : Row v2 y G := row_of_owns g2.own
  have k : Fr v2.heap.size [] v2 w1 := ⟨e.2.1, e.2.2.1, e.2.2.2, by rw [e.1]; exact Nat.le_refl _, fun i _ _ => by rw [e.1]⟩
  refine (ints_any G x y w1 (by omega) (R1.keep k (Nat.le_refl _)) (R2.keep k (Nat.le_refl _))).mono ?_
  rintro e1 w' ⟨rfl, n, rfl⟩
  exact ⟨rfl, e⟩
end Go.Proofs.Ytadaghhgmflfdaa
