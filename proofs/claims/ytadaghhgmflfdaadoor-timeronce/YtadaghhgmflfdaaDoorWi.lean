/- A wheel with its books; what New, Now, When, Len answer, and where a thing stands. -/
import Derived.Test.YtadaghhgmflfdaaDoorRows
import Derived.Test.YtadaghhgmflfdaaDoorWh
import Derived.WalkKit
import Derived.ProofKit
import Derived.OpenShut
import Derived.BigQuiet
namespace Go.Proofs.YtadaghhgmflfdaaDoor
open Go.ChangeShapes Go.WideShapes Go.ChangeAt Go.RowKit
open Wm

/-- A wheel of the tick now that has the things L. -/
structure WH (w : World) (s : Nat) (now : Int) (mp : Option Nat) (V : List Value) (L : List It) : Prop where
  wr : WR w s now mp V (rl (rm now) L)
  mq : (mp = none ∧ L = []) ∨ ∃ b, mp = some b ∧ MQ 2 w b L.length (wn L)
  srt : Srt L
  uni : Uni L
  tks : Tks L
  now : isT now
  ids : ∀ x ∈ L, (Lit.int .i64 x.2).wf = true

/-- The wheel's blocks. -/
def fp (s : Nat) (mp : Option Nat) (V : List Value) : List Nat := s :: (mp.toList ++ bl V)
theorem mem_fp {s : Nat} {mp : Option Nat} {V : List Value} {g : Nat} : g ∈ fp s mp V ↔ g = s ∨ mp = some g ∨ g ∈ bl V := by
  unfold fp
  cases mp with
  | none => simp
  | some b => simp [eq_comm]
/-- .. told by its blocks alone. -/
def WW (w : World) (s : Nat) (now : Int) (L : List It) (F : List Nat) : Prop := ∃ mp V, WH w s now mp V L ∧ F = fp s mp V
/-- A change within blocks F; the blocks are F' then. -/
structure Mv (w w' : World) (F F' : List Nat) : Prop where
  fr : Fr w.heap.size F w w'
  sub : ∀ g ∈ F', g ∈ F ∨ w.heap.size ≤ g
theorem Mv.refl (w : World) (F : List Nat) : Mv w w F F := ⟨Fr.refl _ _ _, fun _ h => Or.inl h⟩
theorem Mv.trans {a b c : World} {F G H : List Nat} (h : Mv a b F G) (k : Mv b c G H) : Mv a c F H := by
  have hs := h.fr.size
  refine ⟨⟨k.fr.os.trans h.fr.os, k.fr.tape.trans h.fr.tape, k.fr.output.trans h.fr.output, Nat.le_trans hs k.fr.size, fun i hi hn => ?_⟩, fun g hg => ?_⟩
  · rw [k.fr.block i (by omega) (fun hm => by rcases h.sub i hm with q | q; exact hn q; omega)]
    exact h.fr.block i hi hn
  · rcases k.sub g hg with q | q
    · exact h.sub g q
    · exact Or.inr (by omega)
theorem Mv.below {w w' : World} (f : Below w.heap.size w w') (F : List Nat) : Mv w w' F F := ⟨(Fr.of_below f).mono (Nat.le_refl _) (by simp), fun _ h => Or.inl h⟩

theorem MQ.nbl {te : TypeId} {w : World} {s b m : Nat} {now : Int} {mp : Option Nat} {V : List Value} {R : Nat → List It} {f : Int → Option Int} (h : MQ te w b m f) (k : WR w s now mp V R) : b ∉ bl V := fun hm => by
  obtain ⟨r, hr, hg⟩ := bl_mem hm
  rcases (k.own r (by have := k.vl; omega)).cases with ⟨e, _⟩ | ⟨g, cap, cur, e, hb, _⟩
  · rw [e] at hg
    simp [ob, Value.ownBlock] at hg
  · rw [e, ob_some] at hg
    simp at hg
    subst hg
    exact h.blk hb rfl
theorem WH.map_keep {B : Nat} {S : List Nat} {w w' : World} {mp : Option Nat} {L : List It} (h : (mp = none ∧ L = []) ∨ ∃ b, mp = some b ∧ MQ 2 w b L.length (wn L)) (f : Fr B S w w') (hB : w.heap.size ≤ B) (hS : ∀ b, mp = some b → b ∉ S) : (mp = none ∧ L = []) ∨ ∃ b, mp = some b ∧ MQ 2 w' b L.length (wn L) := by
  rcases h with h | ⟨b, e, m⟩
  · exact Or.inl h
  · exact Or.inr ⟨b, e, m.keep f (Nat.lt_of_lt_of_le m.lt hB) (hS b e)⟩
theorem WH.keep {B : Nat} {S : List Nat} {w w' : World} {s : Nat} {now : Int} {mp : Option Nat} {V : List Value} {L : List It} (h : WH w s now mp V L) (f : Fr B S w w') (hB : w.heap.size ≤ B) (hS : ∀ g ∈ fp s mp V, g ∉ S) : WH w' s now mp V L :=
  ⟨h.wr.keep f hB (hS _ (mem_fp.2 (Or.inl rfl))) fun g hg => hS g (mem_fp.2 (Or.inr (Or.inr hg))), WH.map_keep h.mq f hB fun b e => hS b (mem_fp.2 (Or.inr (Or.inl e))), h.srt, h.uni, h.tks, h.now, h.ids⟩
theorem WH.lt {w : World} {s : Nat} {now : Int} {mp : Option Nat} {V : List Value} {L : List It} (h : WH w s now mp V L) {g : Nat} (hg : g ∈ fp s mp V) : g < w.heap.size := by
  rcases mem_fp.1 hg with e | e | e
  · rw [e]; exact h.wr.st.lt
  · rcases h.mq with ⟨e2, _⟩ | ⟨b, e2, m⟩
    · rw [e2] at e; cases e
    · rw [e2] at e
      cases e
      exact m.lt
  · exact h.wr.lt e
theorem WW.keep {B : Nat} {S : List Nat} {w w' : World} {s : Nat} {now : Int} {L : List It} {F : List Nat} (h : WW w s now L F) (f : Fr B S w w') (hB : w.heap.size ≤ B) (hS : ∀ g ∈ F, g ∉ S) : WW w' s now L F := by
  obtain ⟨mp, V, h, rfl⟩ := h
  exact ⟨mp, V, h.keep f hB hS, rfl⟩
theorem WW.below {w w' : World} {s : Nat} {now : Int} {L : List It} {F : List Nat} (h : WW w s now L F) (f : Below w.heap.size w w') : WW w' s now L F := h.keep (Fr.of_below f) (Nat.le_refl _) (by simp)
theorem WW.lt {w : World} {s : Nat} {now : Int} {L : List It} {F : List Nat} (h : WW w s now L F) {g : Nat} (hg : g ∈ F) : g < w.heap.size := by
  obtain ⟨mp, V, h, rfl⟩ := h
  exact h.lt hg
theorem WW.heap {w w1 : World} {s : Nat} {now : Int} {L : List It} {F : List Nat} (h : WW w s now L F) (e : Sm w1 w) : WW w1 s now L F := h.below (e.below (Below.refl _ _))

theorem zero2 (w : World) : (zeroValue 2).run Tryd.prog w = .ok (.int .i64 0) w := by kernel_rfl

set_option maxRecDepth 100000 in
set_option maxHeartbeats 1000000 in
theorem find_any {w : World} {a : Option Addr} {cap : Nat} {L : List It} (x : It) (ho : Own 95 w (.slice a L.length cap) L) (hs : Srt L) (hl : L.length ≤ 2900) :
    Calls Tryd.prog 63 #[.slice a L.length cap, .agg #[.int .i64 x.2, .int .i64 x.1]] w fun e w' => (∃ b, e = .returned (.tuple #[.int .i64 (at_ L x : Nat), .bool b])) ∧ Below w.heap.size w w' := by
  have C : Hid (∀ _ : Unit, _) := fun _ => bsf_any (w := w.alloc (.cells #[.int .i64 x.2, .int .i64 x.1] 95)) (cap := cap) (a := a) x (ho.keep (Fr.of_below ((Below.refl w.heap.size w).alloc (Nat.le_refl _) (.cells #[.int .i64 x.2, .int .i64 x.1] 95))) fun g hg => ⟨ho.lt hg, by simp⟩) hs hl
  have B0 : Hid (Below w.heap.size w (w.alloc (.cells #[.int .i64 x.2, .int .i64 x.1] 95))) := (Below.refl _ _).alloc (Nat.le_refl _) _
  have BB : Hid (∀ v, Below (w.alloc (.cells #[.int .i64 x.2, .int .i64 x.1] 95)).heap.size (w.alloc (.cells #[.int .i64 x.2, .int .i64 x.1] 95)) v → Below w.heap.size w v) := fun v h => B0.out.trans (h.mono (by simp))
  generalize at_ L x = r at *
  generalize L.length = n at *
  clear ho hs hl
  go_enter Tryd.func63, Tryd.ntmps63
  go_wp2_with fail
  refine (C.out ()).mono ?_
  rintro e w' ⟨⟨b, rfl⟩, h⟩
  have H := BB.out w' h
  have HH : Hid (Below w.heap.size w w') := H
  clear h H
  go_wp2
  go_ret2
  exact ⟨⟨_, rfl⟩, HH.out⟩

/-- A wheel of no rooms filled. -/
theorem wr_new (w : World) (now : Int) : WR (w.alloc (.cells ((.int .i64 now :: .map none :: List.replicate 169 nv) : List Value).toArray 91)) w.heap.size now none (List.replicate 169 nv) (fun _ => []) := by
  refine ⟨Blk.new w _ _, List.length_replicate, fun r hr => ?_, fun r q hr hq hn g hg => ?_⟩
  · rw [List.getD_eq_getElem?_getD, List.getElem?_replicate, if_pos hr]
    exact own_nil _ _
  · rw [List.getD_eq_getElem?_getD, List.getElem?_replicate, if_pos hr] at hg
    simp [nv, ob, Value.ownBlock] at hg
theorem wh_new (w : World) (now : Int) (h : isT now) : WH (w.alloc (.cells ((.int .i64 now :: .map none :: List.replicate 169 nv) : List Value).toArray 91)) w.heap.size now none (List.replicate 169 nv) [] :=
  ⟨wr_new w now, Or.inl ⟨rfl, rfl⟩, List.Pairwise.nil, List.Pairwise.nil, fun x hx => (by cases hx), h, fun x hx => (by cases hx)⟩

theorem zero_wheel : ∃ Z : Array Value, Hid (∀ now : Int, Z.setIfInBounds 0 (.int .i64 now) = ((.int .i64 now :: .map none :: List.replicate 169 nv) : List Value).toArray) ∧ (¬ Z = #[]) ∧ ∀ w, (zeroValue 91).run Tryd.prog w = .ok (.agg Z) w :=
  ⟨((.int .i64 0 :: .map none :: List.replicate 169 nv) : List Value).toArray, fun now => by simp, by simp, fun w => by kernel_rfl⟩
set_option maxRecDepth 100000 in
set_option maxHeartbeats 2000000 in
theorem wnew_any (now : Int) (w : World) (hn : isT now) :
    Calls Tryd.prog 30 #[.int .i64 now] w fun e w' => e = .returned (.tuple #[.pointer (some ⟨w.heap.size, 0, none⟩), .int .i64 0]) ∧ WW w' w.heap.size now [] [w.heap.size] ∧ Below w.heap.size w w' := by
  have C : Hid (∀ w, _) := fun w => can_any now w
  rw [decide_eq_true hn] at C
  obtain ⟨Z, hZ, hne, hz⟩ := zero_wheel
  have F : Hid (WW (w.alloc (.cells (Z.setIfInBounds 0 (.int .i64 now)) 91)) w.heap.size now [] [w.heap.size] ∧ Below w.heap.size w (w.alloc (.cells (Z.setIfInBounds 0 (.int .i64 now)) 91))) := by
    rw [hZ.out]
    exact ⟨⟨_, _, wh_new w now hn, by kernel_rfl⟩, (Below.refl _ _).alloc (Nat.le_refl _) _⟩
  clear hn hZ
  go_enter Tryd.func30, Tryd.ntmps30
  go_wp2_with fail
  refine (C.out _).mono ?_
  rintro e w' ⟨rfl, rfl⟩
  go_wp2
  go_ret2
  exact ⟨rfl, F.out⟩
theorem wnew_no (now : Int) (w : World) (hn : ¬ isT now) :
    Calls Tryd.prog 30 #[.int .i64 now] w fun e w' => e = .returned (.tuple #[.pointer none, .int .i64 2]) ∧ w' = w := by
  have C : Hid (∀ w, _) := fun w => can_any now w
  rw [decide_eq_false hn] at C
  clear hn
  go_enter Tryd.func30, Tryd.ntmps30
  go_wp2_with fail
  refine (C.out _).mono ?_
  rintro e w' ⟨rfl, rfl⟩
  go_wp2
  go_ret2
  exact ⟨rfl, rfl⟩
end Go.Proofs.YtadaghhgmflfdaaDoor
