/- A queue as it lies in memory; what slices.Index and fifo's at, runs and ahead answer, for every queue. -/
import Derived.Test.YtofdhljgchefgaaDoorRows
import Derived.Test.YtofdhljgchefgaaDoorFw
import Derived.Test.YtofdhljgchefgaaDoorFm
import Derived.Test.YtofdhljgchefgaaDoorFx
import Derived.WalkKit
import Derived.ProofKit
import Derived.OpenShut
import Derived.BigQuiet
namespace Go.Proofs.YtofdhljgchefgaaDoor
open Go.ChangeShapes Go.WideShapes Go.ChangeAt Go.RowKit
open Fm

/-- The queue at block b: its ring at block g of m, its first one at f; the ring holds r, of which L stands in the queue. -/
structure Q (w : World) (b g m f : Nat) (r L : List Int) : Prop where
  sb : Blk w b [.slice (some ⟨g, 0, none⟩) m m, .int .i64 (f : Int), .int .i64 (L.length : Int)] 82
  sg : Blk w g (r.map (Value.int .i64)) 3
  rg : Rg m f r L

theorem Q.c0 {w : World} {b g m f : Nat} {r L : List Int} (h : Q w b g m f r L) : w.cell? ⟨b, 0, none⟩ = some (.slice (some ⟨g, 0, none⟩) m m) := h.sb.cell 0
theorem Q.c1 {w : World} {b g m f : Nat} {r L : List Int} (h : Q w b g m f r L) : w.cell? ⟨b, 1, none⟩ = some (.int .i64 (f : Int)) := h.sb.cell 1
theorem Q.c2 {w : World} {b g m f : Nat} {r L : List Int} (h : Q w b g m f r L) : w.cell? ⟨b, 2, none⟩ = some (.int .i64 (L.length : Int)) := h.sb.cell 2
theorem Q.ne {w : World} {b g m f : Nat} {r L : List Int} (h : Q w b g m f r L) : b ≠ g := h.sb.ne h.sg (by decide)
theorem Q.drewN {w : World} {b g m f : Nat} {r L : List Int} (h : Q w b g m f r L) (n : Nat) : Q (w.drewN n) b g m f r L := ⟨h.sb, h.sg, h.rg⟩
theorem Q.keep {B : Nat} {S : List Nat} {w w' : World} {b g m f : Nat} {r L : List Int} (h : Q w b g m f r L) (k : Fr B S w w') (hb : b < B ∧ g < B) (hs : b ∉ S ∧ g ∉ S) : Q w' b g m f r L :=
  ⟨h.sb.keep k hb.1 hs.1, h.sg.keep k hb.2 hs.2, h.rg⟩

set_option maxHeartbeats 400000 in
theorem at_raw {b g m f : Nat} (k : Nat) (w : World) (c0 : w.cell? ⟨b, 0, none⟩ = some (.slice (some ⟨g, 0, none⟩) m m)) (c1 : w.cell? ⟨b, 1, none⟩ = some (.int .i64 (f : Int)))
    (h1 : (m : Int) ≤ 1024) (h2 : (f : Int) < m) (hk : (k : Int) ≤ m) :
    Calls Tryd.prog 65 #[.pointer (some ⟨b, 0, none⟩), .int .i64 (k : Int)] w fun e w' => e = .returned (.int .i64 (pl m f k : Nat)) ∧ w' = w := by
  by_cases c : (f : Int) + k < m
  · have e : ((pl m f k : Nat) : Int) = (f : Int) + k := by unfold pl; rw [if_pos (by omega)]; omega
    rw [e]
    clear e
    go_enter Tryd.func65, Tryd.ntmps65
    go_wp2
    go_ret
    exact ⟨rfl, rfl⟩
  · have e : ((pl m f k : Nat) : Int) = (f : Int) + k - m := by unfold pl; rw [if_neg (by omega)]; omega
    rw [e]
    clear e
    go_enter Tryd.func65, Tryd.ntmps65
    go_wp2
    go_ret
    exact ⟨rfl, rfl⟩

/-- What runs answers: two rows that are the queue's list, end to end. -/
def Two (w : World) (L : List Int) (v : Value) : Prop := ∃ v1 v2 A B, v = .tuple #[v1, v2] ∧ Row w v1 A ∧ Row w v2 B ∧ A ++ B = L ∧ ∃ a1 c1 a2 c2, v1 = .slice a1 A.length c1 ∧ v2 = .slice a2 B.length c2

set_option maxHeartbeats 400000 in
theorem runs_any {b g m f : Nat} {r L : List Int} (w : World) (h : Q w b g m f r L) :
    Calls Tryd.prog 61 #[.pointer (some ⟨b, 0, none⟩)] w fun e w' => ∃ v, e = .returned v ∧ Two w L v ∧ ∃ n, w' = w.drewN n := by
  have c0 := h.c0
  have c1 := h.c1
  have c2 := h.c2
  have h1 : (m : Int) ≤ 1024 := by have := h.rg.m2; omega
  have h2 : (f : Int) < m := by have := h.rg.hf; omega
  have h3 : (L.length : Int) ≤ m := by have := h.rg.hc; omega
  have hl := h.rg.len
  by_cases c : (f : Int) + L.length ≤ m
  · have T : Hid (Two w L (.tuple #[.slice (some ⟨g, f, none⟩) (f + L.length - f) (m - f), .slice none 0 0])) := by
      have R1 := row_of_part h.sg f L.length (m - f) (by omega)
      rw [rg_one h.rg (by omega)] at R1
      rw [show f + L.length - f = L.length by omega]
      exact ⟨_, _, L, [], rfl, R1, Or.inl ⟨rfl, none, 0, rfl⟩, by simp, _, _, _, _, rfl, rfl⟩
    clear h hl
    generalize L.length = l at *
    go_enter Tryd.func61, Tryd.ntmps61
    go_wp2
    go_quiet (fail)
    go_wp2
    go_quiet (fail)
    go_wp2
    go_ret2
    exact ⟨_, rfl, T.out, _, World.drewN_drewN ..⟩
  · have T : Hid (Two w L (.tuple #[.slice (some ⟨g, f, none⟩) (m - f) (m - f), .slice (some ⟨g, 0, none⟩) (f + L.length - m) m])) := by
      have R1 := row_of_part h.sg f (m - f) (m - f) (by omega)
      have R2 := row_of_part h.sg 0 (f + L.length - m) m (by omega)
      have e := rg_two h.rg (by omega)
      have l1 : ((r.drop f).take (m - f)).length = m - f := by simp [hl]
      have l2 : ((r.drop 0).take (f + L.length - m)).length = f + L.length - m := by simp [hl]; omega
      exact ⟨_, _, _, _, rfl, R1, R2, e, some ⟨g, f, none⟩, m - f, some ⟨g, 0, none⟩, m, by rw [l1], by rw [l2]⟩
    clear h hl
    generalize L.length = l at *
    go_enter Tryd.func61, Tryd.ntmps61
    go_wp2
    go_quiet (fail)
    go_wp2
    go_quiet (fail)
    go_wp2
    go_ret2
    exact ⟨_, rfl, T.out, _, World.drewN_drewN ..⟩

theorem ix_ge (L : List Int) (n : Int) (h : n ∈ L) : (0 : Int) ≤ ix L n := by
  obtain ⟨k, e, _⟩ := ix_pos L n h
  omega

theorem ix_lt (L : List Int) (n : Int) : ix L n < (L.length : Int) ∧ -1 ≤ ix L n := by
  by_cases h : n ∈ L
  · obtain ⟨k, e, hk, _⟩ := ix_pos L n h
    omega
  · rw [ix_neg L n h]
    omega

set_option maxHeartbeats 400000 in
theorem ahead_any {b g m f : Nat} {r L : List Int} (n : Int) (w : World) (h : Q w b g m f r L) :
    Calls Tryd.prog 64 #[.pointer (some ⟨b, 0, none⟩), .int .i64 n] w fun e w' => e = .returned (.int .i64 (ix L n)) ∧ ∃ k, w' = w.drewN k := by
  have C : Hid (∀ _ : Unit, _) := fun _ => runs_any w h
  have hL : (L.length : Int) ≤ 1024 := by have := h.rg.hc; have := h.rg.m2; omega
  obtain ⟨X, hX⟩ : ∃ X, ix L n = X := ⟨_, rfl⟩
  have HX : Hid (ix L n = X) := hX
  rw [hX]
  have HL : Hid ((L.length : Int) ≤ 1024) := hL
  clear h hX hL
  go_enter Tryd.func64, Tryd.ntmps64
  go_wp2_with fail
  refine (C.out ()).mono ?_
  rintro e w' ⟨v, rfl, ⟨v1, v2, A, B, rfl, R1, R2, hAB, a1, c1, a2, c2, rfl, rfl⟩, q, rfl⟩
  have HAB : Hid (A ++ B = L) := hAB
  have hl : (A.length : Int) + B.length ≤ 1024 := by have := HL.out; rw [← hAB, List.length_append] at this; omega
  have CA : Hid (∀ _ : Unit, _) := fun _ => index_any A _ n (w.drewN q) (by omega) R1
  have CB : Hid (∀ _ : Unit, _) := fun _ => index_any B _ n (w.drewN q) (by omega) R2
  clear R1 R2 hAB
  by_cases hA : n ∈ A
  · have e : X = ix A n := by rw [← HX.out, ← HAB.out]; exact ix_app_left A B n hA
    have g1 := ix_ge A n hA
    rw [← e] at CA g1
    clear hA CB e
    go_wp2_with fail
    refine (CA.out ()).mono ?_
    rintro e w' ⟨rfl, rfl⟩
    go_wp2
    go_ret
    exact ⟨rfl, _, rfl⟩
  · have ea := ix_neg A n hA
    rw [ea] at CA
    by_cases hB : n ∈ B
    · have e : X = A.length + ix B n := by rw [← HX.out, ← HAB.out]; exact ix_app_right A B n hA hB
      have g1 := ix_ge B n hB
      have g2 := (ix_lt B n).1
      have HE : Hid ((A.length : Int) + ix B n = X) := e.symm
      clear hA hB ea e
      generalize ix B n = x at *
      generalize A.length = la at *
      generalize B.length = lb at *
      go_wp2_with fail
      refine (CA.out ()).mono ?_
      rintro e w' ⟨rfl, rfl⟩
      go_wp2_with fail
      refine (CB.out ()).mono ?_
      rintro e w' ⟨rfl, rfl⟩
      go_wp2
      go_ret
      exact ⟨congrArg (fun z => Ending.returned (Value.int .i64 z)) HE.out, _, rfl⟩
    · have e : X = -1 := by
        rw [← HX.out, ← HAB.out]
        exact ix_neg _ _ (by rw [List.mem_append]; exact fun h => h.elim hA hB)
      have eb := ix_neg B n hB
      rw [eb] at CB
      subst e
      clear hA hB ea eb
      generalize A.length = la at *
      generalize B.length = lb at *
      go_wp2_with fail
      refine (CA.out ()).mono ?_
      rintro e w' ⟨rfl, rfl⟩
      go_wp2_with fail
      refine (CB.out ()).mono ?_
      rintro e w' ⟨rfl, rfl⟩
      go_wp2
      go_ret
      exact ⟨rfl, _, rfl⟩
end Go.Proofs.YtofdhljgchefgaaDoor
