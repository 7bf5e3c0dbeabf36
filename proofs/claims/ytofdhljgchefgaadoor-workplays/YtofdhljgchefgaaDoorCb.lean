/- What fifo's New, Front, Push, Pop, and Len answer and leave, for every queue: Fb without Has, Turn and Cap, which this dump lacks. -/
import Derived.Test.YtofdhljgchefgaaDoorRows
import Derived.Test.YtofdhljgchefgaaDoorFa
import Derived.Test.YtofdhljgchefgaaDoorFj
import Derived.WalkKit
import Derived.ProofKit
import Derived.OpenShut
import Derived.BigQuiet
import Derived.Deep.RegionHeld3
import Derived.Deep.OwnRows
namespace Go.Proofs.YtofdhljgchefgaaDoor
open Go.ChangeShapes Go.WideShapes Go.ChangeAt Go.RowKit
open Fm

theorem Q.heap {w w1 : World} {b g m f : Nat} {r L : List Int} (h : Q w b g m f r L) (e : w1.heap = w.heap) : Q w1 b g m f r L :=
  ⟨by unfold Blk; rw [e]; exact h.sb, by unfold Blk; rw [e]; exact h.sg, h.rg⟩

theorem q_push {w : World} {b g m f : Nat} {r L : List Int} (h : Q w b g m f r L) (n : Int) (hc : L.length < m) :
    Q ((w.setCell ⟨g, pl m f L.length, none⟩ (.int .i64 n)).setCell ⟨b, 2, none⟩ (.int .i64 ((L.length : Int) + 1))) b g m f (r.set (pl m f L.length) n) (L ++ [n]) := by
  refine ⟨?_, ?_, rg_push h.rg n hc⟩
  · have := (h.sb.other (p := ⟨g, pl m f L.length, none⟩) h.ne (.int .i64 n)).set 2 (.int .i64 ((L.length : Int) + 1))
    simpa using this
  · have := (h.sg.set (pl m f L.length) (.int .i64 n)).other (p := ⟨b, 2, none⟩) h.ne.symm (.int .i64 ((L.length : Int) + 1))
    rwa [← List.map_set] at this

theorem q_pop {w : World} {b g m f : Nat} {r L : List Int} (h : Q w b g m f r L) (hc : 0 < L.length) (c : Int) (e : c = (L.length : Int) - 1) :
    Q ((w.setCell ⟨b, 1, none⟩ (.int .i64 (pl m f 1 : Nat))).setCell ⟨b, 2, none⟩ (.int .i64 c)) b g m (pl m f 1) r L.tail := by
  refine ⟨?_, ?_, rg_pop h.rg hc⟩
  · have := (h.sb.set 1 (.int .i64 (pl m f 1 : Nat))).set 2 (.int .i64 c)
    have e2 : ((L.tail.length : Nat) : Int) = c := by simp; omega
    rw [e2]
    exact this
  · exact (h.sg.other (p := ⟨b, 1, none⟩) h.ne.symm _).other (p := ⟨b, 2, none⟩) h.ne.symm _

set_option maxHeartbeats 400000 in
theorem new_at (m : Nat) (w : World) (h1 : (1 : Int) ≤ m) (h2 : (m : Int) ≤ 1024) :
    Calls Tryd.prog 39 #[.int .i64 (m : Int)] w fun e w' => e = .returned (.tuple #[.pointer (some ⟨w.heap.size + 1, 0, none⟩), .int .i64 0]) ∧ Q w' (w.heap.size + 1) w.heap.size m 0 (List.replicate m 0) [] ∧ Fr w.heap.size [] w w' ∧ w'.heap.size = w.heap.size + 2 := by
  have hmk := run_make_row' (P := Tryd.prog) 38 3 (.int .i64 0) 8 Tryd.underlying38 Tryd.info3 rfl .i64 .i64 m (by omega) (by omega)
  have F : Hid (∀ o1 o2, Fr w.heap.size [] w ((w.alloc o1).alloc o2)) := fun o1 o2 => ((Fr.refl _ _ _).alloc (Nat.le_refl _) o1).alloc (by simp) o2
  have G : Hid (Rg m 0 (List.replicate m 0) []) := rg_new m (by omega) (by omega)
  go_enter Tryd.func39, Tryd.ntmps39
  go_wp2
  go_ret2
  refine ⟨rfl, ⟨?_, ?_, G.out⟩, F.out _ _, by simp⟩
  · have := Blk.new (w.alloc (Obj.cells (madeCells #[Value.int IntKind.i64 0] m) 3)) [.slice (some ⟨w.heap.size, 0, none⟩) m m, .int .i64 0, .int .i64 0] 82
    simpa using this
  · rw [made_int]
    exact (Blk.new w _ 3).alloc _

theorem new_any (m : Nat) (w : World) (h1 : (1 : Int) ≤ m) (h2 : (m : Int) ≤ 1024) :
    Calls Tryd.prog 39 #[.int .i64 (m : Int)] w fun e w' => e = .returned (.tuple #[.pointer (some ⟨w.heap.size + 1, 0, none⟩), .int .i64 0]) ∧ Q w' (w.heap.size + 1) w.heap.size m 0 (List.replicate m 0) [] ∧ Fr w.heap.size [] w w' :=
  (new_at m w h1 h2).mono fun _ _ h => ⟨h.1, h.2.1, h.2.2.1⟩

theorem new_bad (m : Int) (w : World) (h : m < 1 ∨ 1024 < m) :
    Calls Tryd.prog 39 #[.int .i64 m] w fun e w' => e = .returned (.tuple #[.pointer none, .int .i64 2]) ∧ w' = w := by
  rcases h with h | h
  · go_enter Tryd.func39, Tryd.ntmps39
    go_wp2
    go_ret2
    exact ⟨rfl, rfl⟩
  · have h2 : (1 : Int) ≤ m := by omega
    go_enter Tryd.func39, Tryd.ntmps39
    go_wp2
    go_ret2
    exact ⟨rfl, rfl⟩

set_option maxHeartbeats 400000 in
theorem front_any {b g m f : Nat} {r L : List Int} (w : World) (h : Q w b g m f r L) :
    Calls Tryd.prog 66 #[.pointer (some ⟨b, 0, none⟩)] w fun e w' => e = .returned (.tuple #[.int .i64 (L.headD 0), .int .i64 (fE L)]) ∧ ∃ k, w' = w.drewN k := by
  have c0 := h.c0
  have c1 := h.c1
  have c2 := h.c2
  have h1 : (m : Int) ≤ 1024 := by have := h.rg.m2; omega
  have h2 : (f : Int) < m := by have := h.rg.hf; omega
  by_cases c : L = []
  · subst c
    rw [show fE [] = 12 from rfl, show List.headD ([] : List Int) 0 = 0 from rfl]
    clear h
    go_enter Tryd.func66, Tryd.ntmps66
    go_wp2
    go_ret2
    exact ⟨rfl, 0, rfl⟩
  · have hl : 0 < L.length := List.length_pos_iff.2 c
    have cg : w.cell? ⟨g, f, none⟩ = some (.int .i64 (L.headD 0)) := by
      have a := h.rg.at' 0 hl
      rw [show pl m f 0 = f from if_pos (by have := h.rg.hf; omega)] at a
      rw [h.sg.cell f, getD_map_int r f (by rw [h.rg.len]; exact h.rg.hf), a]
      cases L <;> simp
    rw [show fE L = 0 from if_neg c]
    have hl2 : (0 : Int) < L.length := by omega
    clear h c hl
    generalize L.headD 0 = x at *
    generalize L.length = l at *
    go_enter Tryd.func66, Tryd.ntmps66
    go_wp2
    go_quiet (fail)
    go_wp2
    go_ret2
    exact ⟨rfl, _, rfl⟩

theorem len_any {b g m f : Nat} {r L : List Int} (w : World) (h : Q w b g m f r L) :
    Calls Tryd.prog 49 #[.pointer (some ⟨b, 0, none⟩)] w fun e w' => e = .returned (.int .i64 (L.length : Int)) ∧ w' = w := by
  have c2 := h.c2
  clear h
  go_enter Tryd.func49, Tryd.ntmps49
  go_wp2
  go_ret
  exact ⟨rfl, rfl⟩

set_option maxHeartbeats 1000000 in
theorem push_any {b g m f : Nat} {r L : List Int} (n : Int) (w : World) (h : Q w b g m f r L) :
    Calls Tryd.prog 51 #[.pointer (some ⟨b, 0, none⟩), .int .i64 n] w fun e w' => e = .returned (.int .i64 (pE m L n)) ∧ (∃ r', Q w' b g m f r' (pL m L n)) ∧ Fr w.heap.size [b, g] w w' := by
  have C : Hid (∀ _ : Unit, _) := fun _ => ahead_any n w h
  have c0 := h.c0
  have c1 := h.c1
  have c2 := h.c2
  have h1 : (m : Int) ≤ 1024 := by have := h.rg.m2; omega
  have h2 : (f : Int) < m := by have := h.rg.hf; omega
  have h3 : (L.length : Int) ≤ m := by have := h.rg.hc; omega
  have HQ : Hid (Q w b g m f r L) := h
  by_cases c : n ∈ L
  · have g1 := ix_ge L n c
    rw [show pE m L n = 6 from if_pos c, show pL m L n = L from if_pos c]
    clear h c c0 c1 c2 h1 h2 h3
    generalize ix L n = x at *
    go_enter Tryd.func51, Tryd.ntmps51
    go_wp2_with fail
    refine (C.out ()).mono ?_
    rintro e w' ⟨rfl, q, rfl⟩
    go_wp2
    go_ret
    exact ⟨rfl, ⟨_, HQ.out.drewN _⟩, (Fr.refl _ _ _).drewN _⟩
  · rw [ix_neg L n c] at C
    by_cases d : m ≤ L.length
    · rw [show pE m L n = 5 by unfold pE; rw [if_neg c, if_pos d], show pL m L n = L by unfold pL; rw [if_neg c, if_pos d]]
      have d2 : (L.length : Int) = m := by omega
      rw [d2] at c2
      clear h c c1 h3 d d2
      go_enter Tryd.func51, Tryd.ntmps51
      go_wp2_with fail
      refine (C.out ()).mono ?_
      rintro e w' ⟨rfl, q, rfl⟩
      go_wp2
      go_quiet (fail)
      go_wp2
      go_ret
      exact ⟨rfl, ⟨_, (HQ.out.drewN _).drewN _⟩, ((Fr.refl _ _ _).drewN _).drewN _⟩
    · rw [show pE m L n = 0 by unfold pE; rw [if_neg c, if_neg d], show pL m L n = L ++ [n] by unfold pL; rw [if_neg c, if_neg d]]
      have d2 : ((L.length : Int) == m) = false := by simp; omega
      have d3 : (L.length : Int) < m := by omega
      have A : Hid (∀ w1 : World, w1.heap = w.heap → _) := fun w1 e => at_raw L.length w1 (h.heap e).c0 (h.heap e).c1 h1 h2 h3
      have QP : Hid (∀ w1 : World, w1.heap = w.heap → _) := fun w1 e => q_push (h.heap e) n (by omega)
      have p1 : ((pl m f L.length : Nat) : Int) < m := by have := pl_lt (m := m) (f := f) (k := L.length) (by omega) (by omega); omega
      have cg : w.cell? ⟨g, pl m f L.length, none⟩ = some (.int .i64 (r.getD (pl m f L.length) 0)) := by
        rw [h.sg.cell, getD_map_int _ _ (by rw [h.rg.len]; omega)]
      have fg : w.frozen? ⟨g, pl m f L.length, none⟩ = false := h.sg.free _
      have fb : w.frozen? ⟨b, 2, none⟩ = false := h.sb.free _
      have ne1 := h.ne
      have ne2 := h.ne.symm
      clear h c d
      generalize L.length = l at *
      generalize pl m f l = p at *
      generalize r.getD p 0 = x at *
      go_enter Tryd.func51, Tryd.ntmps51
      go_wp2_with fail
      refine (C.out ()).mono ?_
      rintro e w' ⟨rfl, q, rfl⟩
      go_wp2
      go_quiet (fail)
      go_wp2
      go_region_held3 (fun w' => w'.cell? ⟨b, 0, none⟩ = some (.slice (some ⟨g, 0, none⟩) m m) ∧ w'.cell? ⟨b, 2, none⟩ = some (.int .i64 (l : Int))) (go_keep)
        (first | (go_at_call 65; refine (A.out _ ?_).mono ?_; rfl; rintro e w' ⟨rfl, rfl⟩))
      all_goals go_wp2
      go_ret
      exact ⟨rfl, ⟨_, QP.out _ rfl⟩, (((Fr.refl _ _ _).drewN _).setCell (Or.inr (by simp)) _).setCell (Or.inr (by simp)) _⟩

set_option maxHeartbeats 1000000 in
theorem pop_any {b g m f : Nat} {r L : List Int} (w : World) (h : Q w b g m f r L) :
    Calls Tryd.prog 53 #[.pointer (some ⟨b, 0, none⟩)] w fun e w' => e = .returned (.tuple #[.int .i64 (L.headD 0), .int .i64 (fE L)]) ∧ (∃ f', Q w' b g m f' r L.tail) ∧ Fr w.heap.size [b, g] w w' := by
  have C : Hid (∀ _ : Unit, _) := fun _ => front_any w h
  have HQ : Hid (Q w b g m f r L) := h
  by_cases c : L = []
  · subst c
    rw [show fE [] = 12 from rfl, show List.headD ([] : List Int) 0 = 0 from rfl, show ([] : List Int).tail = [] from rfl] at *
    clear h
    go_enter Tryd.func53, Tryd.ntmps53
    go_wp2_with fail
    refine (C.out ()).mono ?_
    rintro e w' ⟨rfl, q, rfl⟩
    go_wp2
    go_ret2
    exact ⟨rfl, ⟨_, HQ.out.drewN _⟩, (Fr.refl _ _ _).drewN _⟩
  · have hl : 0 < L.length := List.length_pos_iff.2 c
    rw [show fE L = 0 from if_neg c] at C ⊢
    have c2 := h.c2
    have h1 : (m : Int) ≤ 1024 := by have := h.rg.m2; omega
    have h2 : (f : Int) < m := by have := h.rg.hf; omega
    have h3 : (L.length : Int) ≤ m := by have := h.rg.hc; omega
    have h4 : (1 : Int) ≤ L.length := by omega
    have A : Hid (∀ w1 : World, w1.heap = w.heap → _) := fun w1 e => at_raw 1 w1 (h.heap e).c0 (h.heap e).c1 h1 h2 (by omega)
    have QP : Hid (∀ w1 : World, w1.heap = w.heap → _) := fun w1 e => q_pop (h.heap e) hl ((L.length : Int) - 1) rfl
    have c1 := h.c1
    have f1 : w.frozen? ⟨b, 1, none⟩ = false := h.sb.free _
    have f2 : w.frozen? ⟨b, 2, none⟩ = false := h.sb.free _
    clear h c hl
    generalize L.length = l at *
    generalize pl m f 1 = p at *
    generalize L.headD 0 = x at *
    go_enter Tryd.func53, Tryd.ntmps53
    go_wp2_with fail
    refine (C.out ()).mono ?_
    rintro e w' ⟨rfl, q, rfl⟩
    go_wp2_with fail
    refine (A.out (w.drewN q) rfl).mono ?_
    rintro e w' ⟨rfl, rfl⟩
    go_wp2
    go_ret2
    exact ⟨rfl, ⟨_, QP.out _ rfl⟩, (((Fr.refl _ _ _).drewN _).setCell (Or.inr (by simp)) _).setCell (Or.inr (by simp)) _⟩

end Go.Proofs.YtofdhljgchefgaaDoor
