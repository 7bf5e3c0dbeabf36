/- Scripts as bytes: the document's Put; scripts that are not alike; a script as the program has it. -/
import Derived.Test.YtmlilgbochbbiaaGreatDoorSc2
import Derived.Test.YtmlilgbochbbiaaGreatDoorSc9
import Derived.Test.YtmlilgbochbbiaaGreatDoorYu
import Derived.BigQuiet
namespace Go.Proofs.YtmlilgbochbbiaaGreatDoor.Scr
open Go.ChangeShapes Go.WideShapes Go.ChangeAt Go.RowKit
open Wir Wi0
set_option linter.unusedVariables false
set_option linter.unusedSimpArgs false
set_option maxRecDepth 100000

theorem given_ret {w : World} {z : Nat} {c : Int} {v : Value} {tmps : Array Value} (h : Blk w z [.int .i64 c, v] 30) (h1 : tmps.getD 2 undef = .pointer (some ⟨z, 0, none⟩)) :
    (results Tryz.f8 tmps).run Tryz.prog w = .ok (.agg #[.int .i64 c, v]) w :=
  results_cell_row (p := 2) (ty := 30) rfl tmps w z 30 #[.int .i64 c, v] (0, 0) _ h1 h Tryz.underlying30 rfl (by rw [size_s]; rfl)
theorem given_any (c : Int) (a : Option Addr) (n cap : Nat) (w : World) :
    Calls Tryz.prog 8 #[.agg #[.int .i64 c, .slice a n cap]] w fun e w' => e = .returned (.agg #[.int .i64 c, .slice a n cap]) ∧ Below w.heap.size w w' := by
  have B2 : Hid (Below w.heap.size w ((w.alloc (.cells #[.int .i64 c, .slice a n cap] 24)).alloc (.cells #[.int .i64 c, .slice a n cap] 30))) := ((Below.refl _ _).alloc (Nat.le_refl _) _).alloc (by simp) _
  have K2 : Hid (Blk ((w.alloc (.cells #[.int .i64 c, .slice a n cap] 24)).alloc (.cells #[.int .i64 c, .slice a n cap] 30)) (w.heap.size + 1) [.int .i64 c, .slice a n cap] 30) := by
    have := Blk.new (w.alloc (.cells #[.int .i64 c, .slice a n cap] 24)) [.int .i64 c, .slice a n cap] 30
    rw [World.size_alloc] at this
    exact this
  go_enter Tryz.func8, Tryz.ntmps8
  go_wp2
  exact bodyPost_ret (given_ret K2.out rfl) rfl ⟨rfl, B2.out⟩

set_option maxHeartbeats 1000000 in
theorem ssame_no (c d : Int) (Y Z : List Ev) (u v : Value) (w : World) (hl : (Y.length : Int) ≤ 1000) (hu : LRow evy w u Y) (hv : LRow evy w v Z) (hne : ¬ (c = d ∧ Y = Z)) :
    Calls Tryz.prog 11 #[.agg #[.int .i64 c, u], .agg #[.int .i64 d, v]] w fun e w' => e = .returned (.bool false) ∧ Below w.heap.size w w' := by
  obtain ⟨a, cap, rfl⟩ := hu.shape
  obtain ⟨a2, cap2, rfl⟩ := hv.shape
  have B2 : Hid (Below w.heap.size w ((w.alloc (.cells #[.int .i64 c, .slice a Y.length cap] 30)).alloc (.cells #[.int .i64 d, .slice a2 Z.length cap2] 30))) := ((Below.refl _ _).alloc (Nat.le_refl _) _).alloc (by simp) _
  by_cases hc : c = d
  · subst hc
    have CE : Hid (∀ (t : World), t.heap = ((w.alloc (.cells #[.int .i64 c, .slice a Y.length cap] 30)).alloc (.cells #[.int .i64 c, .slice a2 Z.length cap2] 30)).heap → _) := fun t ht => equal_no Y Z (.slice a Y.length cap) (.slice a2 Z.length cap2) t hl ((hu.below B2.out).heap ht) ((hv.below B2.out).heap ht) (fun e => hne ⟨rfl, e⟩)
    clear hu hv hl hne
    generalize Y.length = ny at *
    generalize Z.length = nz at *
    go_enter Tryz.func11, Tryz.ntmps11
    go_wp2_with fail
    refine (CE.out _ rfl).mono ?_
    rintro e t ⟨rfl, s⟩
    have BS : Hid (Below w.heap.size w t) := s.below B2.out
    clear s CE
    go_wp2
    go_ret
    exact ⟨rfl, BS.out⟩
  · have q : (c == d) = false := beq_eq_false_iff_ne.2 hc
    clear hu hv hl hne
    generalize Y.length = ny at *
    generalize Z.length = nz at *
    go_enter Tryz.func11, Tryz.ntmps11
    go_wp2
    go_ret
    exact ⟨rfl, B2.out⟩

set_option maxHeartbeats 1000000 in
theorem rrsame_no (c d : Int) (Y Z : List Ev) (u v : Value) (w : World) (hl : (Y.length : Int) ≤ 1000) (hu : LRow evy w u Y) (hv : LRow evy w v Z) (hne : ¬ (c = d ∧ Y = Z)) :
    Calls Tryz.prog 12 #[.agg #[.int .i64 c, u], .agg #[.int .i64 d, v]] w fun e w' => e = .returned (.bool false) ∧ Below w.heap.size w w' := by
  obtain ⟨a, cap, rfl⟩ := hu.shape
  obtain ⟨a2, cap2, rfl⟩ := hv.shape
  have B2 : Hid (Below w.heap.size w ((w.alloc (.cells #[.int .i64 c, .slice a Y.length cap] 24)).alloc (.cells #[.int .i64 d, .slice a2 Z.length cap2] 24))) := ((Below.refl _ _).alloc (Nat.le_refl _) _).alloc (by simp) _
  by_cases hc : c = d
  · subst hc
    have CE : Hid (∀ (t : World), t.heap = ((w.alloc (.cells #[.int .i64 c, .slice a Y.length cap] 24)).alloc (.cells #[.int .i64 c, .slice a2 Z.length cap2] 24)).heap → _) := fun t ht => rsame_no Y Z (.slice a Y.length cap) (.slice a2 Z.length cap2) t hl ((hu.below B2.out).heap ht) ((hv.below B2.out).heap ht) (fun e => hne ⟨rfl, e⟩)
    clear hu hv hl hne
    generalize Y.length = ny at *
    generalize Z.length = nz at *
    go_enter Tryz.func12, Tryz.ntmps12
    go_wp2_with fail
    refine (CE.out _ rfl).mono ?_
    rintro e t ⟨rfl, s⟩
    have BS : Hid (Below w.heap.size w t) := s.below B2.out
    clear s CE
    go_wp2
    go_ret
    exact ⟨rfl, BS.out⟩
  · have q : (c == d) = false := beq_eq_false_iff_ne.2 hc
    clear hu hv hl hne
    generalize Y.length = ny at *
    generalize Z.length = nz at *
    go_enter Tryz.func12, Tryz.ntmps12
    go_wp2
    go_ret
    exact ⟨rfl, B2.out⟩

end Go.Proofs.YtmlilgbochbbiaaGreatDoor.Scr
