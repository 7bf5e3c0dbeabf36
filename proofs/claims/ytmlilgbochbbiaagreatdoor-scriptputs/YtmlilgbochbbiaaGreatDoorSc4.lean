/- Scripts as bytes: scripts that are alike; a script as the document has it. -/
import Derived.Test.YtmlilgbochbbiaaGreatDoorSc3
import Derived.BigQuiet
namespace Go.Proofs.YtmlilgbochbbiaaGreatDoor.Scr
open Go.ChangeShapes Go.WideShapes Go.ChangeAt Go.RowKit
open Wir Wi0
set_option linter.unusedVariables false
set_option linter.unusedSimpArgs false
set_option maxRecDepth 100000

set_option maxHeartbeats 2000000 in
theorem equal_yes (Y : List Ev) (u v : Value) (w : World) (hl : (Y.length : Int) ≤ 1000) (hu : LRow evy w u Y) (hv : LRow evy w v Y) :
    Calls Tryz.prog 22 #[u, v] w fun e w' => e = .returned (.bool true) ∧ Sm w' w := by
  obtain ⟨a, cap, rfl⟩ := hu.shape
  obtain ⟨a2, cap2, rfl⟩ := hv.shape
  have HU : Hid (LRow evy w (.slice a Y.length cap) Y) := hu
  have HV : Hid (LRow evy w (.slice a2 Y.length cap2) Y) := hv
  obtain ⟨n, hn⟩ : ∃ n, Y.length = n := ⟨_, rfl⟩
  have HN : Hid (Y.length = n) := hn
  rw [hn] at hl HU HV ⊢
  clear hu hv hn
  go_enter Tryz.func22, Tryz.ntmps22
  go_wp2
  go_loopw [13] (fun i wr => ∃ k q : Nat, (k : Int) ≤ n ∧ wr = w.drewN q ∧ i = .int .i64 k) (fun i _ => n - (intOf i).toNat)
  case atStart => exact ⟨0, 0, by omega, rfl, rfl⟩
  case round =>
    obtain ⟨k, q, hk, rfl, rfl⟩ := hrel
    by_cases h : (k : Int) < n
    · obtain ⟨b, off, rfl, c0, c1, c2, c3, c4⟩ := ev_cell HU.out (k := k) (by have := HN.out; omega)
      obtain ⟨b2, off2, rfl, d0, d1, d2, d3, d4⟩ := ev_cell HV.out (k := k) (by have := HN.out; omega)
      generalize Y.getD k z5 = x at *
      go_wp2
      go_quiet (fail)
      go_wp2
      go_roundw
      case rel => exact ⟨k + 1, _, by omega, rfl, by go_num⟩
      case measure => simp [intOf]; omega
    · go_wp2
      go_ret
      exact ⟨rfl, rfl, rfl, rfl, rfl⟩

set_option maxHeartbeats 1000000 in
theorem ssame_yes (c : Int) (Y : List Ev) (u v : Value) (w : World) (hl : (Y.length : Int) ≤ 1000) (hu : LRow evy w u Y) (hv : LRow evy w v Y) :
    Calls Tryz.prog 11 #[.agg #[.int .i64 c, u], .agg #[.int .i64 c, v]] w fun e w' => e = .returned (.bool true) ∧ Below w.heap.size w w' := by
  obtain ⟨a, cap, rfl⟩ := hu.shape
  obtain ⟨a2, cap2, rfl⟩ := hv.shape
  have B2 : Hid (Below w.heap.size w ((w.alloc (.cells #[.int .i64 c, .slice a Y.length cap] 30)).alloc (.cells #[.int .i64 c, .slice a2 Y.length cap2] 30))) := ((Below.refl _ _).alloc (Nat.le_refl _) _).alloc (by simp) _
  have CE : Hid (∀ (t : World), t.heap = ((w.alloc (.cells #[.int .i64 c, .slice a Y.length cap] 30)).alloc (.cells #[.int .i64 c, .slice a2 Y.length cap2] 30)).heap → _) := fun t ht => equal_yes Y (.slice a Y.length cap) (.slice a2 Y.length cap2) t hl ((hu.below B2.out).heap ht) ((hv.below B2.out).heap ht)
  clear hu hv hl
  go_enter Tryz.func11, Tryz.ntmps11
  go_wp2_with fail
  refine (CE.out _ rfl).mono ?_
  rintro e t ⟨rfl, s⟩
  have BS : Hid (Below w.heap.size w t) := s.below B2.out
  clear s CE
  go_wp2
  go_ret
  exact ⟨rfl, BS.out⟩

set_option maxHeartbeats 1000000 in
theorem rsame_yes (c : Int) (Y : List Ev) (u v : Value) (w : World) (hl : (Y.length : Int) ≤ 1000) (hu : LRow evy w u Y) (hv : LRow evy w v Y) :
    Calls Tryz.prog 12 #[.agg #[.int .i64 c, u], .agg #[.int .i64 c, v]] w fun e w' => e = .returned (.bool true) ∧ Below w.heap.size w w' := by
  obtain ⟨a, cap, rfl⟩ := hu.shape
  obtain ⟨a2, cap2, rfl⟩ := hv.shape
  have B2 : Hid (Below w.heap.size w ((w.alloc (.cells #[.int .i64 c, .slice a Y.length cap] 24)).alloc (.cells #[.int .i64 c, .slice a2 Y.length cap2] 24))) := ((Below.refl _ _).alloc (Nat.le_refl _) _).alloc (by simp) _
  have CE : Hid (∀ (t : World), t.heap = ((w.alloc (.cells #[.int .i64 c, .slice a Y.length cap] 24)).alloc (.cells #[.int .i64 c, .slice a2 Y.length cap2] 24)).heap → _) := fun t ht => rsame_any Y (.slice a Y.length cap) (.slice a2 Y.length cap2) t hl ((hu.below B2.out).heap ht) ((hv.below B2.out).heap ht)
  clear hu hv hl
  go_enter Tryz.func12, Tryz.ntmps12
  go_wp2_with fail
  refine (CE.out _ rfl).mono ?_
  rintro e t ⟨rfl, s⟩
  have BS : Hid (Below w.heap.size w t) := s.below B2.out
  clear s CE
  go_wp2
  go_ret
  exact ⟨rfl, BS.out⟩

theorem taken_ret {w : World} {z : Nat} {c : Int} {v : Value} {tmps : Array Value} (h : Blk w z [.int .i64 c, v] 24) (h1 : tmps.getD 2 undef = .pointer (some ⟨z, 0, none⟩)) :
    (results Tryz.f15 tmps).run Tryz.prog w = .ok (.agg #[.int .i64 c, v]) w :=
  results_cell_row (p := 2) (ty := 24) rfl tmps w z 24 #[.int .i64 c, v] (0, 0) _ h1 h Tryz.underlying24 rfl (by rw [size_r]; rfl)
theorem taken_any (c : Int) (a : Option Addr) (n cap : Nat) (w : World) :
    Calls Tryz.prog 15 #[.agg #[.int .i64 c, .slice a n cap]] w fun e w' => e = .returned (.agg #[.int .i64 c, .slice a n cap]) ∧ Below w.heap.size w w' := by
  have B2 : Hid (Below w.heap.size w ((w.alloc (.cells #[.int .i64 c, .slice a n cap] 30)).alloc (.cells #[.int .i64 c, .slice a n cap] 24))) := ((Below.refl _ _).alloc (Nat.le_refl _) _).alloc (by simp) _
  have K2 : Hid (Blk ((w.alloc (.cells #[.int .i64 c, .slice a n cap] 30)).alloc (.cells #[.int .i64 c, .slice a n cap] 24)) (w.heap.size + 1) [.int .i64 c, .slice a n cap] 24) := by
    have := Blk.new (w.alloc (.cells #[.int .i64 c, .slice a n cap] 30)) [.int .i64 c, .slice a n cap] 24
    rw [World.size_alloc] at this
    exact this
  go_enter Tryz.func15, Tryz.ntmps15
  go_wp2
  exact bodyPost_ret (taken_ret K2.out rfl) rfl ⟨rfl, B2.out⟩
end Go.Proofs.YtmlilgbochbbiaaGreatDoor.Scr
