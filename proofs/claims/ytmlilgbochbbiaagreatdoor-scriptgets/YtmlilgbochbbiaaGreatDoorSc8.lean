/- Scripts as bytes: the law of bytes as scripts. -/
import Derived.Test.YtmlilgbochbbiaaGreatDoorSc7
import Derived.BigQuiet
import Derived.Deep.RegionHeld3
namespace Go.Proofs.YtmlilgbochbbiaaGreatDoor.Scr
open Go.ChangeShapes Go.WideShapes Go.ChangeAt Go.RowKit
open Wir Wi0
set_option linter.unusedVariables false
set_option linter.unusedSimpArgs false
set_option maxRecDepth 100000

/-- Both readings, in two cells each. -/
structure SG (w : World) (z3 z5 : Nat) (cc : Int) (p q : Value) (Y : List Ev) (u : World) : Prop where
  bel : Below w.heap.size w u
  k3 : Blk u z3 [.int .i64 cc, p] 30
  k5 : Blk u z5 [.int .i64 cc, q] 24
  r1 : LRow evy u p Y
  r2 : LRow evy u q Y
section
variable {w u u' t : World} {z3 z5 : Nat} {cc : Int} {p q : Value} {Y : List Ev}
theorem SG.up (g : SG w z3 z5 cc p q Y u) (f : Below u.heap.size u u') : SG w z3 z5 cc p q Y u' :=
  ⟨g.bel.trans (f.mono g.bel.size), g.k3.keep (Fr.of_below f) g.k3.lt (by simp), g.k5.keep (Fr.of_below f) g.k5.lt (by simp), g.r1.below f, g.r2.below f⟩
theorem SG.sm (g : SG w z3 z5 cc p q Y u) (s : Sm t u) : SG w z3 z5 cc p q Y t := g.up (s.below (Below.refl _ _))
theorem SG.smb (g : SG w z3 z5 cc p q Y u) (f : Below t.heap.size t u') (s : Sm t u) : SG w z3 z5 cc p q Y u' := (g.sm s).up f
end

theorem rd_len : ∀ (f : Nat) (l : List Ev) (b : List Nat) (l' : List Ev), l.length ≤ 600 → rd f l b = .ok l' → l'.length ≤ 600
  | 0, l, b, l', hl, h => by simp [rd] at h; subst h; exact hl
  | f + 1, l, b, l', hl, h => by
    unfold rd at h
    split at h
    · cases h; exact hl
    · split at h
      · cases h
      · rename_i h6
        cases hg : getE b with
        | error c => rw [hg] at h; cases h
        | ok ep =>
          rw [hg] at h
          exact rd_len f _ _ _ (by rw [List.length_append]; simp; omega) h
theorem get_len (xs : List Nat) : (getS xs).2.1.length ≤ 600 := by
  cases xs with
  | nil => simp [getS]
  | cons x r =>
    rw [getS]
    split
    · cases hr : readE [] r with
      | error c => simp
      | ok Y => exact rd_len _ _ _ _ (by simp) hr
    · simp

set_option maxHeartbeats 8000000 in
theorem gets_law (xs : List Nat) (a : Option Addr) (n cap : Nat) (w : World) (T : Tab w) (hs : 1 ≤ w.heap.size) (h : CRow w a n cap xs) :
    Calls Tryz.prog 4 #[.slice a n cap] w fun e w' => e = .returned (.bool true) ∧ Below w.heap.size w w' := by
  have CK : Hid (∀ u, Below w.heap.size w u → _) := fun u b => known_yes u (Krn.tab_keep T hs (Fr.of_below b) (by simp)) (Nat.le_trans hs b.size)
  by_cases hl : 9000 < n
  · have h2 : (9000 : Int) < (n : Int) := by omega
    have BA : Hid (Below w.heap.size w w) := Below.refl _ _
    clear T hs h hl
    go_enter Tryz.func4, Tryz.ntmps4
    go_wp2_with fail
    refine (CK.out _ BA.out).mono ?_
    rintro r u5 ⟨rfl, b5⟩
    have B5 : Hid (Below w.heap.size w u5) := b5
    clear b5 BA CK
    go_wp2
    go_ret
    exact ⟨rfl, B5.out⟩
  have h2 : ¬ (9000 : Int) < (n : Int) := by omega
  have h3 : decide ((9000 : Int) < (n : Int)) = false := decide_eq_false h2
  have CG : Hid (∀ _ : Unit, _) := fun _ => sget_any xs a n cap w h (by omega)
  have CR : Hid (∀ u, Below w.heap.size w u → _) := fun u b => srget_any xs a n cap u (h.below b) (by omega)
  have GL := get_len xs
  obtain ⟨cc, Y, y, hG⟩ : ∃ cc Y y, getS xs = (cc, Y, y) := ⟨_, _, _, rfl⟩
  rw [hG] at GL
  have HG : Hid (getS xs = (cc, Y, y)) := hG
  have YL : Hid ((Y.length : Int) ≤ 1000) := by show _ ≤ _; simp only at GL; omega
  clear T hs h hl hG GL
  go_enter Tryz.func4, Tryz.ntmps4
  go_wp2_with fail
  refine (CG.out ()).mono ?_
  rintro e u1 ⟨c1, v1, y1, rfl, hc1, hy1, hr1, b1⟩
  rw [HG.out] at hc1 hy1 hr1
  subst hc1 hy1
  obtain ⟨a1, p1, rfl⟩ := hr1.shape
  have BB1 : Below w.heap.size w (u1.alloc (.cells #[.int .i64 c1, .slice a1 Y.length p1] 30)) := b1.alloc b1.size _
  have bb1 : Below u1.heap.size u1 (u1.alloc (.cells #[.int .i64 c1, .slice a1 Y.length p1] 30)) := (Below.refl _ _).alloc (Nat.le_refl _) _
  have K1 : Hid (Blk (u1.alloc (.cells #[.int .i64 c1, .slice a1 Y.length p1] 30)) u1.heap.size [.int .i64 c1, .slice a1 Y.length p1] 30) := Blk.new u1 _ _
  have R1 : Hid (LRow evy (u1.alloc (.cells #[.int .i64 c1, .slice a1 Y.length p1] 30)) (.slice a1 Y.length p1) Y) := hr1.below bb1
  have B1 : Hid _ := BB1
  clear hr1 b1 BB1 bb1 CG
  go_wp2_with fail
  refine (CR.out _ B1.out).mono ?_
  rintro e u2 ⟨c2, v2, y2, rfl, hc2, hy2, hr2, b2⟩
  rw [HG.out] at hc2 hy2 hr2
  subst hc2 hy2
  obtain ⟨a2, p2, rfl⟩ := hr2.shape
  have bb2 : Below u2.heap.size u2 (u2.alloc (.cells #[.int .i64 c2, .slice a2 Y.length p2] 24)) := (Below.refl _ _).alloc (Nat.le_refl _) _
  have b12 : Below (u1.alloc (.cells #[.int .i64 c2, .slice a1 Y.length p1] 30)).heap.size (u1.alloc (.cells #[.int .i64 c2, .slice a1 Y.length p1] 30)) (u2.alloc (.cells #[.int .i64 c2, .slice a2 Y.length p2] 24)) := b2.trans (bb2.mono b2.size)
  have G : Hid (SG w u1.heap.size u2.heap.size c2 (.slice a1 Y.length p1) (.slice a2 Y.length p2) Y (u2.alloc (.cells #[.int .i64 c2, .slice a2 Y.length p2] 24))) :=
    ⟨B1.out.trans (b12.mono B1.out.size), K1.out.keep (Fr.of_below b12) K1.out.lt (by simp), Blk.new u2 _ _, R1.out.below b12, hr2.below bb2⟩
  have a0 := G.out.k3.cell 0
  have a1' := G.out.k3.cell 1
  have d0 := G.out.k5.cell 0
  have d1 := G.out.k5.cell 1
  have CT : Hid (∀ t, _) := fun t => taken_any c2 a1 Y.length p1 t
  have CS : Hid (∀ t, LRow evy t (.slice a1 Y.length p1) Y → LRow evy t (.slice a2 Y.length p2) Y → _) := fun t h1 h2 => rsame_yes c2 Y _ _ t YL.out h1 h2
  obtain ⟨z3, hz3⟩ : ∃ z3, u1.heap.size = z3 := ⟨_, rfl⟩
  have EZ3 : Hid (u1.heap.size = z3) := hz3
  rw [hz3] at G a0 a1' ⊢
  generalize Y.length = N at *
  clear hr2 b2 bb2 b12 B1 K1 R1 CR hz3 HG YL
  go_wp2
  go_region_held3 (fun w' => w'.cell? ⟨z3, 0, none⟩ = some (.int .i64 c2) ∧ w'.cell? ⟨z3, 1, none⟩ = some (.slice a1 N p1) ∧ w'.cell? ⟨u2.heap.size, 0, none⟩ = some (.int .i64 c2) ∧ w'.cell? ⟨u2.heap.size, 1, none⟩ = some (.slice a2 N p2)) (go_keep)
    (first | (go_at_call 15; refine (CT.out _).mono ?_; rintro e v3 ⟨rfl, f3⟩; have g3 := G.out.smb f3 ⟨rfl, rfl, rfl, rfl⟩; have x0 := g3.k3.cell 0; have x1 := g3.k3.cell 1; have x2 := g3.k5.cell 0; have x3 := g3.k5.cell 1) | (go_at_call 12; refine (CS.out _ (g3.sm ⟨rfl, rfl, rfl, rfl⟩).r1 (g3.sm ⟨rfl, rfl, rfl, rfl⟩).r2).mono ?_; rintro e v4 ⟨rfl, f4⟩; have g4 := g3.smb f4 ⟨rfl, rfl, rfl, rfl⟩; have y0 := g4.k3.cell 0; have y1 := g4.k3.cell 1; have y2 := g4.k5.cell 0; have y3 := g4.k5.cell 1) | (go_at_call 6; refine (CK.out _ (g4.sm ⟨rfl, rfl, rfl, rfl⟩).bel).mono ?_; rintro e v5 ⟨rfl, f5⟩; have g5 := g4.smb f5 ⟨rfl, rfl, rfl, rfl⟩; have m0 := g5.k3.cell 0; have m1 := g5.k3.cell 1; have m2 := g5.k5.cell 0; have m3 := g5.k5.cell 1))
  have B5 : Hid (Below w.heap.size w v5) := g5.bel
  clear a0 a1' d0 d1 g3 f3 x0 x1 x2 x3 g4 f4 y0 y1 y2 y3 g5 f5 m0 m1 m2 m3 CT CS CK G
  go_wp2
  go_ret
  exact ⟨rfl, B5.out⟩
end Go.Proofs.YtmlilgbochbbiaaGreatDoor.Scr
