/- Scripts as bytes: the law of scripts as bytes. -/
import Derived.Test.YtmlilgbochbbiaaGreatDoorSc7
import Derived.Test.YtmlilgbochbbiaaGreatDoorScg
import Derived.Test.YtmlilgbochbbiaaGreatDoorSca
import Derived.BigQuiet
import Derived.Deep.RegionHeld3
namespace Go.Proofs.YtmlilgbochbbiaaGreatDoor.Scr
open Go.ChangeShapes Go.WideShapes Go.ChangeAt Go.RowKit
open Wir Wi0
set_option linter.unusedVariables false
set_option linter.unusedSimpArgs false
set_option maxRecDepth 100000

def putB (c : Int) (Y : List Ev) : List Nat := if putS c Y = 0 then c.toNat :: Y.flatMap putE else []
theorem put_row {c : Int} {Y : List Ev} {w w' : World} {v : Value} {y : Int} (h : PutP c Y w w' v y) : ORow by8 w' v (putB c Y) ∧ y = putS c Y ∧ Below w.heap.size w w' := by
  obtain ⟨hy, hb, hc⟩ := h
  refine ⟨?_, hy, hb⟩
  unfold putB
  rcases hc with ⟨h0, g⟩ | ⟨h0, rfl⟩
  · rw [if_pos (by rw [← hy]; exact h0)]
    exact g.row
  · rw [if_neg (by rw [← hy]; exact h0)]
    exact Or.inl ⟨rfl, none, 0, rfl⟩

/-- Both scripts in cells, their events, and the bytes that came of the first. -/
structure PG (w : World) (z : Nat) (c d : Int) (p q : Value) (Y Z : List Ev) (v1 v2 : Value) (xs : List Nat) (u : World) : Prop where
  bel : Below w.heap.size w u
  k0 : Blk u z [.int .i64 c, p] 24
  k1 : Blk u (z + 1) [.int .i64 d, q] 24
  ry : LRow evy u p Y
  rz : LRow evy u q Z
  o1 : ORow by8 u v1 xs
  o2 : ORow by8 u v2 xs
section
variable {w u u' t : World} {z : Nat} {c d : Int} {p q v1 v2 : Value} {Y Z : List Ev} {xs : List Nat}
theorem PG.up (g : PG w z c d p q Y Z v1 v2 xs u) (f : Below u.heap.size u u') : PG w z c d p q Y Z v1 v2 xs u' :=
  ⟨g.bel.trans (f.mono g.bel.size), g.k0.keep (Fr.of_below f) g.k0.lt (by simp), g.k1.keep (Fr.of_below f) g.k1.lt (by simp), g.ry.below f, g.rz.below f, g.o1.below f, g.o2.below f⟩
theorem PG.sm (g : PG w z c d p q Y Z v1 v2 xs u) (s : Sm t u) : PG w z c d p q Y Z v1 v2 xs t := g.up (s.below (Below.refl _ _))
theorem PG.smb (g : PG w z c d p q Y Z v1 v2 xs u) (f : Below t.heap.size t u') (s : Sm t u) : PG w z c d p q Y Z v1 v2 xs u' := (g.sm s).up f
end

theorem sames (c d : Int) (Y Z : List Ev) (hl : (Y.length : Int) ≤ 1000) : ∃ S : Bool,
    (∀ (u v : Value) (w : World), LRow evy w u Y → LRow evy w v Z → Calls Tryz.prog 11 #[.agg #[.int .i64 c, u], .agg #[.int .i64 d, v]] w fun e w' => e = .returned (.bool S) ∧ Below w.heap.size w w') ∧
    (∀ (u v : Value) (w : World), LRow evy w u Y → LRow evy w v Z → Calls Tryz.prog 12 #[.agg #[.int .i64 c, u], .agg #[.int .i64 d, v]] w fun e w' => e = .returned (.bool S) ∧ Below w.heap.size w w') := by
  by_cases h : c = d ∧ Y = Z
  · obtain ⟨rfl, rfl⟩ := h
    exact ⟨true, fun u v w hu hv => ssame_yes c Y u v w hl hu hv, fun u v w hu hv => rsame_yes c Y u v w hl hu hv⟩
  · exact ⟨false, fun u v w hu hv => ssame_no c d Y Z u v w hl hu hv h, fun u v w hu hv => rrsame_no c d Y Z u v w hl hu hv h⟩

set_option maxHeartbeats 16000000 in
theorem puts_law (c d : Int) (Y Z : List Ev) (a : Option Addr) (n cap : Nat) (a2 : Option Addr) (n2 cap2 : Nat) (w : World) (T : Tab w) (hs : 1 ≤ w.heap.size) (hy : LRow evy w (.slice a n cap) Y) (hz : LRow evy w (.slice a2 n2 cap2) Z)
    (oy : ∀ e ∈ Y, Eok e) (ny : Y.length = n) (nz : Z.length = n2) :
    Calls Tryz.prog 3 #[.agg #[.int .i64 c, .slice a n cap], .agg #[.int .i64 d, .slice a2 n2 cap2]] w fun e w' => e = .returned (.bool true) ∧ Below w.heap.size w w' := by
  have CK : Hid (∀ u, Below w.heap.size w u → _) := fun u b => known_yes u (Krn.tab_keep T hs (Fr.of_below b) (by simp)) (Nat.le_trans hs b.size)
  have B2 : Hid (Below w.heap.size w ((w.alloc (.cells #[.int .i64 c, .slice a n cap] 24)).alloc (.cells #[.int .i64 d, .slice a2 n2 cap2] 24))) := ((Below.refl _ _).alloc (Nat.le_refl _) _).alloc (by simp) _
  have K0 : Hid (Blk ((w.alloc (.cells #[.int .i64 c, .slice a n cap] 24)).alloc (.cells #[.int .i64 d, .slice a2 n2 cap2] 24)) w.heap.size [.int .i64 c, .slice a n cap] 24) := (Blk.new w _ _).alloc _
  have K1 : Hid (Blk ((w.alloc (.cells #[.int .i64 c, .slice a n cap] 24)).alloc (.cells #[.int .i64 d, .slice a2 n2 cap2] 24)) (w.heap.size + 1) [.int .i64 d, .slice a2 n2 cap2] 24) := by
    have := Blk.new (w.alloc (.cells #[.int .i64 c, .slice a n cap] 24)) [.int .i64 d, .slice a2 n2 cap2] 24
    rw [World.size_alloc] at this
    exact this
  by_cases hl : 700 < n
  · have q1 : (700 : Int) < (n : Int) := by omega
    clear T hs hy hz oy ny nz hl K0 K1
    go_enter Tryz.func3, Tryz.ntmps3
    go_wp2_with fail
    refine (CK.out _ B2.out).mono ?_
    rintro r u5 ⟨rfl, b5⟩
    have B5 : Hid (Below w.heap.size w u5) := B2.out.trans (b5.mono B2.out.size)
    clear b5 B2 CK
    go_wp2
    go_ret
    exact ⟨rfl, B5.out⟩
  have q1 : ¬ (700 : Int) < (n : Int) := by omega
  have q1' : decide ((700 : Int) < (n : Int)) = false := decide_eq_false q1
  by_cases hl2 : 700 < n2
  · have q2 : (700 : Int) < (n2 : Int) := by omega
    clear T hs hy hz oy ny nz hl hl2 K0 K1
    go_enter Tryz.func3, Tryz.ntmps3
    go_wp2_with fail
    refine (CK.out _ B2.out).mono ?_
    rintro r u5 ⟨rfl, b5⟩
    have B5 : Hid (Below w.heap.size w u5) := B2.out.trans (b5.mono B2.out.size)
    clear b5 B2 CK
    go_wp2
    go_ret
    exact ⟨rfl, B5.out⟩
  have q2 : ¬ (700 : Int) < (n2 : Int) := by omega
  have q2' : decide ((700 : Int) < (n2 : Int)) = false := decide_eq_false q2
  obtain ⟨S, S1, S2⟩ := sames c d Y Z (by omega)
  have CV : Hid (∀ c a n cap t, _) := fun c a n cap t => given_any c a n cap t
  have CP : Hid (∀ t, LRow evy t (.slice a n cap) Y → _) := fun t h => sput_any c Y _ t h oy (by omega)
  have CR : Hid (∀ t, LRow evy t (.slice a n cap) Y → _) := fun t h => srput_any c Y _ t h oy (by omega)
  have RY : Hid (LRow evy w (.slice a n cap) Y) := hy
  have RZ : Hid (LRow evy w (.slice a2 n2 cap2) Z) := hz
  clear T hs hy hz oy ny nz hl hl2
  go_enter Tryz.func3, Tryz.ntmps3
  go_wp2_with fail
  refine (CV.out _ _ _ _ _).mono ?_
  rintro e u1 ⟨rfl, b1⟩
  have B1 : Hid (Below w.heap.size w u1) := B2.out.trans (b1.mono B2.out.size)
  have J0 : Hid (Blk u1 w.heap.size [.int .i64 c, .slice a n cap] 24) := K0.out.keep (Fr.of_below b1) K0.out.lt (by simp)
  have J1 : Hid (Blk u1 (w.heap.size + 1) [.int .i64 d, .slice a2 n2 cap2] 24) := K1.out.keep (Fr.of_below b1) K1.out.lt (by simp)
  clear b1 K0 K1 B2
  go_wp2_with fail
  refine (CP.out _ (RY.out.below B1.out)).mono ?_
  rintro e u2 ⟨v1, y1, rfl, hp⟩
  obtain ⟨o1, hy1, b2⟩ := put_row hp
  subst hy1
  have O1 : Hid (ORow by8 u2 v1 (putB c Y)) := o1
  have B3 : Hid (Below w.heap.size w u2) := B1.out.trans (b2.mono B1.out.size)
  have L0 : Hid (Blk u2 w.heap.size [.int .i64 c, .slice a n cap] 24) := J0.out.keep (Fr.of_below b2) J0.out.lt (by simp)
  have L1 : Hid (Blk u2 (w.heap.size + 1) [.int .i64 d, .slice a2 n2 cap2] 24) := J1.out.keep (Fr.of_below b2) J1.out.lt (by simp)
  have l0 : u2.cell? ⟨w.heap.size, 0, none⟩ = some (.int .i64 c) := L0.out.cell 0
  have l1 : u2.cell? ⟨w.heap.size, 1, none⟩ = some (.slice a n cap) := L0.out.cell 1
  clear hp o1 b2 J0 J1 B1 CP
  go_wp2_with fail
  refine (CR.out _ (RY.out.below B3.out)).mono ?_
  rintro e u3 ⟨v2, y2, rfl, hp⟩
  obtain ⟨o2, hy2, b3⟩ := put_row hp
  subst hy2
  have G : Hid (PG w w.heap.size c d (.slice a n cap) (.slice a2 n2 cap2) Y Z v1 v2 (putB c Y) u3) :=
    ⟨B3.out.trans (b3.mono B3.out.size), L0.out.keep (Fr.of_below b3) L0.out.lt (by simp), L1.out.keep (Fr.of_below b3) L1.out.lt (by simp), (RY.out.below B3.out).below b3, (RZ.out.below B3.out).below b3, O1.out.below b3, o2⟩
  have CB : Hid (∀ t, PG w w.heap.size c d (.slice a n cap) (.slice a2 n2 cap2) Y Z v1 v2 (putB c Y) t → Calls Tryz.prog 10 #[v1, v2] t fun e w' => e = .returned (.bool true) ∧ Below t.heap.size t w') := fun t g => (bytes_yes t v1 v2 (putB c Y) g.o1 g.o2).mono (by rintro e w' ⟨rfl, rfl⟩; exact ⟨rfl, Below.refl _ _⟩)
  have CS : Hid (∀ t, PG w w.heap.size c d (.slice a n cap) (.slice a2 n2 cap2) Y Z v1 v2 (putB c Y) t → _) := fun t g => S1 _ _ t g.ry g.rz
  have CT : Hid (∀ t, PG w w.heap.size c d (.slice a n cap) (.slice a2 n2 cap2) Y Z v1 v2 (putB c Y) t → _) := fun t g => S2 _ _ t g.ry g.rz
  have CKK : Hid (∀ t, PG w w.heap.size c d (.slice a n cap) (.slice a2 n2 cap2) Y Z v1 v2 (putB c Y) t → _) := fun t g => CK.out t g.bel
  have a0 := G.out.k0.cell 0
  have a1 := G.out.k0.cell 1
  have d0 := G.out.k1.cell 0
  have d1 := G.out.k1.cell 1
  obtain ⟨s1, t1, hv1⟩ := G.out.o1.shape
  obtain ⟨s2, t2, hv2⟩ := G.out.o2.shape
  subst hv1 hv2
  generalize putS c Y = yy at *
  generalize putB c Y = xs at *
  generalize xs.length = m at *
  clear hp o2 b3 L0 L1 l0 l1 O1 B3 S1 S2 CK CR RY RZ
  go_wp2
  have g := G.out
  go_region_held3 (fun w' => w'.cell? ⟨w.heap.size, 0, none⟩ = some (.int .i64 c) ∧ w'.cell? ⟨w.heap.size, 1, none⟩ = some (.slice a n cap) ∧ w'.cell? ⟨w.heap.size + 1, 0, none⟩ = some (.int .i64 d) ∧ w'.cell? ⟨w.heap.size + 1, 1, none⟩ = some (.slice a2 n2 cap2)) (go_keep)
    (first | (go_at_call 10; refine (CB.out _ (g.sm ?_)).mono ?_; (exact ⟨rfl, rfl, rfl, rfl⟩); rintro e v3 ⟨rfl, f3⟩; have g := g.smb f3 ⟨rfl, rfl, rfl, rfl⟩; have x0 := g.k0.cell 0; have x1 := g.k0.cell 1; have x2 := g.k1.cell 0; have x3 := g.k1.cell 1) | (go_at_call 8; refine (CV.out _ _ _ _ _).mono ?_; rintro e v3 ⟨rfl, f3⟩; have g := g.smb f3 ⟨rfl, rfl, rfl, rfl⟩; have x0 := g.k0.cell 0; have x1 := g.k0.cell 1; have x2 := g.k1.cell 0; have x3 := g.k1.cell 1) | (go_at_call 11; refine (CS.out _ (g.sm ?_)).mono ?_; (exact ⟨rfl, rfl, rfl, rfl⟩); rintro e v3 ⟨rfl, f3⟩; have g := g.smb f3 ⟨rfl, rfl, rfl, rfl⟩; have x0 := g.k0.cell 0; have x1 := g.k0.cell 1; have x2 := g.k1.cell 0; have x3 := g.k1.cell 1) | (go_at_call 12; refine (CT.out _ (g.sm ?_)).mono ?_; (exact ⟨rfl, rfl, rfl, rfl⟩); rintro e v3 ⟨rfl, f3⟩; have g := g.smb f3 ⟨rfl, rfl, rfl, rfl⟩; have x0 := g.k0.cell 0; have x1 := g.k0.cell 1; have x2 := g.k1.cell 0; have x3 := g.k1.cell 1) | (go_at_call 6; refine (CKK.out _ (g.sm ?_)).mono ?_; (exact ⟨rfl, rfl, rfl, rfl⟩); rintro e v9 ⟨rfl, f3⟩; have g := g.smb f3 ⟨rfl, rfl, rfl, rfl⟩; have x0 := g.k0.cell 0; have x1 := g.k0.cell 1; have x2 := g.k1.cell 0; have x3 := g.k1.cell 1))
  have B5 : Hid (Below w.heap.size w v9) := g.bel
  clear g CB CS CT CKK CV
  go_wp2
  go_ret
  exact ⟨rfl, B5.out⟩
end Go.Proofs.YtmlilgbochbbiaaGreatDoor.Scr
