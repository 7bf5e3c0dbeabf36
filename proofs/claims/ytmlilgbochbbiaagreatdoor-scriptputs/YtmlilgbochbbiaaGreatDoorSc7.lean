/- Scripts and traces: law 31's fixed calls. -/
import Derived.Test.YtmlilgbochbbiaaGreatDoorSc2
import Derived.Test.YtmlilgbochbbiaaGreatDoorSc4
import Derived.Test.YtmlilgbochbbiaaGreatDoorSc6
import Derived.BigQuiet
import Derived.Laws.BytesArg
import Derived.Laws.StructEq
namespace Go.Proofs.YtmlilgbochbbiaaGreatDoor.Scr
open Go.ChangeShapes Go.WideShapes Go.ChangeAt Go.RowKit
open Wir Wi0
set_option linter.unusedVariables false
set_option linter.unusedSimpArgs false
set_option maxRecDepth 100000

/-- The event and the bytes of the fixed calls. -/
abbrev ev1 : Ev := ⟨3, 0, 1, 3, 0⟩
abbrev by1 : List Nat := [2, 3, 6, 1, 1, 1, 3]
theorem ok1 : Eok ev1 := ⟨⟨by decide, by decide⟩, ⟨by decide, by decide⟩, ⟨by decide, by decide⟩, by decide, by decide, ⟨by decide, by decide⟩⟩
theorem get1 : getS by1 = (2, [ev1], 0) := by kernel_rfl
theorem put1 : putS 2 [ev1] = 0 := by decide +kernel
theorem bytes1 : (2 : Int).toNat :: [ev1].flatMap putE = by1 := by decide +kernel

set_option maxHeartbeats 4000000 in
theorem trace_one (a : Option Addr) (cap : Nat) (w : World) (T : Tab w) (hs : 1 ≤ w.heap.size) (h : CRow w a 7 cap by1) :
    Calls Tryz.prog 16 #[.slice a 7 cap] w fun e w' => ∃ nb nc, e = .returned (.tuple #[.slice (some ⟨nb, 0, none⟩) 1 nc, .int .i64 0]) ∧ Krn.One w w' nb := by
  have CG : Hid (∀ _ : Unit, _) := fun _ => sget_any by1 a 7 cap w h (by omega)
  have HT : Hid (Tab w) := T
  have HS : Hid (1 ≤ w.heap.size) := hs
  clear T hs h
  go_enter Tryz.func16, Tryz.ntmps16
  go_wp2_with fail
  refine (CG.out ()).mono ?_
  rintro e u ⟨cc, v, y, rfl, hcc, hy, hrow, bu⟩
  rw [get1] at hcc hy hrow
  subst hcc hy
  obtain ⟨va, vc, rfl⟩ := hrow.shape
  obtain ⟨eb, eo, rfl, hlt, hc⟩ := lrow_cell hrow (k := 0) (by simp)
  have B1 : Hid (Below w.heap.size w (u.alloc (.cells #[.int .i64 2, .slice (some ⟨eb, eo, none⟩) 1 vc] 30))) := bu.alloc bu.size _
  have bA : Below u.heap.size u (u.alloc (.cells #[.int .i64 2, .slice (some ⟨eb, eo, none⟩) 1 vc] 30)) := (Below.refl _ _).alloc (Nat.le_refl _) _
  have cx : ∀ j, j < 5 → (u.alloc (.cells #[.int .i64 2, .slice (some ⟨eb, eo, none⟩) 1 vc] 30)).cell? ⟨eb, eo + 0 * 5 + j, none⟩ = (evL ev1)[j]? := fun j hj => (bA.cell (p := ⟨eb, eo + 0 * 5 + j, none⟩) hlt).trans (hc j hj)
  have CR : Hid (∀ _ : Unit, _) := fun _ => Krn.run_one eb eo vc (u.alloc (.cells #[.int .i64 2, .slice (some ⟨eb, eo, none⟩) 1 vc] 30)) (Krn.tab_keep HT.out HS.out (Fr.of_below B1.out) (by simp)) (Nat.le_trans HS.out B1.out.size) (Nat.lt_of_lt_of_le hlt bA.size) (by simpa [evL] using cx 0 (by omega)) (by simpa [evL] using cx 1 (by omega)) (by simpa [evL] using cx 2 (by omega)) (by simpa [evL] using cx 3 (by omega)) (by simpa [evL] using cx 4 (by omega))
  clear hrow hlt hc bu bA cx CG
  go_wp2_with fail
  refine (CR.out ()).mono ?_
  rintro e u2 ⟨nb, nc, rfl, hc, b2, hlt⟩
  have FO : Hid (Krn.One w u2 nb) := ⟨hc, B1.out.trans (b2.mono B1.out.size), hlt⟩
  clear hc b2 hlt CR
  go_wp2
  go_ret2
  exact ⟨nb, nc, rfl, FO.out⟩

theorem crow_up {w u : World} {a : Option Addr} {n cap : Nat} {xs : List Nat} (h : CRow w a n cap xs) (b : Below w.heap.size w u) : CRow u a n cap xs := h.below b
theorem ev_row (w : World) : LRow evy (w.alloc (.cells (evL ev1).toArray 50)) (.slice (some ⟨w.heap.size, 0, none⟩) 1 1) [ev1] :=
  Or.inr ⟨w.heap.size, 0, 1, rfl, by simp, fun i hi j hj => by
    obtain rfl : i = 0 := by simpa using hi
    have e : 0 + 0 * evy.n + j = j := by simp
    rw [e]
    exact (Blk.new w (evL ev1) 50).cell j⟩

set_option maxHeartbeats 8000000 in
theorem known_yes (w : World) (T : Tab w) (hs : 1 ≤ w.heap.size) : Calls Tryz.prog 6 #[] w fun e w' => e = .returned (.bool true) ∧ Below w.heap.size w w' := by
  obtain ⟨W1, hW1⟩ : ∃ W1, (w.alloc (.cells #[.int .i64 3, .int .i64 0, .int .i64 1, .int .u64 3, .int .i64 0] 50)).alloc (.cells #[.int .i64 2, .slice (some ⟨w.heap.size, 0, none⟩) 1 1] 30) = W1 := ⟨_, rfl⟩
  have HW1 : Hid ((w.alloc (.cells #[.int .i64 3, .int .i64 0, .int .i64 1, .int .u64 3, .int .i64 0] 50)).alloc (.cells #[.int .i64 2, .slice (some ⟨w.heap.size, 0, none⟩) 1 1] 30) = W1) := hW1
  have bE : Below (w.alloc (.cells #[.int .i64 3, .int .i64 0, .int .i64 1, .int .u64 3, .int .i64 0] 50)).heap.size (w.alloc (.cells #[.int .i64 3, .int .i64 0, .int .i64 1, .int .u64 3, .int .i64 0] 50)) W1 := by rw [← hW1]; exact (Below.refl _ _).alloc (Nat.le_refl _) _
  have BW : Hid (Below w.heap.size w W1) := by show Below w.heap.size w W1; rw [← hW1]; exact ((Below.refl _ _).alloc (Nat.le_refl _) _).alloc (by simp) _
  have KS : Hid (Blk W1 (w.heap.size + 1) [.int .i64 2, .slice (some ⟨w.heap.size, 0, none⟩) 1 1] 30) := by
    have := Blk.new (w.alloc (.cells #[.int .i64 3, .int .i64 0, .int .i64 1, .int .u64 3, .int .i64 0] 50)) [.int .i64 2, .slice (some ⟨w.heap.size, 0, none⟩) 1 1] 30
    rw [World.size_alloc] at this
    show Blk W1 _ _ _
    rw [← hW1]
    exact this
  have RW : Hid (LRow evy W1 (.slice (some ⟨w.heap.size, 0, none⟩) 1 1) [ev1]) := (ev_row w).below bE
  have CP : Hid (∀ _ : Unit, _) := fun _ => sput_any 2 [ev1] (.slice (some ⟨w.heap.size, 0, none⟩) 1 1) W1 RW.out (fun e he => by simp only [List.mem_cons, List.mem_nil_iff, or_false] at he; rw [he]; exact ok1) (by simp)
  have CG : Hid (∀ u a cap, CRow u a 7 cap by1 → _) := fun u a cap h => sget_any by1 a 7 cap u h (by omega)
  have CT : Hid (∀ u a cap, Below w.heap.size w u → CRow u a 7 cap by1 → _) := fun u a cap b h => trace_one a cap u (Krn.tab_keep T hs (Fr.of_below b) (by simp)) (Nat.le_trans hs b.size) h
  have CS : Hid (∀ v1 v2 u, LRow evy u v1 [ev1] → LRow evy u v2 [ev1] → _) := fun v1 v2 u h1 h2 => ssame_yes 2 [ev1] v1 v2 u (by simp) h1 h2
  have ST : Hid (st8 by1 = ⟨#[2, 3, 6, 1, 1, 1, 3]⟩) := by show st8 _ = _; rfl
  clear hW1 bE T hs
  go_enter Tryz.func6, Tryz.ntmps6
  go_wp2_with fail
  rw [HW1.out]
  refine (CP.out ()).mono ?_
  rintro e u1 ⟨v, y, rfl, hy, b1, hv⟩
  rw [put1] at hy
  subst hy
  rcases hv with ⟨-, g⟩ | ⟨hh, -⟩
  rotate_left
  · exact absurd rfl hh
  rw [bytes1] at g
  obtain ⟨va, vc, rfl⟩ := g.shape
  have HC1 : Hid (CRow u1 va 7 vc by1) := crow_of g (by decide)
  have B1 : Hid (Below w.heap.size w u1) := BW.out.trans (b1.mono BW.out.size)
  have K1 : Hid (Blk u1 (w.heap.size + 1) [.int .i64 2, .slice (some ⟨w.heap.size, 0, none⟩) 1 1] 30) := Blk.keep KS.out (Fr.of_below b1) (Blk.lt KS.out) (by simp)
  have R1 : Hid (LRow evy u1 (.slice (some ⟨w.heap.size, 0, none⟩) 1 1) [ev1]) := RW.out.below b1
  clear g b1 CP KS RW BW HW1
  go_wp2_with fail
  refine (CG.out _ _ _ HC1.out).mono ?_
  rintro e u2 ⟨cc, v2, y, rfl, hcc, hy, hrow, b2⟩
  rw [get1] at hcc hy hrow
  subst hcc hy
  obtain ⟨wa, wc, rfl⟩ := hrow.shape
  obtain ⟨W3, hW3⟩ : ∃ W3, u2.alloc (.cells #[.int .i64 2, .slice wa 1 wc] 30) = W3 := ⟨_, rfl⟩
  have HW3 : Hid (u2.alloc (.cells #[.int .i64 2, .slice wa 1 wc] 30) = W3) := hW3
  have b3 : Below u2.heap.size u2 W3 := by rw [← hW3]; exact (Below.refl _ _).alloc (Nat.le_refl _) _
  have b13 : Below u1.heap.size u1 W3 := b2.trans (b3.mono b2.size)
  have B3 : Hid (Below w.heap.size w W3) := B1.out.trans (b13.mono B1.out.size)
  have K3 : Hid (Blk W3 (w.heap.size + 1) [.int .i64 2, .slice (some ⟨w.heap.size, 0, none⟩) 1 1] 30) := Blk.keep K1.out (Fr.of_below b13) (Blk.lt K1.out) (by simp)
  have L3 : Hid (Blk W3 u2.heap.size [.int .i64 2, .slice wa 1 wc] 30) := by show Blk W3 _ _ _; rw [← hW3]; exact Blk.new u2 _ _
  have R3 : Hid (LRow evy W3 (.slice (some ⟨w.heap.size, 0, none⟩) 1 1) [ev1]) := R1.out.below b13
  have Q3 : Hid (LRow evy W3 (.slice wa 1 wc) [ev1]) := hrow.below b3
  have C3 : Hid (CRow W3 va 7 vc by1) := HC1.out.below b13
  clear hrow b2 b3 b13 hW3 K1 R1 B1 HC1 CG
  go_wp2_with fail
  rw [HW3.out]
  refine (CT.out _ _ _ B3.out C3.out).mono ?_
  rintro e u4 ⟨nb, nc, rfl, o4, b4, lt4⟩
  have B4 : Hid (Below w.heap.size w u4) := B3.out.trans (b4.mono B3.out.size)
  have K4 : Blk u4 (w.heap.size + 1) [.int .i64 2, .slice (some ⟨w.heap.size, 0, none⟩) 1 1] 30 := Blk.keep K3.out (Fr.of_below b4) (Blk.lt K3.out) (by simp)
  have L4 : Blk u4 u2.heap.size [.int .i64 2, .slice wa 1 wc] 30 := Blk.keep L3.out (Fr.of_below b4) (Blk.lt L3.out) (by simp)
  have R4 : Hid (LRow evy u4 (.slice (some ⟨w.heap.size, 0, none⟩) 1 1) [ev1]) := R3.out.below b4
  have Q4 : Hid (LRow evy u4 (.slice wa 1 wc) [ev1]) := Q3.out.below b4
  have C4 : Hid (CRow u4 va 7 vc by1) := C3.out.below b4
  have O4 : Hid (∀ i, i < 5 → u4.cell? ⟨nb, i, none⟩ = (Krn.rc ⟨1, 0, 1, 0, 0⟩)[i]?) := o4
  have LT4 : Hid (nb < u4.heap.size) := lt4
  have a0 : u4.cell? ⟨w.heap.size + 1, 0, none⟩ = some (.int .i64 2) := K4.cell 0
  have a1 : u4.cell? ⟨w.heap.size + 1, 1, none⟩ = some (.slice (some ⟨w.heap.size, 0, none⟩) 1 1) := K4.cell 1
  have d0 : u4.cell? ⟨u2.heap.size, 0, none⟩ = some (.int .i64 2) := L4.cell 0
  have d1 : u4.cell? ⟨u2.heap.size, 1, none⟩ = some (.slice wa 1 wc) := L4.cell 1
  have cv : (convert 26 9 (.slice va 7 vc)).run Tryz.prog u4 = .ok (.string ⟨#[2, 3, 6, 1, 1, 1, 3]⟩) u4 := by
    have := conv_st8 u4 _ _ C4.out.row
    rw [ST.out] at this
    exact this
  clear o4 b4 lt4 K4 L4 K3 L3 R3 Q3 C3 HW3 B3 CT
  go_wp2_with fail
  refine (CS.out _ _ _ R4.out Q4.out).mono ?_
  rintro e u5 ⟨rfl, b5⟩
  have B5 : Hid (Below w.heap.size w u5) := B4.out.trans (b5.mono B4.out.size)
  have h6 : ∀ i, i < 5 → (u5.alloc (.cells (Krn.rc ⟨1, 0, 1, 0, 0⟩).toArray 52)).cell? ⟨nb, i, none⟩ = (Krn.rc ⟨1, 0, 1, 0, 0⟩)[i]? := fun i hi => by
    have e1 := (b5.cell (p := ⟨nb, i, none⟩) LT4.out).trans (O4.out i hi)
    exact (((Below.refl u5.heap.size u5).alloc (Nat.le_refl _) (.cells (Krn.rc ⟨1, 0, 1, 0, 0⟩).toArray 52)).cell (p := ⟨nb, i, none⟩) (Nat.lt_of_lt_of_le LT4.out b5.size)).trans e1
  have CM : Hid (∀ _ : Unit, _) := fun _ => Krn.same_one (n1 := nc) (n2 := 1) (x := ⟨1, 0, 1, 0, 0⟩) (w := u5.alloc (.cells (Krn.rc ⟨1, 0, 1, 0, 0⟩).toArray 52)) (b := nb) (c := u5.heap.size) h6 (fun i hi => (Blk.new u5 (Krn.rc ⟨1, 0, 1, 0, 0⟩) 52).cell i)
  have B6 : Hid (Below w.heap.size w (u5.alloc (.cells (Krn.rc ⟨1, 0, 1, 0, 0⟩).toArray 52))) := B5.out.alloc B5.out.size _
  clear b5 h6 B5 B4 CS a0 a1 d0 d1 cv R4 Q4 C4
  go_wp2_with fail
  refine (CM.out ()).mono ?_
  rintro e u7 ⟨rfl, s7⟩
  have B7 : Hid (Below w.heap.size w u7) := s7.below B6.out
  clear s7 CM B6
  go_wp2
  go_ret
  exact ⟨rfl, B7.out⟩
end Go.Proofs.YtmlilgbochbbiaaGreatDoor.Scr
