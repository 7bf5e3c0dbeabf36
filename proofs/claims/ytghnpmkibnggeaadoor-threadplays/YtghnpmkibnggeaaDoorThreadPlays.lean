/- Proved: for every number cpus and every list acts, davitlaw11.ThreadPlays(cpus, acts) returns true: threads of any number of cores that are played with answer what the document says, and all threads are what it says (150 acts at most, as the law itself says), and acts is left alone; no condition but that the listed table is as the program's text lays it, which the card ties. -/
import Derived.Test.YtghnpmkibnggeaaDoorRows
import Derived.Test.YtghnpmkibnggeaaDoorTie
import Derived.Test.YtghnpmkibnggeaaDoorCards
import Derived.Test.YtghnpmkibnggeaaDoorMu
import Derived.Test.YtghnpmkibnggeaaDoorFo
import Derived.Test.YtghnpmkibnggeaaDoorDf
import Derived.Test.YtghnpmkibnggeaaDoorDg
import Derived.Test.YtghnpmkibnggeaaDoorFi
import Derived.WalkKit
import Derived.ProofKit
import Derived.OpenShut
import Derived.Stop.Joined
import Derived.ShutString
import Derived.ChangeOld
import Derived.Below
import Derived.Carry
import Derived.LaidMore
import Derived.SevenTiedAt
import Derived.Test.YtghnpmkibnggeaaDoorFt
import Derived.Deep.RegionHeldLaw
namespace Go.Proofs.YtghnpmkibnggeaaDoor.threadPlays
open Go.ChangeShapes Go.WideShapes Go.ChangeAt Go.RowKit
open Mm Sl Tm
set_option linter.unusedVariables false
set_option linter.unusedSimpArgs false

set_option maxRecDepth 100000 in
set_option maxHeartbeats 4000000 in
theorem walk (a0 : Int) (a1 : Option Addr) (len1 cap1 : Nat) (X1 : Nat → Nat → Int) (w : World) (w0 : (Lit.int .i64 a0).wf = true) (w1 : TRow w (.slice a1 len1 cap1) len1 [1, 1, 1, 2, 1, 0] X1) (z1 : ∀ i, i < len1 → ∀ j, j < [1, 1, 1, 2, 1, 0].length → kwf ([1, 1, 1, 2, 1, 0].getD j 1) (X1 i j)) (ht : Tab w) (hs : 0 < w.heap.size) :
    Calls Tryd.prog 3 #[.int .i64 a0, .slice a1 len1 cap1] w fun e w' => e = .returned (.bool true) ∧ Below w.heap.size w w' := by
  have H0 : Hid (0 < w.heap.size) := hs
  by_cases wrong : a0 < 1 ∨ 64 < a0
  · have KN : Hid (∀ _ : Unit, _) := fun _ => thknown_yes w ht hs
    have C : Hid (∀ w, _) := fun w => thnew_bad a0 w wrong
    have D : Hid (∀ w, _) := fun w => rdnew_bad a0 w wrong
    clear wrong w0 w1 z1 ht hs
    go_enter Tryd.func3, Tryd.ntmps3
    go_wp2_with fail
    refine (C.out _).mono ?_
    rintro e u1 ⟨rfl, rfl⟩
    go_wp2_with fail
    refine (D.out _).mono ?_
    rintro e u2 ⟨rfl, rfl⟩
    go_wp2_with fail
    refine (KN.out ()).mono ?_
    rintro e u3 ⟨rfl, hb⟩
    go_wp2
    go_ret
    exact ⟨rfl, hb⟩
  · obtain ⟨c, rfl⟩ := Int.eq_ofNat_of_zero_le (show 0 ≤ a0 by omega)
    have m1 : (1 : Int) ≤ c := by omega
    have m2 : (c : Int) ≤ 64 := by omega
    have C : Hid (∀ _ : Unit, _) := fun _ => thnew_any c w m1 m2
    have D : Hid (∀ w1, _) := fun w1 => rdnew_any c w1 m1 m2
    have HR : Hid (TRow w (.slice a1 len1 cap1) len1 [1, 1, 1, 2, 1, 0] X1) := w1
    have HW : Hid (∀ i, i < len1 → kwf 2 (X1 i 3)) := fun i hi => z1 i hi 3 (by decide)
    obtain ⟨s, hsz⟩ : ∃ s, w.heap.size = s := ⟨_, rfl⟩
    have TB : Hid (∀ w2, Below s w w2 → Tab w2) := fun w2 b => ht.keep (B := s) (by omega) (by simp) (Fr.of_below b)
    have HS : Hid (w.heap.size = s) := hsz
    have KN : Hid (∀ w1, Below s w w1 → _) := fun w1 b => thknown_yes w1 (TB.out w1 b) (by have := b.size; omega)
    rw [hsz] at C H0 ⊢
    clear wrong w0 w1 z1 hsz ht hs
    go_enter Tryd.func3, Tryd.ntmps3
    go_wp2_with fail
    refine (C.out ()).mono ?_
    rintro e u1 ⟨rfl, q1, f1, -⟩
    have Q1 : Hid (TT u1 s c (fun _ => false) (fun _ => zt)) := q1
    have B1 : Hid (Below s w u1) := f1
    have D1 : Hid (∀ _ : Unit, _) := fun _ => D.out u1
    have hi1 : Hid (s + 3 ≤ u1.heap.size) := q1.hi
    clear q1 f1
    go_wp2_with fail
    refine (D1.out ()).mono ?_
    rintro e u2 ⟨rfl, r2, f2, -⟩
    have PP0 : Hid (TP w u2 s u1.heap.size c (.slice none 0 0) (fun _ => false) (fun _ => zt)) := ⟨Q1.out.below f2, r2, B1.out.trans (f2.mono (by have := hi1.out; omega)), hi1.out, fun g e => by cases e⟩
    clear r2 f2
    generalize u1.heap.size = b at *
    clear Q1 B1 D1 hi1
    go_wp2
    go_loopw [9] (fun i wr => ∃ (k : Nat) (O : Nat → Bool) (X : Nat → Th) (v : Value), (k : Int) ≤ 150 ∧ (k : Int) ≤ len1 ∧ TP w wr s b c v O X ∧ i = .int .i64 k) (fun i _ => 150 - (intOf i).toNat)
    case atStart => exact ⟨0, _, _, _, by omega, by omega, PP0.out, rfl⟩
    case round =>
      obtain ⟨k, O, X, v, hk, hk2, p, rfl⟩ := hrel
      clear PP0
      have HB : Hid (Below s w wr) := p.bel
      have hz : s ≤ wr.heap.size := by have := p.size; omega
      have tail : (¬ (k : Int) < len1 ∧ decide ((k : Int) < len1) = false) ∨ ((k : Int) < len1 ∧ ¬ (k : Int) < 150) ∨ ((k : Int) < len1 ∧ (k : Int) < 150) := by
        by_cases h : (k : Int) < len1
        · by_cases h2 : (k : Int) < 150
          · exact Or.inr (Or.inr ⟨h, h2⟩)
          · exact Or.inr (Or.inl ⟨h, h2⟩)
        · exact Or.inl ⟨h, decide_eq_false h⟩
      rw [← or_assoc] at tail
      rcases tail with tail | ⟨h, h2⟩
      · clear p
        have KN1 : Hid (∀ _ : Unit, _) := fun _ => KN.out wr HB.out
        rcases tail with ⟨h, hd⟩ | ⟨h, h2⟩
        all_goals (
          go_wp2_with fail
          refine (KN1.out ()).mono ?_
          rintro e w4 ⟨rfl, f4⟩
          go_wp2
          go_ret
          exact ⟨rfl, HB.out.trans (f4.mono hz)⟩)
      · obtain ⟨b0, off, rfl, hA⟩ := trow_cell (wr := wr) HR.out (by rw [HS.out]; exact p.bel) h
        have HX : Hid (∀ w2 : World, Below s w w2 → ∀ j, j < 6 → w2.cell? ⟨b0, off + k * 6 + j, none⟩ = some (kval ([1, 1, 1, 2, 1, 0].getD j 1) (X1 k j))) := fun w2 b2 j hj => by
          obtain ⟨ab3, off3, e3, hc3⟩ := trow_cell (wr := w2) HR.out (by rw [HS.out]; exact b2) h
          cases e3
          exact hc3 j hj
        clear hA
        have x0 : wr.cell? ⟨b0, off + k * 6, none⟩ = some (.int .i64 (X1 k 0)) := HX.out wr p.bel 0 (by omega)
        have x1 : wr.cell? ⟨b0, off + k * 6 + 1, none⟩ = some (.int .i64 (X1 k 1)) := HX.out wr p.bel 1 (by omega)
        have x2 : wr.cell? ⟨b0, off + k * 6 + 2, none⟩ = some (.int .i64 (X1 k 2)) := HX.out wr p.bel 2 (by omega)
        have x3 : wr.cell? ⟨b0, off + k * 6 + 3, none⟩ = some (.int .u64 (X1 k 3)) := HX.out wr p.bel 3 (by omega)
        have x4 : wr.cell? ⟨b0, off + k * 6 + 4, none⟩ = some (.int .i64 (X1 k 4)) := HX.out wr p.bel 4 (by omega)
        have x5 : wr.cell? ⟨b0, off + k * 6 + 5, none⟩ = some (.bool (X1 k 5 != 0)) := HX.out wr p.bel 5 (by omega)
        have Y1 : Hid (∀ w2 : World, Below s w w2 → w2.cell? ⟨b0, off + k * 6 + 1, none⟩ = some (.int .i64 (X1 k 1))) := fun w2 b2 => HX.out w2 b2 1 (by omega)
        have hw3 : (Lit.int .u64 (X1 k 3)).wf = true := HW.out k (by omega)
        clear HX
        generalize X1 k 0 = y0 at *
        generalize X1 k 1 = y1 at *
        generalize X1 k 2 = y2 at *
        generalize X1 k 3 = y3 at *
        generalize X1 k 4 = y4 at *
        generalize (X1 k 5 != 0) = y5 at *
        obtain ⟨y3, rfl⟩ := Int.eq_ofNat_of_zero_le (show 0 ≤ y3 from (bounds_u64 hw3).1)
        have hy3 : y3 < 18446744073709551616 := by have := (bounds_u64 hw3).2; omega
        have C1 : Hid (∀ _ : Unit, _) := fun _ => thdo_any y0 y1 y2 y3 y4 y5 hy3 wr p TB.out
        clear p hw3 hy3
        go_wp2_with fail
        refine (C1.out ()).mono ?_
        rintro e u3 ⟨rfl, v3, O3, X3, p3⟩
        have sz3 : 0 < u3.heap.size := by have := p3.size; omega
        have T1 : Hid (∀ _ : Unit, _) := fun _ => thlist_any u3 p3.q (TB.out u3 p3.bel) sz3
        have P3 : Hid (TP w u3 s b c v3 O3 X3) := p3
        clear x0 x1 x2 x3 x4 x5 C1 p3 sz3
        go_wp2_with fail
        refine (T1.out ()).mono ?_
        rintro e u4 ⟨l4, rfl, g4⟩
        have P4 : Hid (TP w u4 s b c v3 O3 X3) := P3.out.keep g4.bel
        have T2 : Hid (∀ _ : Unit, _) := fun _ => rdlist_any u4 P4.out.r
        have R4 : Hid (Row u4 l4 (li 32 O3)) := row_of_owns g4.own
        obtain ⟨a4, c4, rfl⟩ := own_shape g4.own
        clear g4 T1 P3
        go_wp2_with fail
        refine (T2.out ()).mono ?_
        rintro e u5 ⟨l5, rfl, g5⟩
        have P5 : Hid (TP w u5 s b c v3 O3 X3) := P4.out.keep g5.bel
        have I : Hid (∀ _ : Unit, _) := fun _ => ints_any (li 32 O3) _ l5 u5 (by have := li_le 32 O3; omega) (R4.out.keep (B := u4.heap.size) (Fr.of_below g5.bel) (Nat.le_refl _)) (row_of_owns g5.own)
        obtain ⟨a5, c5, rfl⟩ := own_shape g5.own
        clear g5 T2 P4 R4
        go_wp2_with fail
        refine (I.out ()).mono ?_
        rintro e u6 ⟨rfl, d6, rfl⟩
        have P6 : Hid (TP w (u5.drewN d6) s b c v3 O3 X3) := P5.out.sm ⟨rfl, rfl, rfl, rfl⟩
        have c6 := Y1.out _ P6.out.bel
        have T3 : Hid (∀ _ : Unit, _) := fun _ => thget_any y1 _ P6.out.q
        obtain ⟨u6, hu6⟩ : ∃ u6, u5.drewN d6 = u6 := ⟨_, rfl⟩
        rw [hu6] at P6 c6 T3
        simp only [hu6]
        clear I P5 hu6
        generalize ht6 : gtX O3 X3 y1 = t at *
        have HT6 : Hid (gtX O3 X3 y1 = t) := ht6
        clear ht6
        unfold thv at T3
        go_wp2_with fail
        refine (T3.out ()).mono ?_
        rintro e u7 ⟨rfl, f7⟩
        have P7 : Hid (TP w u7 s b c v3 O3 X3) := P6.out.keep f7
        have k8 : Blk (u7.alloc (.cells #[.int .i64 t.prio, .int .u64 (t.mask : Int), .int .i64 t.cpu, .bool t.forced, .bool t.sleeps, .int .i64 t.timer] 40)) u7.heap.size [.int .i64 t.prio, .int .u64 (t.mask : Int), .int .i64 t.cpu, .bool t.forced, .bool t.sleeps, .int .i64 t.timer] 40 := Blk.new u7 _ _
        have b8 : Below u7.heap.size u7 (u7.alloc (.cells #[.int .i64 t.prio, .int .u64 (t.mask : Int), .int .i64 t.cpu, .bool t.forced, .bool t.sleeps, .int .i64 t.timer] 40)) := (Below.refl _ _).alloc (Nat.le_refl _) _
        obtain ⟨u8, hu8⟩ : ∃ u8, u7.alloc (.cells #[.int .i64 t.prio, .int .u64 (t.mask : Int), .int .i64 t.cpu, .bool t.forced, .bool t.sleeps, .int .i64 t.timer] 40) = u8 := ⟨_, rfl⟩
        have HU8 : Hid (u7.alloc (.cells #[.int .i64 t.prio, .int .u64 (t.mask : Int), .int .i64 t.cpu, .bool t.forced, .bool t.sleeps, .int .i64 t.timer] 40) = u8) := hu8
        rw [hu8] at k8 b8
        have P8 : Hid (TP w u8 s b c v3 O3 X3) := P7.out.keep b8
        have c8 : (u7.alloc (.cells #[.int .i64 t.prio, .int .u64 (t.mask : Int), .int .i64 t.cpu, .bool t.forced, .bool t.sleeps, .int .i64 t.timer] 40)).cell? ⟨b0, off + k * 6 + 1, none⟩ = some (.int .i64 y1) := by rw [HU8.out]; exact Y1.out _ P8.out.bel
        have c7 := Y1.out _ P7.out.bel
        have T4 : Hid (∀ _ : Unit, _) := fun _ => rdfind_any y1 u8 P8.out.r
        obtain ⟨z, hz7⟩ : ∃ z, u7.heap.size = z := ⟨_, rfl⟩
        have HZ7 : Hid (u7.heap.size = z) := hz7
        rw [hz7] at k8
        obtain ⟨zc0, zc1, zc2, zc3, zc4, zc5⟩ : u8.cell? ⟨z, 0, none⟩ = some (.int .i64 t.prio) ∧ u8.cell? ⟨z, 1, none⟩ = some (.int .u64 (t.mask : Int)) ∧ u8.cell? ⟨z, 2, none⟩ = some (.int .i64 t.cpu) ∧ u8.cell? ⟨z, 3, none⟩ = some (.bool t.forced) ∧ u8.cell? ⟨z, 4, none⟩ = some (.bool t.sleeps) ∧ u8.cell? ⟨z, 5, none⟩ = some (.int .i64 t.timer) := ⟨k8.cell 0, k8.cell 1, k8.cell 2, k8.cell 3, k8.cell 4, k8.cell 5⟩
        clear f7 T3 P6 c6 k8 b8 hu8 hz7 P7
        cases eh : Sl.hs 32 O3 y1 with
        | false =>
          rw [fd_no eh] at T4
          have et : t = zt := by rw [← HT6.out]; unfold gtX; rw [eh]; rfl
          subst et
          have SA : Hid (∀ w1 : World, Sm w1 u8 → Calls Tryd.prog 18 #[.agg #[.int .i64 0, .int .u64 0, .int .i64 0, .bool false, .bool false, .int .i64 0], .agg #[.int .i64 0, .int .i64 0, .int .u64 0, .int .i64 0, .bool false, .bool false, .int .i64 0]] w1 fun e w' => e = .returned (.bool true) ∧ Below u8.heap.size u8 w') := fun w1 e => (same_any zt 0 w1).mono fun _ w2 ⟨r1, r2⟩ => ⟨r1, by have := e.from r2; rwa [e.1] at this⟩
          replace zc0 : u8.cell? ⟨z, 0, none⟩ = some (.int .i64 0) := zc0
          replace zc1 : u8.cell? ⟨z, 1, none⟩ = some (.int .u64 0) := zc1
          replace zc2 : u8.cell? ⟨z, 2, none⟩ = some (.int .i64 0) := zc2
          replace zc3 : u8.cell? ⟨z, 3, none⟩ = some (.bool false) := zc3
          replace zc4 : u8.cell? ⟨z, 4, none⟩ = some (.bool false) := zc4
          replace zc5 : u8.cell? ⟨z, 5, none⟩ = some (.int .i64 0) := zc5
          have ZK : Hid (∀ w1 : World, Below u8.heap.size u8 w1 → w1.cell? ⟨z, 0, none⟩ = some (.int .i64 0) ∧ w1.cell? ⟨z, 1, none⟩ = some (.int .u64 0) ∧ w1.cell? ⟨z, 2, none⟩ = some (.int .i64 0) ∧ w1.cell? ⟨z, 3, none⟩ = some (.bool false) ∧ w1.cell? ⟨z, 4, none⟩ = some (.bool false) ∧ w1.cell? ⟨z, 5, none⟩ = some (.int .i64 0)) := fun w1 b1 => by
            have hzl : z < u8.heap.size := World.block_lt_of_cell? u8 ⟨z, 0, none⟩ zc0
            exact ⟨(b1.cell (p := ⟨z, 0, none⟩) hzl).trans zc0, (b1.cell (p := ⟨z, 1, none⟩) hzl).trans zc1, (b1.cell (p := ⟨z, 2, none⟩) hzl).trans zc2, (b1.cell (p := ⟨z, 3, none⟩) hzl).trans zc3, (b1.cell (p := ⟨z, 4, none⟩) hzl).trans zc4, (b1.cell (p := ⟨z, 5, none⟩) hzl).trans zc5⟩
          clear eh
          go_wp2_with fail
          rw [HU8.out, HZ7.out]
          refine (T4.out ()).mono ?_
          rintro e u9 ⟨rfl, rfl⟩
          clear T4
          go_wp2_with fail
          refine wp_region_held_drew (S := fun w' => w'.cell? ⟨z, 0, none⟩ = some (.int .i64 0) ∧ w'.cell? ⟨z, 1, none⟩ = some (.int .u64 0) ∧ w'.cell? ⟨z, 2, none⟩ = some (.int .i64 0) ∧ w'.cell? ⟨z, 3, none⟩ = some (.bool false) ∧ w'.cell? ⟨z, 4, none⟩ = some (.bool false) ∧ w'.cell? ⟨z, 5, none⟩ = some (.int .i64 0)) (by kernel_rfl) (by go_keep) (fun hHeld => ?_)
          refine wpAnyH_take (i := 0) (oi := { dst := some 79, op := Op.move (Operand.tmp 11), type := 24, pos := "law.go:79", after := #[], guard := none }) (v := ?va0) rfl (by kernel_rfl) (by kernel_rfl) (by kernel_rfl) (fun _ _ _ h => h) (Or.inl ⟨by rfl, ?ha0⟩) (by assumption) ?ra0
          case ha0 => (intro wz hSw; (try dsimp only at hSw); go_simp <;> with_reducible rfl)
          try simp only [Act.put, List.setIfInBounds_toArray, List.set_cons_zero, List.set_cons_succ]
          refine wpAnyH_take (i := 1) (oi := { dst := some 80, op := Op.binOp BinOp.eql 24 (Operand.tmp 79) (Operand.const (Value.int IntKind.i64 0)) 24, type := 4, pos := "law.go:79", after := #[{ on := 0, ground := Ground.data }], guard := none }) (v := ?va1) rfl (by kernel_rfl) (by kernel_rfl) (by kernel_rfl) (fun _ _ _ h => h) (Or.inl ⟨by rfl, ?ha1⟩) (by assumption) ?ra1
          case ha1 => (intro wz hSw; (try dsimp only at hSw); go_simp <;> with_reducible rfl)
          try simp only [Act.put, List.setIfInBounds_toArray, List.set_cons_zero, List.set_cons_succ]
          refine wpAnyH_take (i := 2) (oi := { dst := some 81, op := Op.move (Operand.tmp 12), type := 3, pos := "law.go:79", after := #[], guard := none }) (v := ?va2) rfl (by kernel_rfl) (by kernel_rfl) (by kernel_rfl) (fun _ _ _ h => h) (Or.inl ⟨by rfl, ?ha2⟩) (by assumption) ?ra2
          case ha2 => (intro wz hSw; (try dsimp only at hSw); go_simp <;> with_reducible rfl)
          try simp only [Act.put, List.setIfInBounds_toArray, List.set_cons_zero, List.set_cons_succ]
          refine wpAnyH_take (i := 3) (oi := { dst := some 82, op := Op.binOp BinOp.geq 3 (Operand.tmp 81) (Operand.const (Value.int IntKind.i64 0)) 3, type := 4, pos := "law.go:79", after := #[{ on := 2, ground := Ground.data }], guard := none }) (v := ?va3) rfl (by kernel_rfl) (by kernel_rfl) (by kernel_rfl) (fun _ _ _ h => h) (Or.inl ⟨by rfl, ?ha3⟩) (by assumption) ?ra3
          case ha3 => (intro wz hSw; (try dsimp only at hSw); go_simp <;> with_reducible rfl)
          try simp only [Act.put, List.setIfInBounds_toArray, List.set_cons_zero, List.set_cons_succ]
          refine wpAnyH_take (i := 4) (oi := { dst := some 83, op := Op.binOp BinOp.neq 4 (Operand.tmp 80) (Operand.tmp 82) 4, type := 4, pos := "law.go:79", after := #[{ on := 1, ground := Ground.data }, { on := 3, ground := Ground.data }], guard := none }) (v := ?va4) rfl (by kernel_rfl) (by kernel_rfl) (by kernel_rfl) (fun _ _ _ h => h) (Or.inl ⟨by rfl, ?ha4⟩) (by assumption) ?ra4
          case ha4 => (intro wz hSw; (try dsimp only at hSw); go_simp <;> with_reducible rfl)
          try simp only [Act.put, List.setIfInBounds_toArray, List.set_cons_zero, List.set_cons_succ]
          refine wpAnyH_take (i := 5) (oi := { dst := some 84, op := Op.move (Operand.tmp 83), type := 4, pos := "law.go:79", after := #[{ on := 4, ground := Ground.data }], guard := none }) (v := ?va5) rfl (by kernel_rfl) (by kernel_rfl) (by kernel_rfl) (fun _ _ _ h => h) (Or.inl ⟨by rfl, ?ha5⟩) (by assumption) ?ra5
          case ha5 => (intro wz hSw; (try dsimp only at hSw); go_simp <;> with_reducible rfl)
          try simp only [Act.put, List.setIfInBounds_toArray, List.set_cons_zero, List.set_cons_succ]
          refine wpAnyH_take (i := 6) (oi := { dst := some 85, op := Op.move (Operand.tmp 12), type := 3, pos := "law.go:79", after := #[{ on := 5, ground := Ground.guard }], guard := some (5, false) }) (v := ?va6) rfl (by kernel_rfl) (by kernel_rfl) (by kernel_rfl) (fun _ _ _ h => h) (Or.inl ⟨by rfl, ?ha6⟩) (by assumption) ?ra6
          case ha6 => (intro wz hSw; (try dsimp only at hSw); go_simp <;> with_reducible rfl)
          try simp only [Act.put, List.setIfInBounds_toArray, List.set_cons_zero, List.set_cons_succ]
          refine wpAnyH_take (i := 7) (oi := { dst := some 86, op := Op.binOp BinOp.lss 3 (Operand.tmp 85) (Operand.const (Value.int IntKind.i64 0)) 3, type := 4, pos := "law.go:79", after := #[{ on := 6, ground := Ground.data }, { on := 5, ground := Ground.guard }], guard := some (5, false) }) (v := ?va7) rfl (by kernel_rfl) (by kernel_rfl) (by kernel_rfl) (fun _ _ _ h => h) (Or.inl ⟨by rfl, ?ha7⟩) (by assumption) ?ra7
          case ha7 => (intro wz hSw; (try dsimp only at hSw); go_simp <;> with_reducible rfl)
          try simp only [Act.put, List.setIfInBounds_toArray, List.set_cons_zero, List.set_cons_succ]
          refine wpAnyH_take (i := 8) (oi := { dst := some 87, op := Op.move (Operand.tmp 86), type := 4, pos := "law.go:79", after := #[{ on := 7, ground := Ground.data }, { on := 5, ground := Ground.chain }, { on := 5, ground := Ground.guard }], guard := some (5, false) }) (v := ?va8) rfl (by kernel_rfl) (by kernel_rfl) (by kernel_rfl) (fun _ _ _ h => h) (Or.inl ⟨by rfl, ?ha8⟩) (by assumption) ?ra8
          case ha8 => (intro wz hSw; (try dsimp only at hSw); go_simp <;> with_reducible rfl)
          try simp only [Act.put, List.setIfInBounds_toArray, List.set_cons_zero, List.set_cons_succ]
          refine wpAnyH_take (i := 9) (oi := { dst := some 88, op := Op.move (Operand.tmp 11), type := 24, pos := "law.go:79", after := #[{ on := 8, ground := Ground.guard }], guard := some (8, true) }) (v := ?va9) rfl (by kernel_rfl) (by kernel_rfl) (by kernel_rfl) (fun _ _ _ h => h) (Or.inl ⟨by rfl, ?ha9⟩) (by assumption) ?ra9
          case ha9 => (intro wz hSw; (try dsimp only at hSw); go_simp <;> with_reducible rfl)
          try simp only [Act.put, List.setIfInBounds_toArray, List.set_cons_zero, List.set_cons_succ]
          refine wpAnyH_take (i := 10) (oi := { dst := some 89, op := Op.binOp BinOp.neq 24 (Operand.tmp 88) (Operand.const (Value.int IntKind.i64 4)) 24, type := 4, pos := "law.go:79", after := #[{ on := 9, ground := Ground.data }, { on := 8, ground := Ground.guard }], guard := some (8, true) }) (v := ?va10) rfl (by kernel_rfl) (by kernel_rfl) (by kernel_rfl) (fun _ _ _ h => h) (Or.inl ⟨by rfl, ?ha10⟩) (by assumption) ?ra10
          case ha10 => (intro wz hSw; (try dsimp only at hSw); go_simp <;> with_reducible rfl)
          try simp only [Act.put, List.setIfInBounds_toArray, List.set_cons_zero, List.set_cons_succ]
          refine wpAnyH_take (i := 11) (oi := { dst := some 90, op := Op.move (Operand.tmp 89), type := 4, pos := "law.go:79", after := #[{ on := 10, ground := Ground.data }, { on := 8, ground := Ground.chain }, { on := 8, ground := Ground.guard }], guard := some (8, true) }) (v := ?va11) rfl (by kernel_rfl) (by kernel_rfl) (by kernel_rfl) (fun _ _ _ h => h) (Or.inl ⟨by rfl, ?ha11⟩) (by assumption) ?ra11
          case ha11 => (intro wz hSw; (try dsimp only at hSw); go_simp <;> with_reducible rfl)
          try simp only [Act.put, List.setIfInBounds_toArray, List.set_cons_zero, List.set_cons_succ]
          refine wpAnyH_take (i := 12) (oi := { dst := some 91, op := Op.load 40 (Operand.tmp 10), type := 40, pos := "law.go:79", after := #[{ on := 11, ground := Ground.guard }], guard := some (11, false) }) (v := ?va12) rfl (by kernel_rfl) (by kernel_rfl) (by kernel_rfl) (fun _ _ _ h => h) (Or.inl ⟨by rfl, ?ha12⟩) (by assumption) ?ra12
          case ha12 => (intro wz hSw; (try dsimp only at hSw); go_simp <;> with_reducible rfl)
          try simp only [Act.put, List.setIfInBounds_toArray, List.set_cons_zero, List.set_cons_succ]
          refine wpAnyH_take (i := 13) (oi := { dst := some 92, op := Op.build 46 #[], type := 46, pos := "law.go:79", after := #[{ on := 11, ground := Ground.guard }], guard := some (11, false) }) (v := ?va13) rfl (by kernel_rfl) (by kernel_rfl) (by kernel_rfl) (fun _ _ _ h => h) (Or.inl ⟨by rfl, ?ha13⟩) (by assumption) ?ra13
          case ha13 => (intro wz hSw; (try dsimp only at hSw); go_simp <;> with_reducible rfl)
          try simp only [Act.put, List.setIfInBounds_toArray, List.set_cons_zero, List.set_cons_succ]
          refine wpAnyH_ready (rs := [14]) (by kernel_rfl) (by simp) ?_
          refine AllReadyH.cons (o := { dst := some 93, op := Op.call { callee := Callee.value (Operand.func 18), args := #[Operand.tmp 91, Operand.tmp 92], argTypes := #[40, 46] }, type := 4, pos := "law.go:79", after := #[{ on := 12, ground := Ground.data }, { on := 13, ground := Ground.data }, { on := 11, ground := Ground.chain }, { on := 11, ground := Ground.guard }], guard := some (11, false) }) rfl (fun K hK => ?_) AllReadyH.nil
          go_simp
          refine (SA.out _ ?_).mono ?_
          · exact ⟨rfl, rfl, rfl, rfl⟩
          rintro e ua ⟨rfl, fa⟩
          obtain ⟨ya0, ya1, ya2, ya3, ya4, ya5⟩ := ZK.out ua fa
          have FS : Hid (Below _ _ ua) := fa
          clear fa
          (try go_wp2_with fail)
          refine hK.out _ _ ?sa14 (fun hHeld => ?ta14)
          case sa14 => go_keep
          clear hK K
          try simp only [Act.put, List.setIfInBounds_toArray, List.set_cons_zero, List.set_cons_succ]
          refine wpAnyH_take (i := 15) (oi := { dst := some 94, op := Op.unOp UnOp.not 4 (Operand.tmp 93), type := 4, pos := "law.go:79", after := #[{ on := 14, ground := Ground.data }, { on := 11, ground := Ground.guard }], guard := some (11, false) }) (v := ?va15) rfl (by kernel_rfl) (by kernel_rfl) (by kernel_rfl) (fun _ _ _ h => h) (Or.inl ⟨by rfl, ?ha15⟩) (by assumption) ?ra15
          case ha15 => (intro wz hSw; (try dsimp only at hSw); go_simp <;> with_reducible rfl)
          try simp only [Act.put, List.setIfInBounds_toArray, List.set_cons_zero, List.set_cons_succ]
          refine wpAnyH_take (i := 16) (oi := { dst := some 95, op := Op.pick (Operand.tmp 90) (Operand.const (Value.bool true)) (Operand.tmp 94), type := 4, pos := "law.go:79", after := #[{ on := 11, ground := Ground.data }, { on := 15, ground := Ground.data }, { on := 8, ground := Ground.guard }], guard := some (8, true) }) (v := ?va16) rfl (by kernel_rfl) (by kernel_rfl) (by kernel_rfl) (fun _ _ _ h => h) (Or.inl ⟨by rfl, ?ha16⟩) (by assumption) ?ra16
          case ha16 => (intro wz hSw; (try dsimp only at hSw); go_simp <;> with_reducible rfl)
          try simp only [Act.put, List.setIfInBounds_toArray, List.set_cons_zero, List.set_cons_succ]
          refine wpAnyH_take (i := 17) (oi := { dst := some 96, op := Op.pick (Operand.tmp 87) (Operand.tmp 95) (Operand.const (Value.bool false)), type := 4, pos := "law.go:79", after := #[{ on := 8, ground := Ground.data }, { on := 16, ground := Ground.data }, { on := 5, ground := Ground.guard }], guard := some (5, false) }) (v := ?va17) rfl (by kernel_rfl) (by kernel_rfl) (by kernel_rfl) (fun _ _ _ h => h) (Or.inl ⟨by rfl, ?ha17⟩) (by assumption) ?ra17
          case ha17 => (intro wz hSw; (try dsimp only at hSw); go_simp <;> with_reducible rfl)
          try simp only [Act.put, List.setIfInBounds_toArray, List.set_cons_zero, List.set_cons_succ]
          refine wpAnyH_take (i := 18) (oi := { dst := some 97, op := Op.pick (Operand.tmp 84) (Operand.const (Value.bool true)) (Operand.tmp 96), type := 4, pos := "law.go:79", after := #[{ on := 5, ground := Ground.data }, { on := 17, ground := Ground.data }], guard := none }) (v := ?va18) rfl (by kernel_rfl) (by kernel_rfl) (by kernel_rfl) (fun _ _ _ h => h) (Or.inl ⟨by rfl, ?ha18⟩) (by assumption) ?ra18
          case ha18 => (intro wz hSw; (try dsimp only at hSw); go_simp <;> with_reducible rfl)
          try simp only [Act.put, List.setIfInBounds_toArray, List.set_cons_zero, List.set_cons_succ]
          refine wpAnyH_take (i := 19) (oi := { dst := some 98, op := Op.move (Operand.tmp 97), type := 4, pos := "law.go:79", after := #[{ on := 18, ground := Ground.data }, { on := 14, ground := Ground.chain }], guard := none }) (v := ?va19) rfl (by kernel_rfl) (by kernel_rfl) (by kernel_rfl) (fun _ _ _ h => h) (Or.inl ⟨by rfl, ?ha19⟩) (by assumption) ?ra19
          case ha19 => (intro wz hSw; (try dsimp only at hSw); go_simp <;> with_reducible rfl)
          try simp only [Act.put, List.setIfInBounds_toArray, List.set_cons_zero, List.set_cons_succ]
          refine wpAnyH_take (i := 20) (oi := { dst := some 99, op := Op.move (Operand.tmp 12), type := 3, pos := "law.go:79", after := #[{ on := 19, ground := Ground.guard }], guard := some (19, false) }) (v := ?va20) rfl (by kernel_rfl) (by kernel_rfl) (by kernel_rfl) (fun _ _ _ h => h) (Or.inl ⟨by rfl, ?ha20⟩) (by assumption) ?ra20
          case ha20 => (intro wz hSw; (try dsimp only at hSw); go_simp <;> with_reducible rfl)
          try simp only [Act.put, List.setIfInBounds_toArray, List.set_cons_zero, List.set_cons_succ]
          refine wpAnyH_take (i := 21) (oi := { dst := some 100, op := Op.binOp BinOp.geq 3 (Operand.tmp 99) (Operand.const (Value.int IntKind.i64 0)) 3, type := 4, pos := "law.go:79", after := #[{ on := 20, ground := Ground.data }, { on := 19, ground := Ground.guard }], guard := some (19, false) }) (v := ?va21) rfl (by kernel_rfl) (by kernel_rfl) (by kernel_rfl) (fun _ _ _ h => h) (Or.inl ⟨by rfl, ?ha21⟩) (by assumption) ?ra21
          case ha21 => (intro wz hSw; (try dsimp only at hSw); go_simp <;> with_reducible rfl)
          try simp only [Act.put, List.setIfInBounds_toArray, List.set_cons_zero, List.set_cons_succ]
          refine wpAnyH_take (i := 22) (oi := { dst := some 101, op := Op.move (Operand.tmp 100), type := 4, pos := "law.go:79", after := #[{ on := 21, ground := Ground.data }, { on := 19, ground := Ground.chain }, { on := 19, ground := Ground.guard }], guard := some (19, false) }) (v := ?va22) rfl (by kernel_rfl) (by kernel_rfl) (by kernel_rfl) (fun _ _ _ h => h) (Or.inl ⟨by rfl, ?ha22⟩) (by assumption) ?ra22
          case ha22 => (intro wz hSw; (try dsimp only at hSw); go_simp <;> with_reducible rfl)
          try simp only [Act.put, List.setIfInBounds_toArray, List.set_cons_zero, List.set_cons_succ]
          refine wpAnyH_take (i := 23) (oi := { dst := some 102, op := Op.load 40 (Operand.tmp 10), type := 40, pos := "law.go:79", after := #[{ on := 22, ground := Ground.guard }], guard := some (22, true) }) (v := undef) rfl (by kernel_rfl) (by kernel_rfl) (by kernel_rfl) (fun _ _ _ h => h) (Or.inr ⟨by rfl, rfl⟩) (by assumption) ?_
          try simp only [Act.put, List.setIfInBounds_toArray, List.set_cons_zero, List.set_cons_succ]
          refine wpAnyH_take (i := 24) (oi := { dst := some 103, op := Op.move (Operand.tmp 7), type := 27, pos := "law.go:79", after := #[{ on := 22, ground := Ground.guard }], guard := some (22, true) }) (v := undef) rfl (by kernel_rfl) (by kernel_rfl) (by kernel_rfl) (fun _ _ _ h => h) (Or.inr ⟨by rfl, rfl⟩) (by assumption) ?_
          try simp only [Act.put, List.setIfInBounds_toArray, List.set_cons_zero, List.set_cons_succ]
          refine wpAnyH_take (i := 25) (oi := { dst := some 104, op := Op.nilCheck (Operand.tmp 103), type := 0, pos := "law.go:79", after := #[{ on := 24, ground := Ground.data }, { on := 22, ground := Ground.guard }], guard := some (22, true) }) (v := undef) rfl (by kernel_rfl) (by kernel_rfl) (by kernel_rfl) (fun _ _ _ h => h) (Or.inr ⟨by rfl, rfl⟩) (by assumption) ?_
          try simp only [Act.put, List.setIfInBounds_toArray, List.set_cons_zero, List.set_cons_succ]
          refine wpAnyH_take (i := 26) (oi := { dst := some 105, op := Op.fieldAddr 49 (Operand.tmp 104) 1, type := 0, pos := "law.go:79", after := #[{ on := 25, ground := Ground.data }, { on := 22, ground := Ground.guard }], guard := some (22, true) }) (v := undef) rfl (by kernel_rfl) (by kernel_rfl) (by kernel_rfl) (fun _ _ _ h => h) (Or.inr ⟨by rfl, rfl⟩) (by assumption) ?_
          try simp only [Act.put, List.setIfInBounds_toArray, List.set_cons_zero, List.set_cons_succ]
          refine wpAnyH_take (i := 27) (oi := { dst := some 106, op := Op.load 47 (Operand.tmp 105), type := 47, pos := "law.go:79", after := #[{ on := 26, ground := Ground.data }, { on := 22, ground := Ground.guard }], guard := some (22, true) }) (v := undef) rfl (by kernel_rfl) (by kernel_rfl) (by kernel_rfl) (fun _ _ _ h => h) (Or.inr ⟨by rfl, rfl⟩) (by assumption) ?_
          try simp only [Act.put, List.setIfInBounds_toArray, List.set_cons_zero, List.set_cons_succ]
          refine wpAnyH_take (i := 28) (oi := { dst := some 107, op := Op.move (Operand.tmp 12), type := 3, pos := "law.go:79", after := #[{ on := 22, ground := Ground.guard }], guard := some (22, true) }) (v := undef) rfl (by kernel_rfl) (by kernel_rfl) (by kernel_rfl) (fun _ _ _ h => h) (Or.inr ⟨by rfl, rfl⟩) (by assumption) ?_
          try simp only [Act.put, List.setIfInBounds_toArray, List.set_cons_zero, List.set_cons_succ]
          refine wpAnyH_take (i := 29) (oi := { dst := some 108, op := Op.indexAddr 47 (Operand.tmp 106) (Operand.tmp 107), type := 0, pos := "law.go:79", after := #[{ on := 27, ground := Ground.data }, { on := 28, ground := Ground.data }, { on := 22, ground := Ground.guard }], guard := some (22, true) }) (v := undef) rfl (by kernel_rfl) (by kernel_rfl) (by kernel_rfl) (fun _ _ _ h => h) (Or.inr ⟨by rfl, rfl⟩) (by assumption) ?_
          try simp only [Act.put, List.setIfInBounds_toArray, List.set_cons_zero, List.set_cons_succ]
          refine wpAnyH_take (i := 30) (oi := { dst := some 109, op := Op.load 46 (Operand.tmp 108), type := 46, pos := "law.go:79", after := #[{ on := 29, ground := Ground.data }, { on := 22, ground := Ground.guard }], guard := some (22, true) }) (v := undef) rfl (by kernel_rfl) (by kernel_rfl) (by kernel_rfl) (fun _ _ _ h => h) (Or.inr ⟨by rfl, rfl⟩) (by assumption) ?_
          try simp only [Act.put, List.setIfInBounds_toArray, List.set_cons_zero, List.set_cons_succ]
          refine wpAnyH_take (i := 31) (oi := { dst := some 110, op := Op.call { callee := Callee.value (Operand.func 18), args := #[Operand.tmp 102, Operand.tmp 109], argTypes := #[40, 46] }, type := 4, pos := "law.go:79", after := #[{ on := 23, ground := Ground.data }, { on := 30, ground := Ground.data }, { on := 22, ground := Ground.chain }, { on := 22, ground := Ground.guard }], guard := some (22, true) }) (v := undef) rfl (by kernel_rfl) (by kernel_rfl) (by kernel_rfl) (fun _ _ _ h => h) (Or.inr ⟨by rfl, rfl⟩) (by assumption) ?_
          try simp only [Act.put, List.setIfInBounds_toArray, List.set_cons_zero, List.set_cons_succ]
          refine wpAnyH_take (i := 32) (oi := { dst := some 111, op := Op.unOp UnOp.not 4 (Operand.tmp 110), type := 4, pos := "law.go:79", after := #[{ on := 31, ground := Ground.data }, { on := 22, ground := Ground.guard }], guard := some (22, true) }) (v := undef) rfl (by kernel_rfl) (by kernel_rfl) (by kernel_rfl) (fun _ _ _ h => h) (Or.inr ⟨by rfl, rfl⟩) (by assumption) ?_
          try simp only [Act.put, List.setIfInBounds_toArray, List.set_cons_zero, List.set_cons_succ]
          refine wpAnyH_take (i := 33) (oi := { dst := some 112, op := Op.pick (Operand.tmp 101) (Operand.tmp 111) (Operand.const (Value.bool false)), type := 4, pos := "law.go:79", after := #[{ on := 22, ground := Ground.data }, { on := 32, ground := Ground.data }, { on := 19, ground := Ground.guard }], guard := some (19, false) }) (v := ?va33) rfl (by kernel_rfl) (by kernel_rfl) (by kernel_rfl) (fun _ _ _ h => h) (Or.inl ⟨by rfl, ?ha33⟩) (by assumption) ?ra33
          case ha33 => (intro wz hSw; (try dsimp only at hSw); go_simp <;> with_reducible rfl)
          try simp only [Act.put, List.setIfInBounds_toArray, List.set_cons_zero, List.set_cons_succ]
          refine wpAnyH_take (i := 34) (oi := { dst := some 113, op := Op.pick (Operand.tmp 98) (Operand.const (Value.bool true)) (Operand.tmp 112), type := 4, pos := "law.go:79", after := #[{ on := 19, ground := Ground.data }, { on := 33, ground := Ground.data }], guard := none }) (v := ?va34) rfl (by kernel_rfl) (by kernel_rfl) (by kernel_rfl) (fun _ _ _ h => h) (Or.inl ⟨by rfl, ?ha34⟩) (by assumption) ?ra34
          case ha34 => (intro wz hSw; (try dsimp only at hSw); go_simp <;> with_reducible rfl)
          try simp only [Act.put, List.setIfInBounds_toArray, List.set_cons_zero, List.set_cons_succ]
          refine wpAnyH_done (by kernel_rfl) ?_ _
          go_wp2
          go_roundw
          case rel => exact ⟨k + 1, O3, X3, _, by omega, by omega, (P8.out.keep FS.out).sm ⟨rfl, rfl, rfl, rfl⟩, by go_num⟩
          case measure => simp [intOf]; omega
        | true =>
          rw [fd_yes eh] at T4
          have et : X3 (y1.toNat - 1) = t := by rw [← HT6.out]; unfold gtX; rw [eh]; rfl
          obtain ⟨i, hi, hyi, e2, ho⟩ := hs_some eh
          rw [e2] at T4 et
          obtain ⟨kk, hkk⟩ : ∃ kk, (lo O3 i).length = kk := ⟨_, rfl⟩
          rw [hkk] at T4
          have hkl := lo_lt hi ho
          rw [hkk] at hkl
          obtain ⟨av, cv, rfl⟩ := P8.out.r.shape
          have kb := P8.out.r.k1
          obtain ⟨g, rfl, -, hcp, -, cl⟩ := P8.out.r.at hkl
          rw [← hkk, dn_lo hi ho, hkk, et] at cl
          have hkl2 : (kk : Int) < (dn O3).length := by omega
          have hdl : ((dn O3).length : Int) ≤ 32 := by have := dn_le O3; omega
          obtain ⟨nn, hnn⟩ : ∃ nn, (i : Int) + 1 = nn := ⟨_, rfl⟩
          have SA : Hid (∀ w1 : World, Sm w1 u8 → Calls Tryd.prog 18 #[.agg #[.int .i64 t.prio, .int .u64 (t.mask : Int), .int .i64 t.cpu, .bool t.forced, .bool t.sleeps, .int .i64 t.timer], .agg #[.int .i64 nn, .int .i64 t.prio, .int .u64 (t.mask : Int), .int .i64 t.cpu, .bool t.forced, .bool t.sleeps, .int .i64 t.timer]] w1 fun e w' => e = .returned (.bool true) ∧ Below u8.heap.size u8 w') := fun w1 e => (same_any t nn w1).mono fun _ w2 ⟨r1, r2⟩ => ⟨r1, by have := e.from r2; rwa [e.1] at this⟩
          obtain ⟨gc0, gc1, gc2, gc3, gc4, gc5, gc6⟩ : u8.cell? ⟨g, kk * 7, none⟩ = some (.int .i64 nn) ∧ u8.cell? ⟨g, kk * 7 + 1, none⟩ = some (.int .i64 t.prio) ∧ u8.cell? ⟨g, kk * 7 + 2, none⟩ = some (.int .u64 (t.mask : Int)) ∧ u8.cell? ⟨g, kk * 7 + 3, none⟩ = some (.int .i64 t.cpu) ∧ u8.cell? ⟨g, kk * 7 + 4, none⟩ = some (.bool t.forced) ∧ u8.cell? ⟨g, kk * 7 + 5, none⟩ = some (.bool t.sleeps) ∧ u8.cell? ⟨g, kk * 7 + 6, none⟩ = some (.int .i64 t.timer) := ⟨by rw [← hnn]; exact cl 0 (by omega), cl 1 (by omega), cl 2 (by omega), cl 3 (by omega), cl 4 (by omega), cl 5 (by omega), cl 6 (by omega)⟩
          have ZK : Hid (∀ w1 : World, Below u8.heap.size u8 w1 → (w1.cell? ⟨z, 0, none⟩ = some (.int .i64 t.prio) ∧ w1.cell? ⟨z, 1, none⟩ = some (.int .u64 (t.mask : Int)) ∧ w1.cell? ⟨z, 2, none⟩ = some (.int .i64 t.cpu) ∧ w1.cell? ⟨z, 3, none⟩ = some (.bool t.forced) ∧ w1.cell? ⟨z, 4, none⟩ = some (.bool t.sleeps) ∧ w1.cell? ⟨z, 5, none⟩ = some (.int .i64 t.timer)) ∧ w1.cell? ⟨b, 1, none⟩ = some (.slice (some ⟨g, 0, none⟩) (dn O3).length cv) ∧ w1.cell? ⟨g, kk * 7, none⟩ = some (.int .i64 nn) ∧ w1.cell? ⟨g, kk * 7 + 1, none⟩ = some (.int .i64 t.prio) ∧ w1.cell? ⟨g, kk * 7 + 2, none⟩ = some (.int .u64 (t.mask : Int)) ∧ w1.cell? ⟨g, kk * 7 + 3, none⟩ = some (.int .i64 t.cpu) ∧ w1.cell? ⟨g, kk * 7 + 4, none⟩ = some (.bool t.forced) ∧ w1.cell? ⟨g, kk * 7 + 5, none⟩ = some (.bool t.sleeps) ∧ w1.cell? ⟨g, kk * 7 + 6, none⟩ = some (.int .i64 t.timer)) := fun w1 b1 => by
            have hzl : z < u8.heap.size := World.block_lt_of_cell? u8 ⟨z, 0, none⟩ zc0
            have hgl : g < u8.heap.size := World.block_lt_of_cell? u8 ⟨g, kk * 7, none⟩ gc0
            exact ⟨⟨(b1.cell (p := ⟨z, 0, none⟩) hzl).trans zc0, (b1.cell (p := ⟨z, 1, none⟩) hzl).trans zc1, (b1.cell (p := ⟨z, 2, none⟩) hzl).trans zc2, (b1.cell (p := ⟨z, 3, none⟩) hzl).trans zc3, (b1.cell (p := ⟨z, 4, none⟩) hzl).trans zc4, (b1.cell (p := ⟨z, 5, none⟩) hzl).trans zc5⟩, (P8.out.r.below b1).k1, (b1.cell (p := ⟨g, kk * 7, none⟩) hgl).trans gc0, (b1.cell (p := ⟨g, kk * 7 + 1, none⟩) hgl).trans gc1, (b1.cell (p := ⟨g, kk * 7 + 2, none⟩) hgl).trans gc2, (b1.cell (p := ⟨g, kk * 7 + 3, none⟩) hgl).trans gc3, (b1.cell (p := ⟨g, kk * 7 + 4, none⟩) hgl).trans gc4, (b1.cell (p := ⟨g, kk * 7 + 5, none⟩) hgl).trans gc5, (b1.cell (p := ⟨g, kk * 7 + 6, none⟩) hgl).trans gc6⟩
          have hk1 : decide ((kk : Int) < 0) = false := decide_eq_false (by omega)
          have hk3 : decide ((0 : Int) ≤ kk) = true := decide_eq_true (by omega)
          generalize (dn O3).length = dl at *
          clear eh e2 ho cl hnn hyi hkl hkk et
          go_wp2_with fail
          rw [HU8.out, HZ7.out]
          refine (T4.out ()).mono ?_
          rintro e u9 ⟨rfl, rfl⟩
          clear T4
          go_wp2_with fail
          refine wp_region_held_drew (S := fun w' => (w'.cell? ⟨z, 0, none⟩ = some (.int .i64 t.prio) ∧ w'.cell? ⟨z, 1, none⟩ = some (.int .u64 (t.mask : Int)) ∧ w'.cell? ⟨z, 2, none⟩ = some (.int .i64 t.cpu) ∧ w'.cell? ⟨z, 3, none⟩ = some (.bool t.forced) ∧ w'.cell? ⟨z, 4, none⟩ = some (.bool t.sleeps) ∧ w'.cell? ⟨z, 5, none⟩ = some (.int .i64 t.timer)) ∧ w'.cell? ⟨b, 1, none⟩ = some (.slice (some ⟨g, 0, none⟩) dl cv) ∧ w'.cell? ⟨g, kk * 7, none⟩ = some (.int .i64 nn) ∧ w'.cell? ⟨g, kk * 7 + 1, none⟩ = some (.int .i64 t.prio) ∧ w'.cell? ⟨g, kk * 7 + 2, none⟩ = some (.int .u64 (t.mask : Int)) ∧ w'.cell? ⟨g, kk * 7 + 3, none⟩ = some (.int .i64 t.cpu) ∧ w'.cell? ⟨g, kk * 7 + 4, none⟩ = some (.bool t.forced) ∧ w'.cell? ⟨g, kk * 7 + 5, none⟩ = some (.bool t.sleeps) ∧ w'.cell? ⟨g, kk * 7 + 6, none⟩ = some (.int .i64 t.timer)) (by kernel_rfl) (by go_keep) (fun hHeld => ?_)
          refine wpAnyH_take (i := 0) (oi := { dst := some 79, op := Op.move (Operand.tmp 11), type := 24, pos := "law.go:79", after := #[], guard := none }) (v := ?vb0) rfl (by kernel_rfl) (by kernel_rfl) (by kernel_rfl) (fun _ _ _ h => h) (Or.inl ⟨by rfl, ?hb0⟩) (by assumption) ?rb0
          case hb0 => (intro wz hSw; (try dsimp only at hSw); go_simp <;> with_reducible rfl)
          try simp only [Act.put, List.setIfInBounds_toArray, List.set_cons_zero, List.set_cons_succ]
          refine wpAnyH_take (i := 1) (oi := { dst := some 80, op := Op.binOp BinOp.eql 24 (Operand.tmp 79) (Operand.const (Value.int IntKind.i64 0)) 24, type := 4, pos := "law.go:79", after := #[{ on := 0, ground := Ground.data }], guard := none }) (v := ?vb1) rfl (by kernel_rfl) (by kernel_rfl) (by kernel_rfl) (fun _ _ _ h => h) (Or.inl ⟨by rfl, ?hb1⟩) (by assumption) ?rb1
          case hb1 => (intro wz hSw; (try dsimp only at hSw); go_simp <;> with_reducible rfl)
          try simp only [Act.put, List.setIfInBounds_toArray, List.set_cons_zero, List.set_cons_succ]
          refine wpAnyH_take (i := 2) (oi := { dst := some 81, op := Op.move (Operand.tmp 12), type := 3, pos := "law.go:79", after := #[], guard := none }) (v := ?vb2) rfl (by kernel_rfl) (by kernel_rfl) (by kernel_rfl) (fun _ _ _ h => h) (Or.inl ⟨by rfl, ?hb2⟩) (by assumption) ?rb2
          case hb2 => (intro wz hSw; (try dsimp only at hSw); go_simp <;> with_reducible rfl)
          try simp only [Act.put, List.setIfInBounds_toArray, List.set_cons_zero, List.set_cons_succ]
          refine wpAnyH_take (i := 3) (oi := { dst := some 82, op := Op.binOp BinOp.geq 3 (Operand.tmp 81) (Operand.const (Value.int IntKind.i64 0)) 3, type := 4, pos := "law.go:79", after := #[{ on := 2, ground := Ground.data }], guard := none }) (v := ?vb3) rfl (by kernel_rfl) (by kernel_rfl) (by kernel_rfl) (fun _ _ _ h => h) (Or.inl ⟨by rfl, ?hb3⟩) (by assumption) ?rb3
          case hb3 => (intro wz hSw; (try dsimp only at hSw); go_simp <;> with_reducible rfl)
          try simp only [Act.put, List.setIfInBounds_toArray, List.set_cons_zero, List.set_cons_succ]
          refine wpAnyH_take (i := 4) (oi := { dst := some 83, op := Op.binOp BinOp.neq 4 (Operand.tmp 80) (Operand.tmp 82) 4, type := 4, pos := "law.go:79", after := #[{ on := 1, ground := Ground.data }, { on := 3, ground := Ground.data }], guard := none }) (v := ?vb4) rfl (by kernel_rfl) (by kernel_rfl) (by kernel_rfl) (fun _ _ _ h => h) (Or.inl ⟨by rfl, ?hb4⟩) (by assumption) ?rb4
          case hb4 => (intro wz hSw; (try dsimp only at hSw); go_simp <;> with_reducible rfl)
          try simp only [Act.put, List.setIfInBounds_toArray, List.set_cons_zero, List.set_cons_succ]
          refine wpAnyH_take (i := 5) (oi := { dst := some 84, op := Op.move (Operand.tmp 83), type := 4, pos := "law.go:79", after := #[{ on := 4, ground := Ground.data }], guard := none }) (v := ?vb5) rfl (by kernel_rfl) (by kernel_rfl) (by kernel_rfl) (fun _ _ _ h => h) (Or.inl ⟨by rfl, ?hb5⟩) (by assumption) ?rb5
          case hb5 => (intro wz hSw; (try dsimp only at hSw); go_simp <;> with_reducible rfl)
          try simp only [Act.put, List.setIfInBounds_toArray, List.set_cons_zero, List.set_cons_succ]
          refine wpAnyH_take (i := 6) (oi := { dst := some 85, op := Op.move (Operand.tmp 12), type := 3, pos := "law.go:79", after := #[{ on := 5, ground := Ground.guard }], guard := some (5, false) }) (v := ?vb6) rfl (by kernel_rfl) (by kernel_rfl) (by kernel_rfl) (fun _ _ _ h => h) (Or.inl ⟨by rfl, ?hb6⟩) (by assumption) ?rb6
          case hb6 => (intro wz hSw; (try dsimp only at hSw); go_simp <;> with_reducible rfl)
          try simp only [Act.put, List.setIfInBounds_toArray, List.set_cons_zero, List.set_cons_succ]
          refine wpAnyH_take (i := 7) (oi := { dst := some 86, op := Op.binOp BinOp.lss 3 (Operand.tmp 85) (Operand.const (Value.int IntKind.i64 0)) 3, type := 4, pos := "law.go:79", after := #[{ on := 6, ground := Ground.data }, { on := 5, ground := Ground.guard }], guard := some (5, false) }) (v := ?vb7) rfl (by kernel_rfl) (by kernel_rfl) (by kernel_rfl) (fun _ _ _ h => h) (Or.inl ⟨by rfl, ?hb7⟩) (by assumption) ?rb7
          case hb7 => (intro wz hSw; (try dsimp only at hSw); go_simp <;> with_reducible rfl)
          try simp only [Act.put, List.setIfInBounds_toArray, List.set_cons_zero, List.set_cons_succ]
          refine wpAnyH_take (i := 8) (oi := { dst := some 87, op := Op.move (Operand.tmp 86), type := 4, pos := "law.go:79", after := #[{ on := 7, ground := Ground.data }, { on := 5, ground := Ground.chain }, { on := 5, ground := Ground.guard }], guard := some (5, false) }) (v := ?vb8) rfl (by kernel_rfl) (by kernel_rfl) (by kernel_rfl) (fun _ _ _ h => h) (Or.inl ⟨by rfl, ?hb8⟩) (by assumption) ?rb8
          case hb8 => (intro wz hSw; (try dsimp only at hSw); go_simp <;> with_reducible rfl)
          try simp only [Act.put, List.setIfInBounds_toArray, List.set_cons_zero, List.set_cons_succ]
          refine wpAnyH_take (i := 9) (oi := { dst := some 88, op := Op.move (Operand.tmp 11), type := 24, pos := "law.go:79", after := #[{ on := 8, ground := Ground.guard }], guard := some (8, true) }) (v := undef) rfl (by kernel_rfl) (by kernel_rfl) (by kernel_rfl) (fun _ _ _ h => h) (Or.inr ⟨by rfl, rfl⟩) (by assumption) ?_
          try simp only [Act.put, List.setIfInBounds_toArray, List.set_cons_zero, List.set_cons_succ]
          refine wpAnyH_take (i := 10) (oi := { dst := some 89, op := Op.binOp BinOp.neq 24 (Operand.tmp 88) (Operand.const (Value.int IntKind.i64 4)) 24, type := 4, pos := "law.go:79", after := #[{ on := 9, ground := Ground.data }, { on := 8, ground := Ground.guard }], guard := some (8, true) }) (v := undef) rfl (by kernel_rfl) (by kernel_rfl) (by kernel_rfl) (fun _ _ _ h => h) (Or.inr ⟨by rfl, rfl⟩) (by assumption) ?_
          try simp only [Act.put, List.setIfInBounds_toArray, List.set_cons_zero, List.set_cons_succ]
          refine wpAnyH_take (i := 11) (oi := { dst := some 90, op := Op.move (Operand.tmp 89), type := 4, pos := "law.go:79", after := #[{ on := 10, ground := Ground.data }, { on := 8, ground := Ground.chain }, { on := 8, ground := Ground.guard }], guard := some (8, true) }) (v := undef) rfl (by kernel_rfl) (by kernel_rfl) (by kernel_rfl) (fun _ _ _ h => h) (Or.inr ⟨by rfl, rfl⟩) (by assumption) ?_
          try simp only [Act.put, List.setIfInBounds_toArray, List.set_cons_zero, List.set_cons_succ]
          refine wpAnyH_take (i := 12) (oi := { dst := some 91, op := Op.load 40 (Operand.tmp 10), type := 40, pos := "law.go:79", after := #[{ on := 11, ground := Ground.guard }], guard := some (11, false) }) (v := undef) rfl (by kernel_rfl) (by kernel_rfl) (by kernel_rfl) (fun _ _ _ h => h) (Or.inr ⟨by rfl, rfl⟩) (by assumption) ?_
          try simp only [Act.put, List.setIfInBounds_toArray, List.set_cons_zero, List.set_cons_succ]
          refine wpAnyH_take (i := 13) (oi := { dst := some 92, op := Op.build 46 #[], type := 46, pos := "law.go:79", after := #[{ on := 11, ground := Ground.guard }], guard := some (11, false) }) (v := undef) rfl (by kernel_rfl) (by kernel_rfl) (by kernel_rfl) (fun _ _ _ h => h) (Or.inr ⟨by rfl, rfl⟩) (by assumption) ?_
          try simp only [Act.put, List.setIfInBounds_toArray, List.set_cons_zero, List.set_cons_succ]
          refine wpAnyH_take (i := 14) (oi := { dst := some 93, op := Op.call { callee := Callee.value (Operand.func 18), args := #[Operand.tmp 91, Operand.tmp 92], argTypes := #[40, 46] }, type := 4, pos := "law.go:79", after := #[{ on := 12, ground := Ground.data }, { on := 13, ground := Ground.data }, { on := 11, ground := Ground.chain }, { on := 11, ground := Ground.guard }], guard := some (11, false) }) (v := undef) rfl (by kernel_rfl) (by kernel_rfl) (by kernel_rfl) (fun _ _ _ h => h) (Or.inr ⟨by rfl, rfl⟩) (by assumption) ?_
          try simp only [Act.put, List.setIfInBounds_toArray, List.set_cons_zero, List.set_cons_succ]
          refine wpAnyH_take (i := 15) (oi := { dst := some 94, op := Op.unOp UnOp.not 4 (Operand.tmp 93), type := 4, pos := "law.go:79", after := #[{ on := 14, ground := Ground.data }, { on := 11, ground := Ground.guard }], guard := some (11, false) }) (v := undef) rfl (by kernel_rfl) (by kernel_rfl) (by kernel_rfl) (fun _ _ _ h => h) (Or.inr ⟨by rfl, rfl⟩) (by assumption) ?_
          try simp only [Act.put, List.setIfInBounds_toArray, List.set_cons_zero, List.set_cons_succ]
          refine wpAnyH_take (i := 16) (oi := { dst := some 95, op := Op.pick (Operand.tmp 90) (Operand.const (Value.bool true)) (Operand.tmp 94), type := 4, pos := "law.go:79", after := #[{ on := 11, ground := Ground.data }, { on := 15, ground := Ground.data }, { on := 8, ground := Ground.guard }], guard := some (8, true) }) (v := undef) rfl (by kernel_rfl) (by kernel_rfl) (by kernel_rfl) (fun _ _ _ h => h) (Or.inr ⟨by rfl, rfl⟩) (by assumption) ?_
          try simp only [Act.put, List.setIfInBounds_toArray, List.set_cons_zero, List.set_cons_succ]
          refine wpAnyH_take (i := 17) (oi := { dst := some 96, op := Op.pick (Operand.tmp 87) (Operand.tmp 95) (Operand.const (Value.bool false)), type := 4, pos := "law.go:79", after := #[{ on := 8, ground := Ground.data }, { on := 16, ground := Ground.data }, { on := 5, ground := Ground.guard }], guard := some (5, false) }) (v := ?vb17) rfl (by kernel_rfl) (by kernel_rfl) (by kernel_rfl) (fun _ _ _ h => h) (Or.inl ⟨by rfl, ?hb17⟩) (by assumption) ?rb17
          case hb17 => (intro wz hSw; (try dsimp only at hSw); go_simp <;> with_reducible rfl)
          try simp only [Act.put, List.setIfInBounds_toArray, List.set_cons_zero, List.set_cons_succ]
          refine wpAnyH_take (i := 18) (oi := { dst := some 97, op := Op.pick (Operand.tmp 84) (Operand.const (Value.bool true)) (Operand.tmp 96), type := 4, pos := "law.go:79", after := #[{ on := 5, ground := Ground.data }, { on := 17, ground := Ground.data }], guard := none }) (v := ?vb18) rfl (by kernel_rfl) (by kernel_rfl) (by kernel_rfl) (fun _ _ _ h => h) (Or.inl ⟨by rfl, ?hb18⟩) (by assumption) ?rb18
          case hb18 => (intro wz hSw; (try dsimp only at hSw); go_simp <;> with_reducible rfl)
          try simp only [Act.put, List.setIfInBounds_toArray, List.set_cons_zero, List.set_cons_succ]
          refine wpAnyH_take (i := 19) (oi := { dst := some 98, op := Op.move (Operand.tmp 97), type := 4, pos := "law.go:79", after := #[{ on := 18, ground := Ground.data }, { on := 14, ground := Ground.chain }], guard := none }) (v := ?vb19) rfl (by kernel_rfl) (by kernel_rfl) (by kernel_rfl) (fun _ _ _ h => h) (Or.inl ⟨by rfl, ?hb19⟩) (by assumption) ?rb19
          case hb19 => (intro wz hSw; (try dsimp only at hSw); go_simp <;> with_reducible rfl)
          try simp only [Act.put, List.setIfInBounds_toArray, List.set_cons_zero, List.set_cons_succ]
          refine wpAnyH_take (i := 20) (oi := { dst := some 99, op := Op.move (Operand.tmp 12), type := 3, pos := "law.go:79", after := #[{ on := 19, ground := Ground.guard }], guard := some (19, false) }) (v := ?vb20) rfl (by kernel_rfl) (by kernel_rfl) (by kernel_rfl) (fun _ _ _ h => h) (Or.inl ⟨by rfl, ?hb20⟩) (by assumption) ?rb20
          case hb20 => (intro wz hSw; (try dsimp only at hSw); go_simp <;> with_reducible rfl)
          try simp only [Act.put, List.setIfInBounds_toArray, List.set_cons_zero, List.set_cons_succ]
          refine wpAnyH_take (i := 21) (oi := { dst := some 100, op := Op.binOp BinOp.geq 3 (Operand.tmp 99) (Operand.const (Value.int IntKind.i64 0)) 3, type := 4, pos := "law.go:79", after := #[{ on := 20, ground := Ground.data }, { on := 19, ground := Ground.guard }], guard := some (19, false) }) (v := ?vb21) rfl (by kernel_rfl) (by kernel_rfl) (by kernel_rfl) (fun _ _ _ h => h) (Or.inl ⟨by rfl, ?hb21⟩) (by assumption) ?rb21
          case hb21 => (intro wz hSw; (try dsimp only at hSw); go_simp <;> with_reducible rfl)
          try simp only [Act.put, List.setIfInBounds_toArray, List.set_cons_zero, List.set_cons_succ]
          refine wpAnyH_take (i := 22) (oi := { dst := some 101, op := Op.move (Operand.tmp 100), type := 4, pos := "law.go:79", after := #[{ on := 21, ground := Ground.data }, { on := 19, ground := Ground.chain }, { on := 19, ground := Ground.guard }], guard := some (19, false) }) (v := ?vb22) rfl (by kernel_rfl) (by kernel_rfl) (by kernel_rfl) (fun _ _ _ h => h) (Or.inl ⟨by rfl, ?hb22⟩) (by assumption) ?rb22
          case hb22 => (intro wz hSw; (try dsimp only at hSw); go_simp <;> with_reducible rfl)
          try simp only [Act.put, List.setIfInBounds_toArray, List.set_cons_zero, List.set_cons_succ]
          refine wpAnyH_take (i := 23) (oi := { dst := some 102, op := Op.load 40 (Operand.tmp 10), type := 40, pos := "law.go:79", after := #[{ on := 22, ground := Ground.guard }], guard := some (22, true) }) (v := ?vb23) rfl (by kernel_rfl) (by kernel_rfl) (by kernel_rfl) (fun _ _ _ h => h) (Or.inl ⟨by rfl, ?hb23⟩) (by assumption) ?rb23
          case hb23 => (intro wz hSw; (try dsimp only at hSw); go_simp <;> with_reducible rfl)
          try simp only [Act.put, List.setIfInBounds_toArray, List.set_cons_zero, List.set_cons_succ]
          refine wpAnyH_take (i := 24) (oi := { dst := some 103, op := Op.move (Operand.tmp 7), type := 27, pos := "law.go:79", after := #[{ on := 22, ground := Ground.guard }], guard := some (22, true) }) (v := ?vb24) rfl (by kernel_rfl) (by kernel_rfl) (by kernel_rfl) (fun _ _ _ h => h) (Or.inl ⟨by rfl, ?hb24⟩) (by assumption) ?rb24
          case hb24 => (intro wz hSw; (try dsimp only at hSw); go_simp <;> with_reducible rfl)
          try simp only [Act.put, List.setIfInBounds_toArray, List.set_cons_zero, List.set_cons_succ]
          refine wpAnyH_take (i := 25) (oi := { dst := some 104, op := Op.nilCheck (Operand.tmp 103), type := 0, pos := "law.go:79", after := #[{ on := 24, ground := Ground.data }, { on := 22, ground := Ground.guard }], guard := some (22, true) }) (v := ?vb25) rfl (by kernel_rfl) (by kernel_rfl) (by kernel_rfl) (fun _ _ _ h => h) (Or.inl ⟨by rfl, ?hb25⟩) (by assumption) ?rb25
          case hb25 => (intro wz hSw; (try dsimp only at hSw); go_simp <;> with_reducible rfl)
          try simp only [Act.put, List.setIfInBounds_toArray, List.set_cons_zero, List.set_cons_succ]
          refine wpAnyH_take (i := 26) (oi := { dst := some 105, op := Op.fieldAddr 49 (Operand.tmp 104) 1, type := 0, pos := "law.go:79", after := #[{ on := 25, ground := Ground.data }, { on := 22, ground := Ground.guard }], guard := some (22, true) }) (v := ?vb26) rfl (by kernel_rfl) (by kernel_rfl) (by kernel_rfl) (fun _ _ _ h => h) (Or.inl ⟨by rfl, ?hb26⟩) (by assumption) ?rb26
          case hb26 => (intro wz hSw; (try dsimp only at hSw); go_simp <;> with_reducible rfl)
          try simp only [Act.put, List.setIfInBounds_toArray, List.set_cons_zero, List.set_cons_succ]
          refine wpAnyH_take (i := 27) (oi := { dst := some 106, op := Op.load 47 (Operand.tmp 105), type := 47, pos := "law.go:79", after := #[{ on := 26, ground := Ground.data }, { on := 22, ground := Ground.guard }], guard := some (22, true) }) (v := ?vb27) rfl (by kernel_rfl) (by kernel_rfl) (by kernel_rfl) (fun _ _ _ h => h) (Or.inl ⟨by rfl, ?hb27⟩) (by assumption) ?rb27
          case hb27 => (intro wz hSw; (try dsimp only at hSw); go_simp <;> with_reducible rfl)
          try simp only [Act.put, List.setIfInBounds_toArray, List.set_cons_zero, List.set_cons_succ]
          refine wpAnyH_take (i := 28) (oi := { dst := some 107, op := Op.move (Operand.tmp 12), type := 3, pos := "law.go:79", after := #[{ on := 22, ground := Ground.guard }], guard := some (22, true) }) (v := ?vb28) rfl (by kernel_rfl) (by kernel_rfl) (by kernel_rfl) (fun _ _ _ h => h) (Or.inl ⟨by rfl, ?hb28⟩) (by assumption) ?rb28
          case hb28 => (intro wz hSw; (try dsimp only at hSw); go_simp <;> with_reducible rfl)
          try simp only [Act.put, List.setIfInBounds_toArray, List.set_cons_zero, List.set_cons_succ]
          refine wpAnyH_take (i := 29) (oi := { dst := some 108, op := Op.indexAddr 47 (Operand.tmp 106) (Operand.tmp 107), type := 0, pos := "law.go:79", after := #[{ on := 27, ground := Ground.data }, { on := 28, ground := Ground.data }, { on := 22, ground := Ground.guard }], guard := some (22, true) }) (v := ?vb29) rfl (by kernel_rfl) (by kernel_rfl) (by kernel_rfl) (fun _ _ _ h => h) (Or.inl ⟨by rfl, ?hb29⟩) (by assumption) ?rb29
          case hb29 => (intro wz hSw; (try dsimp only at hSw); go_simp <;> with_reducible rfl)
          try simp only [Act.put, List.setIfInBounds_toArray, List.set_cons_zero, List.set_cons_succ]
          refine wpAnyH_take (i := 30) (oi := { dst := some 109, op := Op.load 46 (Operand.tmp 108), type := 46, pos := "law.go:79", after := #[{ on := 29, ground := Ground.data }, { on := 22, ground := Ground.guard }], guard := some (22, true) }) (v := ?vb30) rfl (by kernel_rfl) (by kernel_rfl) (by kernel_rfl) (fun _ _ _ h => h) (Or.inl ⟨by rfl, ?hb30⟩) (by assumption) ?rb30
          case hb30 => (intro wz hSw; (try dsimp only at hSw); go_simp <;> with_reducible rfl)
          try simp only [Act.put, List.setIfInBounds_toArray, List.set_cons_zero, List.set_cons_succ]
          refine wpAnyH_ready (rs := [31]) (by kernel_rfl) (by simp) ?_
          refine AllReadyH.cons (o := { dst := some 110, op := Op.call { callee := Callee.value (Operand.func 18), args := #[Operand.tmp 102, Operand.tmp 109], argTypes := #[40, 46] }, type := 4, pos := "law.go:79", after := #[{ on := 23, ground := Ground.data }, { on := 30, ground := Ground.data }, { on := 22, ground := Ground.chain }, { on := 22, ground := Ground.guard }], guard := some (22, true) }) rfl (fun K hK => ?_) AllReadyH.nil
          go_simp
          refine (SA.out _ ?_).mono ?_
          · exact ⟨rfl, rfl, rfl, rfl⟩
          rintro e ua ⟨rfl, fa⟩
          obtain ⟨⟨ya0, ya1, ya2, ya3, ya4, ya5⟩, yb, yg0, yg1, yg2, yg3, yg4, yg5, yg6⟩ := ZK.out ua fa
          have FS : Hid (Below _ _ ua) := fa
          clear fa
          (try go_wp2_with fail)
          refine hK.out _ _ ?sb31 (fun hHeld => ?tb31)
          case sb31 => go_keep
          clear hK K
          try simp only [Act.put, List.setIfInBounds_toArray, List.set_cons_zero, List.set_cons_succ]
          refine wpAnyH_take (i := 32) (oi := { dst := some 111, op := Op.unOp UnOp.not 4 (Operand.tmp 110), type := 4, pos := "law.go:79", after := #[{ on := 31, ground := Ground.data }, { on := 22, ground := Ground.guard }], guard := some (22, true) }) (v := ?vb32) rfl (by kernel_rfl) (by kernel_rfl) (by kernel_rfl) (fun _ _ _ h => h) (Or.inl ⟨by rfl, ?hb32⟩) (by assumption) ?rb32
          case hb32 => (intro wz hSw; (try dsimp only at hSw); go_simp <;> with_reducible rfl)
          try simp only [Act.put, List.setIfInBounds_toArray, List.set_cons_zero, List.set_cons_succ]
          refine wpAnyH_take (i := 33) (oi := { dst := some 112, op := Op.pick (Operand.tmp 101) (Operand.tmp 111) (Operand.const (Value.bool false)), type := 4, pos := "law.go:79", after := #[{ on := 22, ground := Ground.data }, { on := 32, ground := Ground.data }, { on := 19, ground := Ground.guard }], guard := some (19, false) }) (v := ?vb33) rfl (by kernel_rfl) (by kernel_rfl) (by kernel_rfl) (fun _ _ _ h => h) (Or.inl ⟨by rfl, ?hb33⟩) (by assumption) ?rb33
          case hb33 => (intro wz hSw; (try dsimp only at hSw); go_simp <;> with_reducible rfl)
          try simp only [Act.put, List.setIfInBounds_toArray, List.set_cons_zero, List.set_cons_succ]
          refine wpAnyH_take (i := 34) (oi := { dst := some 113, op := Op.pick (Operand.tmp 98) (Operand.const (Value.bool true)) (Operand.tmp 112), type := 4, pos := "law.go:79", after := #[{ on := 19, ground := Ground.data }, { on := 33, ground := Ground.data }], guard := none }) (v := ?vb34) rfl (by kernel_rfl) (by kernel_rfl) (by kernel_rfl) (fun _ _ _ h => h) (Or.inl ⟨by rfl, ?hb34⟩) (by assumption) ?rb34
          case hb34 => (intro wz hSw; (try dsimp only at hSw); go_simp <;> with_reducible rfl)
          try simp only [Act.put, List.setIfInBounds_toArray, List.set_cons_zero, List.set_cons_succ]
          refine wpAnyH_done (by kernel_rfl) ?_ _
          go_wp2
          go_roundw
          case rel => exact ⟨k + 1, O3, X3, _, by omega, by omega, (P8.out.keep FS.out).sm ⟨rfl, rfl, rfl, rfl⟩, by go_num⟩
          case measure => simp [intOf]; omega

set_option maxRecDepth 100000 in
theorem lifted (os : Os) (started : os.Started) (H : Type) (enc : TypeId × Value → H) :
    ReturnsInHanded {} Tryd.checked os 3 .any (fun w args => (Rows.threadPlaysSpec.pre enc Tryd.prog Tryd.f3 [] false w args ∧ laidMetH Tryd.prog laidTab w) ∧ sizedMet enc Tryd.prog Tryd.f3 (OpenSpec.ofChange Rows.threadPlaysSpec) false w args)
      (Rows.threadPlaysSpec.post enc Tryd.prog Tryd.f3 false true false false) := by
  refine returnsInHanded_of_change_and (C := Tryd.checked) (X := fun w _ => laidMetH Tryd.prog laidTab w) (fun _ _ _ hh h => h.of_heap hh) own started (by kernel_rfl) Tryd.func3
    (ChangeSpec.witness_shaped (enc := enc) (C := Tryd.checked) (os := os) (X := fun w _ => laidMetH Tryd.prog laidTab w) false (World.doorLaid Tryd.prog 400 os) #[.int .i64 0, .slice none 0 0] 8 rfl (World.shaped_of_RefB (by kernel_rfl) (by kernel_rfl)) (by kernel_rfl) (by kernel_rfl) (by kernel_rfl) (door_met os _)) ?_
  intro W base args ds gs before hval0 hW _ _ hL _
  have hval : ∀ (j : Nat) t v, Tryd.f3.params[j]? = some t → args[j]? = some v → Value.okWide Tryd.prog W .any base t v := hval0
  have hW' := hW
  obtain ⟨p, q, hA0, hV, rfl, hfz, hnd⟩ := hW
  have hA : DataW.TrodAll enc Tryd.prog W 0 (fun _ => true) true Tryd.f3.params.toList args.toList ds p := hA0
  rw [Tryd.params3] at hA hval
  obtain ⟨v0, vs0, d0, ds0, p0, q0, hargs, rfl, rfl, h0, r0⟩ := trodAll_cons hA
  obtain ⟨v1, vs1, d1, ds1, p1, q1, rfl, rfl, rfl, h1, r1⟩ := trodAll_cons r0
  obtain ⟨rfl, rfl, rfl⟩ := trodAll_nil r1
  obtain rfl : args = #[v0, v1] := by cases args; simp_all
  obtain ⟨rfl, rfl⟩ := trodVars_none hV
  obtain ⟨a0, rfl, rfl, rfl, w0⟩ := open_int Tryd.underlying3 (hval 0 3 v0 rfl rfl) h0
  obtain ⟨a1, len1, cap1, rfl⟩ := okWide_slice Tryd.underlying22 (hval 1 22 v1 rfl rfl)
  have k1 := h1
  have lt1 : ∀ x ∈ p1, x.block < W.heap.size := by obtain ⟨m, hm⟩ := k1; exact DataW.trod_lt m _ _ _ hm
  obtain ⟨X1, w1, z1⟩ : ∃ X : Nat → Nat → Int, TRow W (.slice a1 len1 cap1) len1 [1, 1, 1, 2, 1, 0] X ∧ ∀ i, i < len1 → ∀ j, j < [1, 1, 1, 2, 1, 0].length → kwf ([1, 1, 1, 2, 1, 0].getD j 1) (X i j) := by
    obtain ⟨fuel, hf⟩ := h1
    exact open_recx [1, 1, 1, 2, 1, 0] Tryd.underlying22 Tryd.underlying34 (by kernel_rfl) rfl (by decide) (fun | 0, _ => ⟨_, rfl, rfl, by kernel_rfl, Tryd.underlying3⟩ | 1, _ => ⟨_, rfl, rfl, by kernel_rfl, Tryd.underlying3⟩ | 2, _ => ⟨_, rfl, rfl, by kernel_rfl, Tryd.underlying3⟩ | 3, _ => ⟨_, rfl, rfl, by kernel_rfl, Tryd.underlying32⟩ | 4, _ => ⟨_, rfl, rfl, by kernel_rfl, Tryd.underlying3⟩ | 5, _ => ⟨_, rfl, rfl, by kernel_rfl, Tryd.underlying4⟩ | n + 6, h => absurd h (by simp only [List.length]; omega)) hf
  obtain ⟨hT, hS⟩ := of_laid hL
  clear hA0 hval0
  refine (walk a0 a1 len1 cap1 X1 W w0 w1 z1 hT hS).mono fun e W' ⟨he, bel⟩ => ?_
  subst he
  exact ⟨_, rfl, _, _, _, [], _, [], hW', trodAll_mk1 (shut_bool Tryd.underlying4 _), (trodAll_cons_mk (shut_int Tryd.underlying3 w0) (trodAll_cons_mk (Below.trod laidOut (by kernel_rfl) (of_decide_eq_true (by kernel_rfl)) k1 bel lt1) trodAll_mk0)), rfl, bel.frame _, fun h => by cases h⟩

theorem over : Rows.ThreadPlaysSaid :=
  OpenClaim.holds_of_wide 3 Tryd.f3 rfl rfl rfl rfl rfl rfl rfl ⟨rfl, rfl, rfl, rfl, rfl⟩ rfl rfl rfl rfl rfl (by kernel_rfl) Tryd.func3 (by kernel_rfl)
    (of_decide_eq_true (by kernel_rfl)) (by unfold Func.isWrapper; first | (rw [if_pos (by decide +kernel)]; kernel_rfl) | (rw [if_neg (by decide +kernel)]; exact ⟨rfl, rfl⟩))
    (fun os started H enc _ => lifted os started H enc)
end Go.Proofs.YtghnpmkibnggeaaDoor.threadPlays

namespace Go.Proofs.YtghnpmkibnggeaaDoor
open Go
theorem threadPlays_card : Rows.ThreadPlaysCardSaid :=
  Claim7.holds_tied_plain_at .later [] [.data] true (true, "80b54aa34c40d67ba7f3d0bdc9eb09b27652aeb5d06e49ed2193b15d49b868c6") false
    threadPlays.over (fun _ h => by cases h) (by kernel_rfl) (fun _ h => by cases h) threadPlays_row_tie rfl ⟨rfl, rfl⟩ (by kernel_rfl) rfl
    (fun f fn hf hfn => by
      obtain rfl : f = 3 := Option.some.inj ((show Tryd.prog.funcNamed "davit/davitlaw11.ThreadPlays" = some 3 by kernel_rfl).symm.trans hf) |>.symm
      obtain rfl : fn = Tryd.f3 := (Option.some.inj (Tryd.func3.symm.trans hfn)).symm
      exact ⟨by kernel_rfl, fun j t ht => by
        rw [Tryd.params3] at ht
        have hm : t ∈ [3, 22] := by simpa using Array.mem_of_getElem? ht
        have hall : ([3, 22].all fun u => !Tryd.prog.wantsStandIn u) = true := by kernel_rfl
        exact (show Tryd.prog.wantsStandIn t = false by simpa using List.all_eq_true.1 hall t hm)⟩)
    (by kernel_rfl)
#print axioms threadPlays_card
end Go.Proofs.YtghnpmkibnggeaaDoor
