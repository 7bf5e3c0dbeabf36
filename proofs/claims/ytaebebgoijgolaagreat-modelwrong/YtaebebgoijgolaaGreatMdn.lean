/- What must come of fixed calls (law 29). -/
import Derived.Test.YtaebebgoijgolaaGreatRows
import Derived.Test.YtaebebgoijgolaaGreatMdm
import Derived.WalkKit
import Derived.ProofKit
import Derived.OpenShut
import Derived.BigQuiet
import Derived.Laws.EntriesVeiled
import Derived.WalkSmall
namespace Go.Proofs.YtaebebgoijgolaaGreat
open Go.ChangeShapes Go.WideShapes Go.ChangeAt Go.RowKit
set_option linter.unusedVariables false
set_option linter.unusedSimpArgs false
set_option maxRecDepth 100000

/-- A state in a box, and a record in one behind it. -/
structure K2 (w u u1 : World) (cs ds : List Value) : Prop where
  b0 : Blk u1 u.heap.size cs 32
  b1 : Blk u1 (u.heap.size + 1) ds 40
  be : Below u.heap.size u u1
  bw : Below w.heap.size w u1
theorem k2_is (w u : World) (h : Below w.heap.size w u) (cs ds : List Value) : K2 w u ((u.alloc (.cells cs.toArray 32)).alloc (.cells ds.toArray 40)) cs ds := by
  have e1 : (u.alloc (.cells cs.toArray 32)).heap.size = u.heap.size + 1 := World.size_alloc _ _
  have b : Below u.heap.size u ((u.alloc (.cells cs.toArray 32)).alloc (.cells ds.toArray 40)) := ((Below.refl _ _).alloc (Nat.le_refl _) _).alloc (by rw [e1]; omega) _
  refine ⟨(Blk.new u cs _).alloc _, ?_, b, h.trans (b.mono h.size)⟩
  have := Blk.new (u.alloc (.cells cs.toArray 32)) ds 40
  rwa [e1] at this

set_option maxHeartbeats 4000000 in
theorem known_yes (w : World) : Calls Tryz.prog 4 #[] w fun e w' => e = .returned (.bool true) ∧ Below w.heap.size w w' := by
  have C1 : Hid (∀ _ : Unit, _) := fun _ => new2 w
  unfold sc at C1
  go_enter Tryz.func4, Tryz.ntmps4
  go_wp2_with fail
  refine (C1.out ()).mono ?_
  rintro e u1 ⟨r, rfl, b1, s1⟩
  obtain ⟨ra, rcap, rfl⟩ := s1.shape
  have I1 := k2_is w u1 b1 (sc 2 3 (.slice none 0 0) (.slice ra 2 rcap)) (rc 1 0 1 0 0)
  have C2 : Hid (∀ _ : Unit, _) := fun _ => next_queue _ (u1.heap.size + 1) (.slice ra 2 rcap) (s1.below I1.be) I1.b1
  have J1 : Hid (K2 w u1 ((u1.alloc (.cells #[.int .i64 2, .int .u64 3, .int .i64 0, .slice none 0 0, .slice none 0 0, .slice none 0 0, .slice none 0 0, .slice none 0 0, .slice none 0 0, .bool false, .bool false, .int .i64 0, .slice ra 2 rcap] 32)).alloc (.cells #[.int .i64 1, .int .i64 0, .int .i64 1, .int .i64 0, .int .i64 0] 40)) _ _ ∧ SL ((u1.alloc (.cells #[.int .i64 2, .int .u64 3, .int .i64 0, .slice none 0 0, .slice none 0 0, .slice none 0 0, .slice none 0 0, .slice none 0 0, .slice none 0 0, .bool false, .bool false, .int .i64 0, .slice ra 2 rcap] 32)).alloc (.cells #[.int .i64 1, .int .i64 0, .int .i64 1, .int .i64 0, .int .i64 0] 40)) (.slice ra 2 rcap) [0, 0]) := ⟨I1, s1.below I1.be⟩
  unfold sc ev rc at C2
  clear I1 s1 C1 b1
  go_wp2_with fail
  refine (C2.out ()).mono ?_
  clear C2
  generalize (u1.alloc (.cells #[.int .i64 2, .int .u64 3, .int .i64 0, .slice none 0 0, .slice none 0 0, .slice none 0 0, .slice none 0 0, .slice none 0 0, .slice none 0 0, .bool false, .bool false, .int .i64 0, .slice ra 2 rcap] 32)).alloc (.cells #[.int .i64 1, .int .i64 0, .int .i64 1, .int .i64 0, .int .i64 0] 40) = x1 at *
  rintro e u2 ⟨k2, r2, rfl, b2, s2, s3⟩
  obtain ⟨ka, kcap, rfl⟩ := s2.shape
  obtain ⟨rb, rcbp, rfl⟩ := s3.shape
  have I2 := k2_is w u2 (J1.out.1.bw.trans (b2.mono J1.out.1.bw.size)) (sc 2 3 (.slice ka 1 kcap) (.slice rb 2 rcbp)) (rc 5 0 1 0 0)
  have C2 : Hid (∀ _ : Unit, _) := fun _ => next_work _ (u2.heap.size + 1) _ (.slice rb 2 rcbp) (s2.below I2.be) (s3.below I2.be) I2.b1
  have J2 : Hid (K2 w u2 ((u2.alloc (.cells #[.int .i64 2, .int .u64 3, .int .i64 0, .slice none 0 0, .slice none 0 0, .slice none 0 0, .slice ka 1 kcap, .slice none 0 0, .slice none 0 0, .bool false, .bool false, .int .i64 0, .slice rb 2 rcbp] 32)).alloc (.cells #[.int .i64 5, .int .i64 0, .int .i64 1, .int .i64 0, .int .i64 0] 40)) _ _ ∧ Blk ((u2.alloc (.cells #[.int .i64 2, .int .u64 3, .int .i64 0, .slice none 0 0, .slice none 0 0, .slice none 0 0, .slice ka 1 kcap, .slice none 0 0, .slice none 0 0, .bool false, .bool false, .int .i64 0, .slice rb 2 rcbp] 32)).alloc (.cells #[.int .i64 5, .int .i64 0, .int .i64 1, .int .i64 0, .int .i64 0] 40)) u1.heap.size (sc 2 3 (.slice none 0 0) (.slice ra 2 rcap)) 32 ∧ SL ((u2.alloc (.cells #[.int .i64 2, .int .u64 3, .int .i64 0, .slice none 0 0, .slice none 0 0, .slice none 0 0, .slice ka 1 kcap, .slice none 0 0, .slice none 0 0, .bool false, .bool false, .int .i64 0, .slice rb 2 rcbp] 32)).alloc (.cells #[.int .i64 5, .int .i64 0, .int .i64 1, .int .i64 0, .int .i64 0] 40)) (.slice ra 2 rcap) [0, 0]) := ⟨I2, (J1.out.1.b0.below b2).below I2.be, (J1.out.2.below b2).below I2.be⟩
  unfold sc ev rc at C2
  clear I2 s2 s3 J1 b2
  go_wp2_with fail
  refine (C2.out ()).mono ?_
  clear C2
  generalize (u2.alloc (.cells #[.int .i64 2, .int .u64 3, .int .i64 0, .slice none 0 0, .slice none 0 0, .slice none 0 0, .slice ka 1 kcap, .slice none 0 0, .slice none 0 0, .bool false, .bool false, .int .i64 0, .slice rb 2 rcbp] 32)).alloc (.cells #[.int .i64 5, .int .i64 0, .int .i64 1, .int .i64 0, .int .i64 0] 40) = x2 at *
  rintro e u3 ⟨k3, r3, rfl, b2, s2, s3⟩
  obtain ⟨kb, kcbp, rfl⟩ := s2.shape
  obtain ⟨rd, rcdp, rfl⟩ := s3.shape
  have I2 := k2_is w u3 (J2.out.1.bw.trans (b2.mono J2.out.1.bw.size)) (sc 2 3 (.slice kb 0 kcbp) (.slice rd 2 rcdp)) (rc 5 0 1 0 0)
  have C2 : Hid (∀ _ : Unit, _) := fun _ => next_gone _ (u3.heap.size + 1) _ (.slice rd 2 rcdp) (s2.below I2.be) (s3.below I2.be) I2.b1
  have J3 : Hid (K2 w u3 ((u3.alloc (.cells #[.int .i64 2, .int .u64 3, .int .i64 0, .slice none 0 0, .slice none 0 0, .slice none 0 0, .slice kb 0 kcbp, .slice none 0 0, .slice none 0 0, .bool false, .bool false, .int .i64 0, .slice rd 2 rcdp] 32)).alloc (.cells #[.int .i64 5, .int .i64 0, .int .i64 1, .int .i64 0, .int .i64 0] 40)) _ _ ∧ Blk ((u3.alloc (.cells #[.int .i64 2, .int .u64 3, .int .i64 0, .slice none 0 0, .slice none 0 0, .slice none 0 0, .slice kb 0 kcbp, .slice none 0 0, .slice none 0 0, .bool false, .bool false, .int .i64 0, .slice rd 2 rcdp] 32)).alloc (.cells #[.int .i64 5, .int .i64 0, .int .i64 1, .int .i64 0, .int .i64 0] 40)) u1.heap.size (sc 2 3 (.slice none 0 0) (.slice ra 2 rcap)) 32 ∧ Blk ((u3.alloc (.cells #[.int .i64 2, .int .u64 3, .int .i64 0, .slice none 0 0, .slice none 0 0, .slice none 0 0, .slice kb 0 kcbp, .slice none 0 0, .slice none 0 0, .bool false, .bool false, .int .i64 0, .slice rd 2 rcdp] 32)).alloc (.cells #[.int .i64 5, .int .i64 0, .int .i64 1, .int .i64 0, .int .i64 0] 40)) u2.heap.size (sc 2 3 (.slice ka 1 kcap) (.slice rb 2 rcbp)) 32 ∧ SL ((u3.alloc (.cells #[.int .i64 2, .int .u64 3, .int .i64 0, .slice none 0 0, .slice none 0 0, .slice none 0 0, .slice kb 0 kcbp, .slice none 0 0, .slice none 0 0, .bool false, .bool false, .int .i64 0, .slice rd 2 rcdp] 32)).alloc (.cells #[.int .i64 5, .int .i64 0, .int .i64 1, .int .i64 0, .int .i64 0] 40)) (.slice ra 2 rcap) [0, 0] ∧ SL ((u3.alloc (.cells #[.int .i64 2, .int .u64 3, .int .i64 0, .slice none 0 0, .slice none 0 0, .slice none 0 0, .slice kb 0 kcbp, .slice none 0 0, .slice none 0 0, .bool false, .bool false, .int .i64 0, .slice rd 2 rcdp] 32)).alloc (.cells #[.int .i64 5, .int .i64 0, .int .i64 1, .int .i64 0, .int .i64 0] 40)) (.slice kb 0 kcbp) [] ∧ SL ((u3.alloc (.cells #[.int .i64 2, .int .u64 3, .int .i64 0, .slice none 0 0, .slice none 0 0, .slice none 0 0, .slice kb 0 kcbp, .slice none 0 0, .slice none 0 0, .bool false, .bool false, .int .i64 0, .slice rd 2 rcdp] 32)).alloc (.cells #[.int .i64 5, .int .i64 0, .int .i64 1, .int .i64 0, .int .i64 0] 40)) (.slice rd 2 rcdp) [0, 0]) := ⟨I2, (J2.out.2.1.below b2).below I2.be, (J2.out.1.b0.below b2).below I2.be, (J2.out.2.2.below b2).below I2.be, s2.below I2.be, s3.below I2.be⟩
  unfold sc ev rc at C2
  clear I2 s2 s3 J2 b2
  go_wp2_with fail
  refine (C2.out ()).mono ?_
  clear C2
  generalize (u3.alloc (.cells #[.int .i64 2, .int .u64 3, .int .i64 0, .slice none 0 0, .slice none 0 0, .slice none 0 0, .slice kb 0 kcbp, .slice none 0 0, .slice none 0 0, .bool false, .bool false, .int .i64 0, .slice rd 2 rcdp] 32)).alloc (.cells #[.int .i64 5, .int .i64 0, .int .i64 1, .int .i64 0, .int .i64 0] 40) = x3 at *
  rintro e u4 ⟨rfl, b2⟩
  have B4 : Below u4.heap.size u4 (u4.alloc (.cells z13.toArray 32)) := (Below.refl _ _).alloc (Nat.le_refl _) _
  have P1 := (J3.out.2.1.below b2).below B4
  have P2 := (J3.out.2.2.1.below b2).below B4
  have P3 := (J3.out.1.b0.below b2).below B4
  have CS : Hid (∀ _ : Unit, _) := fun _ => same_any (c := 2) (on := 3) (sl_nil (u4.alloc (.cells z13.toArray 32))).1 ((J3.out.2.2.2.1.below b2).below B4).1 ((J3.out.2.2.2.2.1.below b2).below B4).1 ((J3.out.2.2.2.2.2.below b2).below B4).1 (by simp) (by simp)
  have BW : Hid (∀ V, Below (u4.alloc (.cells z13.toArray 32)).heap.size (u4.alloc (.cells z13.toArray 32)) V → Below w.heap.size w V) := fun V h => by
    have h1 := J3.out.1.bw.trans (b2.mono J3.out.1.bw.size)
    have h2 := h1.trans (B4.mono h1.size)
    exact h2.trans (h.mono h2.size)
  have x0' : (u4.alloc (.cells z13.toArray 32)).cell? ⟨u1.heap.size, 0, none⟩ = some _ := P1.cell 0
  have y0' : (u4.alloc (.cells z13.toArray 32)).cell? ⟨u3.heap.size, 0, none⟩ = some _ := P3.cell 0
  have x1' : (u4.alloc (.cells z13.toArray 32)).cell? ⟨u1.heap.size, 1, none⟩ = some _ := P1.cell 1
  have y1' : (u4.alloc (.cells z13.toArray 32)).cell? ⟨u3.heap.size, 1, none⟩ = some _ := P3.cell 1
  have x2' : (u4.alloc (.cells z13.toArray 32)).cell? ⟨u1.heap.size, 2, none⟩ = some _ := P1.cell 2
  have y2' : (u4.alloc (.cells z13.toArray 32)).cell? ⟨u3.heap.size, 2, none⟩ = some _ := P3.cell 2
  have x3' : (u4.alloc (.cells z13.toArray 32)).cell? ⟨u1.heap.size, 3, none⟩ = some _ := P1.cell 3
  have y3' : (u4.alloc (.cells z13.toArray 32)).cell? ⟨u3.heap.size, 3, none⟩ = some _ := P3.cell 3
  have x4' : (u4.alloc (.cells z13.toArray 32)).cell? ⟨u1.heap.size, 4, none⟩ = some _ := P1.cell 4
  have y4' : (u4.alloc (.cells z13.toArray 32)).cell? ⟨u3.heap.size, 4, none⟩ = some _ := P3.cell 4
  have x5' : (u4.alloc (.cells z13.toArray 32)).cell? ⟨u1.heap.size, 5, none⟩ = some _ := P1.cell 5
  have y5' : (u4.alloc (.cells z13.toArray 32)).cell? ⟨u3.heap.size, 5, none⟩ = some _ := P3.cell 5
  have x6' : (u4.alloc (.cells z13.toArray 32)).cell? ⟨u1.heap.size, 6, none⟩ = some _ := P1.cell 6
  have y6' : (u4.alloc (.cells z13.toArray 32)).cell? ⟨u3.heap.size, 6, none⟩ = some _ := P3.cell 6
  have x7' : (u4.alloc (.cells z13.toArray 32)).cell? ⟨u1.heap.size, 7, none⟩ = some _ := P1.cell 7
  have y7' : (u4.alloc (.cells z13.toArray 32)).cell? ⟨u3.heap.size, 7, none⟩ = some _ := P3.cell 7
  have x8' : (u4.alloc (.cells z13.toArray 32)).cell? ⟨u1.heap.size, 8, none⟩ = some _ := P1.cell 8
  have y8' : (u4.alloc (.cells z13.toArray 32)).cell? ⟨u3.heap.size, 8, none⟩ = some _ := P3.cell 8
  have x9' : (u4.alloc (.cells z13.toArray 32)).cell? ⟨u1.heap.size, 9, none⟩ = some _ := P1.cell 9
  have y9' : (u4.alloc (.cells z13.toArray 32)).cell? ⟨u3.heap.size, 9, none⟩ = some _ := P3.cell 9
  have x10' : (u4.alloc (.cells z13.toArray 32)).cell? ⟨u1.heap.size, 10, none⟩ = some _ := P1.cell 10
  have y10' : (u4.alloc (.cells z13.toArray 32)).cell? ⟨u3.heap.size, 10, none⟩ = some _ := P3.cell 10
  have x11' : (u4.alloc (.cells z13.toArray 32)).cell? ⟨u1.heap.size, 11, none⟩ = some _ := P1.cell 11
  have y11' : (u4.alloc (.cells z13.toArray 32)).cell? ⟨u3.heap.size, 11, none⟩ = some _ := P3.cell 11
  have x12' : (u4.alloc (.cells z13.toArray 32)).cell? ⟨u1.heap.size, 12, none⟩ = some _ := P1.cell 12
  have y12' : (u4.alloc (.cells z13.toArray 32)).cell? ⟨u3.heap.size, 12, none⟩ = some _ := P3.cell 12
  have z6' : (u4.alloc (.cells z13.toArray 32)).cell? ⟨u2.heap.size, 6, none⟩ = some (.slice ka 1 kcap) := P2.cell 6
  clear P1 P2 P3 B4 J3 b2
  unfold z13 at *
  unfold sc at *
  go_wp2_with fail
  refine (CS.out ()).mono ?_
  rintro e u5 ⟨rfl, b5⟩
  have B5 : Hid (Below w.heap.size w u5) := BW.out _ b5
  go_wp2
  go_ret
  exact ⟨rfl, B5.out⟩
end Go.Proofs.YtaebebgoijgolaaGreat
