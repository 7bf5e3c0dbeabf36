/- What affin's Wrong and the document's Wrong (davitref12) answer, for every mask and every thing. -/
import Derived.Test.YtghnpmkibnggeaaDoorRows
import Derived.Test.YtghnpmkibnggeaaDoorIa
import Derived.Test.YtghnpmkibnggeaaDoorKe
import Derived.WalkKit
import Derived.ProofKit
import Derived.OpenShut
import Derived.BigQuiet
namespace Go.Proofs.YtghnpmkibnggeaaDoor
open Go.ChangeShapes Go.WideShapes Go.ChangeAt Go.RowKit
open Mm

theorem wrg_bits (b : Nat) (x : It) (t1 t2 t3 : Bool) (h1 : tb b x.cpu = t1) (h2 : tb x.mask x.cpu = t2) (h3 : decide (x.mask &&& b ≠ 0) = t3) : wrg b x = (!t1 || (!t2 && t3) || (x.forced == t2)) := by
  unfold wrg
  rw [h1, h2, h3]

set_option maxRecDepth 100000 in
set_option maxHeartbeats 2000000 in
theorem wrong_any (b : Nat) (x : It) (w : World) (hb : b < 18446744073709551616) (hm : x.mask < 18446744073709551616) :
    Calls Tryd.prog 35 #[.int .u64 (b : Int), .agg #[.int .i64 x.id, .int .u64 (x.mask : Int), .int .i64 x.cpu, .bool x.forced]] w fun e w' => e = .returned (.bool (wrg b x)) ∧ Below w.heap.size w w' := by
  have C1 : Hid (∀ w, _) := fun w => khas_any x.mask x.cpu w hm
  have C2 : Hid (∀ w, _) := fun w => kand_any x.mask b w hm hb
  have C3 : Hid (∀ w, _) := fun w => kmany_any (x.mask &&& b) w (and_lt hb)
  have C4 : Hid (∀ w, _) := fun w => khas_any b x.cpu w hb
  have W := wrg_bits b x _ _ _ rfl rfl rfl
  have hp : decide ((0 : Int) < ((ls (x.mask &&& b)).length : Int)) = decide (x.mask &&& b ≠ 0) := by
    by_cases e : x.mask &&& b = 0
    · rw [e, many_zero]; rfl
    · have := many_pos (and_lt hb) e
      rw [decide_eq_true e, decide_eq_true (by omega)]
  rw [W]
  have BL : Hid (∀ o, Below w.heap.size w (w.alloc o)) := fun o => (Below.refl _ _).alloc (Nat.le_refl _) o
  generalize (ls (x.mask &&& b)).length = n3 at *
  generalize decide (x.mask &&& b ≠ 0) = t3 at *
  generalize x.mask &&& b = P at *
  generalize tb b x.cpu = t1 at *
  generalize tb x.mask x.cpu = t2 at *
  generalize x.forced = t4 at *
  clear W hb hm
  cases t1 <;> cases t2 <;> cases t3 <;> cases t4
  all_goals (
    first | have hq := of_decide_eq_true hp | have hq := of_decide_eq_false hp
    go_enter Tryd.func35, Tryd.ntmps35
    go_wp2_with fail
    refine (C1.out _).mono ?_
    rintro e w' ⟨rfl, rfl⟩
    go_wp2_with fail
    refine (C2.out _).mono ?_
    rintro e w' ⟨rfl, rfl⟩
    go_wp2_with fail
    refine (C3.out _).mono ?_
    rintro e w' ⟨rfl, rfl⟩
    go_wp2_with fail
    refine (C4.out _).mono ?_
    rintro e w' ⟨rfl, rfl⟩
    go_wp2
    go_ret
    exact ⟨rfl, BL.out _⟩)

set_option maxRecDepth 100000 in
set_option maxHeartbeats 2000000 in
theorem rwrong_any (b : Nat) (x : It) (w : World) (hb : b < 18446744073709551616) (hm : x.mask < 18446744073709551616) :
    Calls Tryd.prog 36 #[.int .u64 (b : Int), .agg #[.int .i64 x.id, .int .u64 (x.mask : Int), .int .i64 x.cpu, .bool x.forced]] w fun e w' => e = .returned (.bool (wrg b x)) ∧ Below w.heap.size w w' := by
  have C1 : Hid (∀ w, _) := fun w => krefhas_any x.mask x.cpu w hm
  have C2 : Hid (∀ w, _) := fun w => krefand_any x.mask b w hm hb
  have C4 : Hid (∀ w, _) := fun w => krefhas_any b x.cpu w hb
  have W := wrg_bits b x _ _ _ rfl rfl rfl
  have hp : (((x.mask &&& b : Nat) : Int) != 0) = decide (x.mask &&& b ≠ 0) := by
    by_cases e : x.mask &&& b = 0
    · rw [e]; rfl
    · rw [decide_eq_true e, bne_iff_ne]; omega
  rw [W]
  have kb : Blk (w.alloc (.cells #[.int .i64 x.id, .int .u64 (x.mask : Int), .int .i64 x.cpu, .bool x.forced] 79)) w.heap.size [.int .i64 x.id, .int .u64 (x.mask : Int), .int .i64 x.cpu, .bool x.forced] 79 := Blk.new w _ _
  have hal : Below w.heap.size w (w.alloc (.cells #[.int .i64 x.id, .int .u64 (x.mask : Int), .int .i64 x.cpu, .bool x.forced] 79)) := (Below.refl _ _).alloc (Nat.le_refl _) _
  obtain ⟨wa, hwa⟩ : ∃ wa, w.alloc (.cells #[.int .i64 x.id, .int .u64 (x.mask : Int), .int .i64 x.cpu, .bool x.forced] 79) = wa := ⟨_, rfl⟩
  have HWA : Hid (w.alloc (.cells #[.int .i64 x.id, .int .u64 (x.mask : Int), .int .i64 x.cpu, .bool x.forced] 79) = wa) := hwa
  rw [hwa] at kb hal
  obtain ⟨z, hz⟩ : ∃ z, w.heap.size = z := ⟨_, rfl⟩
  have HZ : Hid (w.heap.size = z) := hz
  rw [hz] at kb hal ⊢
  have x1 : wa.cell? ⟨z, 1, none⟩ = some (.int .u64 (x.mask : Int)) := kb.cell 1
  have x2 : wa.cell? ⟨z, 2, none⟩ = some (.int .i64 x.cpu) := kb.cell 2
  have x3 : wa.cell? ⟨z, 3, none⟩ = some (.bool x.forced) := kb.cell 3
  have KB : Hid (∀ w2, Below wa.heap.size wa w2 → w2.cell? ⟨z, 1, none⟩ = some (.int .u64 (x.mask : Int)) ∧ w2.cell? ⟨z, 2, none⟩ = some (.int .i64 x.cpu) ∧ w2.cell? ⟨z, 3, none⟩ = some (.bool x.forced)) := fun w2 b2 => by
    have k2 := kb.keep (Fr.of_below b2) kb.lt (by simp)
    exact ⟨k2.cell 1, k2.cell 2, k2.cell 3⟩
  have BL : Hid (Below z w wa) := hal
  have hzl : Hid (z ≤ wa.heap.size) := Nat.le_of_lt kb.lt
  generalize decide (x.mask &&& b ≠ 0) = t3 at *
  generalize x.mask &&& b = P at *
  generalize tb b x.cpu = t1 at *
  generalize tb x.mask x.cpu = t2 at *
  generalize x.forced = t4 at *
  clear W hb hm kb hal hwa hz
  cases t1 <;> cases t2 <;> cases t3 <;> cases t4
  all_goals (
    go_enter Tryd.func36, Tryd.ntmps36
    go_wp2_with fail
    rw [HWA.out, HZ.out]
    refine (C1.out _).mono ?_
    rintro e w' ⟨rfl, rfl⟩
    go_wp2_with fail
    refine (C4.out _).mono ?_
    rintro e w' ⟨rfl, rfl⟩
    first
      | (go_wp2_with fail
         refine (C2.out _).mono ?_
         rintro e w2 ⟨rfl, b2⟩
         obtain ⟨j1, j2, j3⟩ := KB.out w2 b2
         have B2 : Hid (Below z w w2) := BL.out.trans (b2.mono hzl.out)
         clear b2
         go_wp2
         go_ret
         exact ⟨rfl, B2.out⟩)
      | (go_wp2
         go_ret
         exact ⟨rfl, BL.out⟩))
end Go.Proofs.YtghnpmkibnggeaaDoor
