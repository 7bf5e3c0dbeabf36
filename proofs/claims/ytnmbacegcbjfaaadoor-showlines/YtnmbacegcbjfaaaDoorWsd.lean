/- The document's numbers as words. -/
import Derived.Test.YtnmbacegcbjfaaaDoorWsb
import Derived.WalkKit
import Derived.ProofKit
import Derived.OpenShut
import Derived.BigQuiet
import Derived.WalkSmall
import Derived.WalkSpells
namespace Go.Proofs.YtnmbacegcbjfaaaDoor
open Go.ChangeShapes Go.WideShapes Go.ChangeAt Go.RowKit
open Wd Mm
set_option linter.unusedVariables false
set_option linter.unusedSimpArgs false
set_option maxRecDepth 100000

theorem digit_cut : ∀ d : Fin 10, (⟨#[48, 49, 50, 51, 52, 53, 54, 55, 56, 57]⟩ : ByteArray).extract d.val (d.val + 1) = sb [UInt8.ofNat (48 + d.val)] := by decide +kernel
theorem digit_run (d : Nat) (hd : d < 10) (W : World) : (Instr.slice 9 (.string ⟨#[48, 49, 50, 51, 52, 53, 54, 55, 56, 57]⟩) (some (.int .u64 (d : Int))) (some (.int .u64 ((d : Int) + 1))) none).run Tryd.prog W = .ok (.string (sb [UInt8.ofNat (48 + d)])) W := by
  have hs : ((⟨#[48, 49, 50, 51, 52, 53, 54, 55, 56, 57]⟩ : ByteArray).size : Int) = 10 := rfl
  rw [run_slice_string_if W 9 _ .u64 .u64 _ _ Tryd.underlying9, hs, if_pos (by omega), if_pos (by omega)]
  have e1 : ((d : Int)).toNat = d := by omega
  have e2 : ((d : Int) + 1).toNat = d + 1 := by omega
  rw [e1, e2, digit_cut ⟨d, hd⟩]
/-- What digits' loop keeps. -/
structure DG (u v : Nat) (s : List UInt8) (i : Nat) : Prop where
  lt : v < 10 ^ (20 - i)
  on : (i = 0 ∨ 0 < v) → Lib.decDigits u = Lib.decDigits v ++ s ∨ (i = 0 ∧ s = [] ∧ v = u)
  off : 0 < i → v = 0 → s = Lib.decDigits u
  len : s.length ≤ i
theorem DG.next {u v : Nat} {s : List UInt8} {i : Nat} (h : DG u v s i) (hi : i < 20) (hv : i = 0 ∨ 0 < v) : DG u (v / 10) ([UInt8.ofNat (48 + v % 10)] ++ s) (i + 1) := by
  have hd : Lib.decDigits u = Lib.decDigits v ++ s := by
    rcases h.on hv with e | ⟨_, e2, e3⟩
    · exact e
    · rw [e2, e3]; simp
  refine ⟨?_, fun hq => ?_, fun _ h0 => ?_, by have := h.len; simp; omega⟩
  · have := h.lt
    rw [show 20 - i = 20 - (i + 1) + 1 by omega, Nat.pow_succ] at this
    omega
  · refine Or.inl ?_
    rcases hq with hq | hq
    · omega
    · rw [hd, Lib.decDigits, dif_neg (by omega)]
      simp
  · rw [hd]
    have : v < 10 := by omega
    rw [Lib.decDigits_one this, Nat.mod_eq_of_lt this]
set_option maxHeartbeats 2000000 in
theorem digits_any (u : Nat) (hu : u < 18446744073709551616) (w : World) :
    Calls Tryd.prog 36 #[.int .u64 u] w fun e w' => e = .returned (.string (sb (Lib.decDigits u))) ∧ w' = w := by
  have D0 : Hid (DG u u [] 0) := ⟨by show u < 10 ^ 20; omega, fun _ => Or.inr ⟨rfl, rfl, rfl⟩, fun h => by omega, by simp⟩
  obtain ⟨R, hR⟩ : ∃ R, Lib.decDigits u = R := ⟨_, rfl⟩
  have HR : Hid (Lib.decDigits u = R) := hR
  have HU : Hid (u < 18446744073709551616) := hu
  rw [hR]
  clear hR hu
  go_enter Tryd.func36, Tryd.ntmps36
  go_wp2
  go_loop [0, 3, 4] (fun a s n => ∃ (v i : Nat) (l : List UInt8), (i : Int) ≤ 20 ∧ a = .int .u64 v ∧ s = .string (sb l) ∧ n = .int .i64 i ∧ Hid (DG u v l i) ∧ Hid (v ≤ u)) (fun _ _ n => 20 - (intOf n).toNat)
  case atStart => exact ⟨u, 0, [], by omega, rfl, rfl, rfl, D0, Nat.le_refl _⟩
  case round =>
    obtain ⟨v, i, l, hi, rfl, rfl, rfl, D, hvu⟩ := hrel
    by_cases h : (i : Int) < 20 ∧ (i = 0 ∨ 0 < v)
    · have D2 : Hid (DG u (v / 10) ([UInt8.ofNat (48 + v % 10)] ++ l) (i + 1)) := D.out.next (by omega) h.2
      have V2 : Hid (v / 10 ≤ u) := Nat.le_trans (Nat.div_le_self _ _) hvu.out
      have hdl : v % 10 < 10 := Nat.mod_lt _ (by omega)
      have l1 := D.out.len
      have HS : Hid (∀ W, _) := fun W => digit_run (v % 10) hdl W
      have A1 : ∀ W, (Op.stringOp .add (sb [UInt8.ofNat (48 + v % 10)]) (sb l)).run Tryd.prog W = .ok (.string (sb ([UInt8.ofNat (48 + v % 10)] ++ l))) W := fun W => add_str _ _ (by simp; omega) W
      have m1 : (v : Int) % 10 = ((v % 10 : Nat) : Int) := by omega
      have m2 : (v : Int).tmod 10 = ((v % 10 : Nat) : Int) := by rw [Int.tmod_eq_emod_of_nonneg (by omega)]; omega
      have q1 : (v : Int) / 10 = ((v / 10 : Nat) : Int) := by omega
      have q2 : (v : Int).tdiv 10 = ((v / 10 : Nat) : Int) := by rw [Int.tdiv_eq_ediv_of_nonneg (by omega)]; omega
      generalize UInt8.ofNat (48 + v % 10) = c at *
      generalize [c] ++ l = l2 at *
      obtain ⟨d, hd⟩ : ∃ d, v % 10 = d := ⟨_, rfl⟩
      obtain ⟨q, hq⟩ : ∃ q, v / 10 = q := ⟨_, rfl⟩
      rw [hd] at m1 m2 HS hdl
      rw [hq] at q1 q2 D2 V2
      have hS := HS.out
      have dB : (d : Int) < 10 := by omega
      have w1 : IntKind.u64.wrap ((d : Int) + 1) = (d : Int) + 1 := by rw [IntKind.wrap_u64]; omega
      have hi2 : (i : Int) < 20 := h.1
      have w2 : IntKind.u64.wrap (q : Int) = (q : Int) := by rw [IntKind.wrap_u64]; have := V2.out; have := HU.out; omega
      by_cases h0 : i = 0
      · have t1 : ((i : Int) == 0) = true := by rw [beq_iff_eq]; omega
        clear hd hq D hvu h l1 hdl h0
        go_wp2
        go_round
        case rel => exact ⟨q, i + 1, l2, by omega, rfl, rfl, by go_num, D2, V2⟩
        case measure => simp [intOf]; omega
      · have t1 : ((i : Int) == 0) = false := by rw [beq_eq_false_iff_ne]; omega
        have t2 : (0 : Int) < (v : Int) := by omega
        clear hd hq D hvu h l1 hdl h0
        go_wp2
        go_round
        case rel => exact ⟨q, i + 1, l2, by omega, rfl, rfl, by go_num, D2, V2⟩
        case measure => simp [intOf]; omega
    · have hv0 : v = 0 := by
        have := D.out.lt
        by_cases hi2 : (i : Int) < 20
        · omega
        · have : i = 20 := by omega
          subst this
          have := D.out.lt
          simp at this
          exact this
      have hi0 : 0 < i := by
        by_cases h0 : 0 < i
        · exact h0
        · exfalso; exact h ⟨by omega, Or.inl (by omega)⟩
      have e := D.out.off hi0 hv0
      rw [HR.out] at e
      subst e
      have t1 : ((i : Int) == 0) = false := by rw [beq_eq_false_iff_ne]; omega
      have t2 : ¬ (0 : Int) < (v : Int) := by omega
      have t3 : decide ((0 : Int) < (v : Int)) = false := decide_eq_false t2
      clear h D hvu HR D0 hv0 hi0
      by_cases hi2 : (i : Int) < 20
      · go_wp2
        go_ret
        exact ⟨rfl, rfl⟩
      · have hi3 : decide ((i : Int) < 20) = false := decide_eq_false hi2
        go_wp2
        go_ret
        exact ⟨rfl, rfl⟩
theorem rnum_any (n : Int) (hn : inR n) (w : World) :
    Calls Tryd.prog 24 #[.int .i64 n] w fun e w' => e = .returned (.string (sb (Lib.itoa n))) ∧ w' = w := by
  unfold inR at hn
  by_cases h : n < 0
  · have C : Hid (∀ w, _) := fun w => digits_any n.natAbs (by omega) w
    have e1 : Lib.itoa n = 45 :: Lib.decDigits n.natAbs := if_pos h
    have hl : (Lib.decDigits n.natAbs).length ≤ 21 := by have := Lib.itoa_length_le n hn.1 hn.2; rw [e1] at this; simp at this; omega
    have A1 : ∀ W, (Op.stringOp .add (sb [45]) (sb (Lib.decDigits n.natAbs))).run Tryd.prog W = .ok (.string (sb (45 :: Lib.decDigits n.natAbs))) W := fun W => add_str _ _ (by simp; omega) W
    have q1 : IntKind.u64.wrap (0 - IntKind.u64.wrap n) = ((n.natAbs : Nat) : Int) := by rw [IntKind.wrap_u64, IntKind.wrap_u64]; omega
    have q2 : IntKind.u64.wrap (-IntKind.u64.wrap n) = ((n.natAbs : Nat) : Int) := by rw [IntKind.wrap_u64, IntKind.wrap_u64]; omega
    rw [e1]
    generalize Lib.decDigits n.natAbs = L at *
    generalize ((n.natAbs : Nat) : Int) = m at *
    clear e1 hl hn
    go_enter Tryd.func24, Tryd.ntmps24
    go_wp2_with fail
    refine (C.out _).mono ?_
    rintro e u ⟨rfl, rfl⟩
    go_wp2
    go_ret
    exact ⟨rfl, rfl⟩
  · have C : Hid (∀ w, _) := fun w => digits_any n.toNat (by omega) w
    have e1 : Lib.itoa n = Lib.decDigits n.toNat := if_neg h
    have q1 : IntKind.u64.wrap n = ((n.toNat : Nat) : Int) := by rw [IntKind.wrap_u64]; omega
    have h2 : decide (n < 0) = false := decide_eq_false h
    rw [e1]
    generalize Lib.decDigits n.toNat = L at *
    generalize ((n.toNat : Nat) : Int) = m at *
    clear e1 hn
    go_enter Tryd.func24, Tryd.ntmps24
    go_wp2_with fail
    refine (C.out _).mono ?_
    rintro e u ⟨rfl, rfl⟩
    go_wp2
    go_ret
    exact ⟨rfl, rfl⟩
end Go.Proofs.YtnmbacegcbjfaaaDoor
