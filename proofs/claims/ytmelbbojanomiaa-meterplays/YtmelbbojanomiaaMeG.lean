/- What the document's Energy, Ticks, Rested, Average and Share answer, of every meter. -/
import Derived.Test.YtmelbbojanomiaaRows
import Derived.Test.YtmelbbojanomiaaMeF
import Derived.WalkKit
import Derived.ProofKit
import Derived.OpenShut
import Derived.BigQuiet
namespace Go.Proofs.Ytmelbbojanomiaa
open Go.ChangeShapes Go.WideShapes Go.ChangeAt Go.RowKit
open Mt Flo

theorem rfenergy_any (w : World) (s g n : Nat) (F : Nat → Ac) (c : Int) (h : RM w s g n F) :
    Calls Try.prog 17 #[.pointer (some ⟨s, 0, none⟩), .int .i64 c] w fun e w' => e = .returned (.int .i64 (enB n F c)) ∧ w' = w := by
  have I : Hid (∀ _ : Unit, _) := fun _ => rfis_any w s g n F c h
  cases hc : inr n c with
  | false =>
    rw [show enB n F c = 0 by unfold enB; rw [hc]; rfl]
    rw [hc] at I
    clear h
    go_enter Try.func17, Try.ntmps17
    go_wp2_with fail
    refine (I.out ()).mono ?_
    rintro e w' ⟨rfl, rfl⟩
    go_wp2
    go_ret
    exact ⟨rfl, rfl⟩
  | true =>
    rw [hc] at I
    obtain ⟨k, rfl, hk⟩ := inr_yes hc
    rw [show enB n F k = (F k).e by unfold enB; rw [hc]; rfl]
    have c0 := h.hdr
    have c9 : w.cell? ⟨g, k * 10 + 9, none⟩ = some (.int .i64 (F k).e) := h.cell hk 9 (by omega)
    have kl : (k : Int) < n := by omega
    generalize (F k).e = v at *
    clear h hc
    go_enter Try.func17, Try.ntmps17
    go_wp2_with fail
    refine (I.out ()).mono ?_
    rintro e w' ⟨rfl, rfl⟩
    go_wp2
    go_ret
    exact ⟨rfl, rfl⟩

theorem rfrested_any (w : World) (s g n : Nat) (F : Nat → Ac) (c m : Int) (h : RM w s g n F) :
    Calls Try.prog 21 #[.pointer (some ⟨s, 0, none⟩), .int .i64 c, .int .i64 m] w fun e w' => e = .returned (.int .i64 (rsB n F c m)) ∧ w' = w := by
  have I : Hid (∀ _ : Unit, _) := fun _ => rfis_any w s g n F c h
  cases hc : inr n c with
  | false =>
    rw [show rsB n F c m = 0 by unfold rsB; rw [hc]; rfl]
    rw [hc] at I
    clear h
    go_enter Try.func21, Try.ntmps21
    go_wp2_with fail
    refine (I.out ()).mono ?_
    rintro e w' ⟨rfl, rfl⟩
    go_wp2
    go_ret
    exact ⟨rfl, rfl⟩
  | true =>
    rw [hc] at I
    obtain ⟨k, rfl, hk⟩ := inr_yes hc
    cases hm : inr 8 m with
    | false =>
      rw [show rsB n F k m = 0 by unfold rsB; rw [hc, hm]; rfl]
      by_cases m1 : m < 0
      · clear h hm
        go_enter Try.func21, Try.ntmps21
        go_wp2_with fail
        refine (I.out ()).mono ?_
        rintro e w' ⟨rfl, rfl⟩
        go_wp2
        go_ret
        exact ⟨rfl, rfl⟩
      · have m2 : 7 < m := by simp [inr] at hm; omega
        clear h hm
        go_enter Try.func21, Try.ntmps21
        go_wp2_with fail
        refine (I.out ()).mono ?_
        rintro e w' ⟨rfl, rfl⟩
        go_wp2
        go_ret
        exact ⟨rfl, rfl⟩
    | true =>
      obtain ⟨j, rfl, hj⟩ := inr_yes hm
      rw [show rsB n F k j = (F k).r j by unfold rsB; rw [hc, hm]; rfl]
      have jl : (j : Int) < 8 := by omega
      have jm : ¬ (7 : Int) < j := by omega
      have j0 : ¬ (j : Int) < 0 := by omega
      have c0 := h.hdr
      have c1 : w.cell? ⟨g, k * 10 + 1 + j, none⟩ = some (.int .i64 ((F k).r j)) := by
        rw [Nat.add_assoc, h.cell hk (1 + j) (by omega)]
        unfold rcel
        rw [if_neg (by omega), if_neg (by omega), show 1 + j - 1 = j by omega]
      have kl : (k : Int) < n := by omega
      generalize (F k).r j = v at *
      clear h hc hm
      go_enter Try.func21, Try.ntmps21
      go_wp2_with fail
      refine (I.out ()).mono ?_
      rintro e w' ⟨rfl, rfl⟩
      go_wp2
      go_ret
      exact ⟨rfl, rfl⟩

/-- The ticks of work and of the first i ways. -/
def smi (a : Ac) : Nat → Int
  | 0 => a.wk
  | i + 1 => smi a i + a.r i
theorem smi_eight (a : Ac) : smi a 8 = tk a := by simp only [smi, tk, sm8]; omega
theorem smi_le {a : Ac} {B : Int} (h : Oka a B) (i : Nat) (hi : i ≤ 8) : 0 ≤ smi a i ∧ smi a i ≤ B := by
  have up : ∀ d i, 0 ≤ smi a i ∧ smi a i ≤ smi a (i + d) := by
    intro d
    induction d with
    | zero => exact fun i => ⟨by induction i with | zero => exact h.w0 | succ i ih => (have := h.r0 i; simp only [smi]; omega), Int.le_refl _⟩
    | succ d ih => exact fun i => ⟨(ih i).1, by have := (ih i).2; have := h.r0 (i + d); show smi a i ≤ smi a (i + d) + a.r (i + d); omega⟩
  have := up (8 - i) i
  rw [show i + (8 - i) = 8 by omega, smi_eight] at this
  have := h.tb
  omega

set_option maxHeartbeats 1000000 in
theorem rfticks_any (w : World) (s g n : Nat) (F : Nat → Ac) (c : Int) (h : RM w s g n F) (ok : OkF n F 1000000000000) :
    Calls Try.prog 19 #[.pointer (some ⟨s, 0, none⟩), .int .i64 c] w fun e w' => e = .returned (.int .i64 (tkB n F c)) ∧ w' = w := by
  have I : Hid (∀ _ : Unit, _) := fun _ => rfis_any w s g n F c h
  cases hc : inr n c with
  | false =>
    rw [show tkB n F c = 0 by unfold tkB; rw [hc]; rfl]
    rw [hc] at I
    clear h ok
    go_enter Try.func19, Try.ntmps19
    go_wp2_with fail
    refine (I.out ()).mono ?_
    rintro e w' ⟨rfl, rfl⟩
    go_wp2
    go_ret
    exact ⟨rfl, rfl⟩
  | true =>
    rw [hc] at I
    obtain ⟨k, rfl, hk⟩ := inr_yes hc
    rw [show tkB n F k = smi (F k) 8 by unfold tkB; rw [hc, smi_eight]; rfl]
    have c0 := h.hdr
    have c1 : w.cell? ⟨g, k * 10, none⟩ = some (.int .i64 (smi (F k) 0)) := h.cell hk 0 (by omega)
    have CJ : Hid (∀ j, j < 8 → w.cell? ⟨g, k * 10 + 1 + j, none⟩ = some (.int .i64 ((F k).r j))) := fun j hj => by
      rw [Nat.add_assoc, h.cell hk (1 + j) (by omega)]
      unfold rcel
      rw [if_neg (by omega), if_neg (by omega), show 1 + j - 1 = j by omega]
    have SL : Hid (∀ j, j < 8 → wrap64 (smi (F k) j + (F k).r j) = smi (F k) (j + 1)) := fun j hj => by
      have := smi_le (ok k hk) (j + 1) (by omega)
      show _ = smi (F k) j + (F k).r j
      have e : smi (F k) (j + 1) = smi (F k) j + (F k).r j := rfl
      rw [e] at this
      simp only [wrap64]
      omega
    have kl : (k : Int) < n := by omega
    generalize smi (F k) = sm at *
    generalize (F k).r = rr at *
    clear h hc ok
    go_enter Try.func19, Try.ntmps19
    go_wp2_with fail
    refine (I.out ()).mono ?_
    rintro e w' ⟨rfl, rfl⟩
    go_wp2
    go_loop [5, 6] (fun v i => ∃ j : Nat, (j : Int) ≤ 8 ∧ v = .int .i64 (sm j) ∧ i = .int .i64 j) (fun _ i => 8 - (intOf i).toNat)
    case atStart => exact ⟨0, by omega, rfl, rfl⟩
    case round =>
      obtain ⟨j, hj, rfl, rfl⟩ := hrel
      by_cases q : (j : Int) < 8
      · have d1 := CJ.out j (by omega)
        have d2 := SL.out j (by omega)
        obtain ⟨y, hy⟩ : ∃ y, sm (j + 1) = y := ⟨_, rfl⟩
        have HY : Hid (sm (j + 1) = y) := hy
        rw [hy] at d2
        generalize sm j = x at *
        generalize rr j = z at *
        clear hy
        go_wp2
        go_round
        case rel => exact ⟨j + 1, by omega, congrArg _ (d2.trans HY.out.symm), by go_num⟩
        case measure => simp [intOf]; omega
      · obtain rfl : j = 8 := by omega
        go_wp2
        go_ret
        exact ⟨rfl, rfl⟩

theorem rfaverage_any (w : World) (s g n : Nat) (F : Nat → Ac) (c : Int) (h : RM w s g n F) (ok : OkF n F 1000000000000) :
    Calls Try.prog 24 #[.pointer (some ⟨s, 0, none⟩), .int .i64 c] w fun e w' => ∃ r, e = .returned (.float .f64 r) ∧ r < 18446744073709551616 ∧ ky r = rt (enB n F c) (tkB n F c) ∧ Sm w' w := by
  have C1 : Hid (∀ _ : Unit, _) := fun _ => rfenergy_any w s g n F c h
  have C2 : Hid (∀ _ : Unit, _) := fun _ => rfticks_any w s g n F c h ok
  have C3 : Hid (∀ w, _) := fun w => refrate_any (enB n F c) (tkB n F c) w
  generalize rt (enB n F c) (tkB n F c) = R at *
  generalize enB n F c = a at *
  generalize tkB n F c = b at *
  clear h ok
  go_enter Try.func24, Try.ntmps24
  go_wp2_with fail
  refine (C1.out ()).mono ?_
  rintro e w' ⟨rfl, rfl⟩
  go_wp2_with fail
  refine (C2.out ()).mono ?_
  rintro e w' ⟨rfl, rfl⟩
  go_wp2_with fail
  refine (C3.out _).mono ?_
  rintro e u3 ⟨r, rfl, hr, kr, sm⟩
  have B3 : Hid (r < 18446744073709551616 ∧ ky r = R ∧ Sm u3 w') := ⟨hr, kr, sm⟩
  clear hr kr sm
  go_wp2
  go_ret
  exact ⟨_, rfl, B3.out⟩

theorem rfshare_any (w : World) (s g n : Nat) (F : Nat → Ac) (c m : Int) (h : RM w s g n F) (ok : OkF n F 1000000000000) :
    Calls Try.prog 26 #[.pointer (some ⟨s, 0, none⟩), .int .i64 c, .int .i64 m] w fun e w' => ∃ r, e = .returned (.float .f64 r) ∧ r < 18446744073709551616 ∧ ky r = rt (rsB n F c m) (tkB n F c) ∧ Sm w' w := by
  have C1 : Hid (∀ _ : Unit, _) := fun _ => rfrested_any w s g n F c m h
  have C2 : Hid (∀ _ : Unit, _) := fun _ => rfticks_any w s g n F c h ok
  have C3 : Hid (∀ w, _) := fun w => refrate_any (rsB n F c m) (tkB n F c) w
  generalize rt (rsB n F c m) (tkB n F c) = R at *
  generalize rsB n F c m = a at *
  generalize tkB n F c = b at *
  clear h ok
  go_enter Try.func26, Try.ntmps26
  go_wp2_with fail
  refine (C1.out ()).mono ?_
  rintro e w' ⟨rfl, rfl⟩
  go_wp2_with fail
  refine (C2.out ()).mono ?_
  rintro e w' ⟨rfl, rfl⟩
  go_wp2_with fail
  refine (C3.out _).mono ?_
  rintro e u3 ⟨r, rfl, hr, kr, sm⟩
  have B3 : Hid (r < 18446744073709551616 ∧ ky r = R ∧ Sm u3 w') := ⟨hr, kr, sm⟩
  clear hr kr sm
  go_wp2
  go_ret
  exact ⟨_, rfl, B3.out⟩
end Go.Proofs.Ytmelbbojanomiaa
