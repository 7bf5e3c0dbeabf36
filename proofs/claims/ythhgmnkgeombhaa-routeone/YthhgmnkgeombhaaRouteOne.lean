/- Proved: for every number cpus and every list acts, davitlaw16.RouteOne(cpus, acts) returns true: however interrupts are sent to cores (150 acts at most, as the law itself says), those of all cores together are each there once, each at the core that it is told to go to, and a core has any if it is among the cores that any go to; acts is left alone; no condition. -/
import Derived.Test.YthhgmnkgeombhaaRows
import Derived.Test.YthhgmnkgeombhaaFo
import Derived.Test.YthhgmnkgeombhaaNc
import Derived.Test.YthhgmnkgeombhaaNg
import Derived.WalkKit
import Derived.ProofKit
import Derived.OpenShut
import Derived.Stop.Joined
import Derived.ShutString
import Derived.ChangeOld
import Derived.Below
import Derived.Carry
import Derived.Test.YthhgmnkgeombhaaFs
import Derived.Deep.RegionHeld3
namespace Go.Proofs.Ythhgmnkgeombhaa.routeOne
open Go.ChangeShapes Go.WideShapes Go.ChangeAt Go.RowKit
open Mm Nm
set_option linter.unusedVariables false
set_option linter.unusedSimpArgs false

theorem own : ownKnob Try.prog.godebug = none := by kernel_rfl
theorem laidOut : laidOutB Try.prog = true := by kernel_rfl

set_option maxRecDepth 100000 in
set_option maxHeartbeats 4000000 in
theorem walk (a0 : Int) (a1 : Option Addr) (len1 cap1 : Nat) (X1 : Nat → Nat → Int) (w : World) (w0 : (Lit.int .i64 a0).wf = true) (w1 : SRow w (.slice a1 len1 cap1) len1 [true, true, false] X1) (z1 : ∀ i, i < len1 → ∀ j, j < [true, true, false].length → [true, true, false].getD j true = true → (Lit.int .i64 (X1 i j)).wf = true) :
    Calls Try.prog 7 #[.int .i64 a0, .slice a1 len1 cap1] w fun e w' => e = .returned (.bool true) ∧ Below w.heap.size w w' := by
  have KN : Hid (∀ w1, _) := fun w1 => rtknown_yes w1
  by_cases wrong : a0 < 1 ∨ 64 < a0
  · have C : Hid (∀ w, _) := fun w => rtnew_bad a0 w wrong
    have tail : a0 < 1 ∨ (1 ≤ a0 ∧ 64 < a0) := by omega
    clear wrong w0 w1 z1
    rcases tail with h | ⟨h, h2⟩
    all_goals (
      go_enter Try.func7, Try.ntmps7
      go_wp2_with fail
      refine (C.out _).mono ?_
      rintro e u1 ⟨rfl, rfl⟩
      go_wp2_with fail
      refine (KN.out _).mono ?_
      rintro e u3 ⟨rfl, hb⟩
      go_wp2
      go_ret
      exact ⟨rfl, hb⟩)
  · obtain ⟨c, rfl⟩ := Int.eq_ofNat_of_zero_le (show 0 ≤ a0 by omega)
    have m1 : (1 : Int) ≤ c := by omega
    have m2 : (c : Int) ≤ 64 := by omega
    have C : Hid (∀ _ : Unit, _) := fun _ => rtnew_any c w m1 m2
    have HR : Hid (SRow w (.slice a1 len1 cap1) len1 [true, true, false] X1) := w1
    obtain ⟨s, hsz⟩ : ∃ s, w.heap.size = s := ⟨_, rfl⟩
    have HS : Hid (w.heap.size = s) := hsz
    rw [hsz] at C ⊢
    clear wrong w0 w1 z1 hsz
    go_enter Try.func7, Try.ntmps7
    go_wp2_with fail
    refine (C.out ()).mono ?_
    rintro e u1 ⟨rfl, q1, f1, -⟩
    have Q1 : Hid (RT u1 s c (fun _ => -1) ∧ Below s w u1) := ⟨q1, f1⟩
    clear q1 f1
    go_wp2
    go_loopw [7] (fun i wr => ∃ (k : Nat) (P : Nat → Int), (k : Int) ≤ 150 ∧ (k : Int) ≤ len1 ∧ (RT wr s c P ∧ Below s w wr) ∧ i = .int .i64 k) (fun i _ => 150 - (intOf i).toNat)
    case atStart => exact ⟨0, _, by omega, by omega, Q1.out, rfl⟩
    case round =>
      obtain ⟨k, P, hk, hk2, ⟨p, bel⟩, rfl⟩ := hrel
      clear Q1
      have tail : (¬ (k : Int) < len1 ∧ decide ((k : Int) < len1) = false) ∨ ((k : Int) < len1 ∧ ¬ (k : Int) < 150) ∨ ((k : Int) < len1 ∧ (k : Int) < 150) := by
        by_cases h : (k : Int) < len1
        · by_cases h2 : (k : Int) < 150
          · exact Or.inr (Or.inr ⟨h, h2⟩)
          · exact Or.inr (Or.inl ⟨h, h2⟩)
        · exact Or.inl ⟨h, decide_eq_false h⟩
      rw [← or_assoc] at tail
      rcases tail with tail | ⟨h, h2⟩
      · have hmk := mk16 wr
        have hlt := p.lt
        have R0 : Hid (RO w (wr.alloc (.cells (List.replicate 16 (Value.bool false)).toArray 4)) s wr.heap.size c P (sn P 0 [])) := by
          unfold Hid
          rw [sn_start]
          exact ⟨p.below ((Below.refl _ _).alloc (Nat.le_refl _) _), SB.new wr, bel.alloc (by omega) _, hlt⟩
        obtain ⟨b, hb⟩ : ∃ b, wr.heap.size = b := ⟨_, rfl⟩
        have HB : Hid (wr.heap.size = b) := hb
        obtain ⟨u2, hu2⟩ : ∃ u2, wr.alloc (.cells (List.replicate 16 (Value.bool false)).toArray 4) = u2 := ⟨_, rfl⟩
        have HU2 : Hid (wr.alloc (.cells (List.replicate 16 (Value.bool false)).toArray 4) = u2) := hu2
        rw [hu2, hb] at R0
        generalize (List.replicate 16 (Value.bool false)).toArray = ZZ at *
        clear p bel hlt hb hu2
        rcases tail with ⟨h, hd⟩ | ⟨h, h2⟩
        all_goals (
          go_wp2
          rw [HU2.out, HB.out]
          clear HU2 HB hmk
          go_loopw [9] (fun i wr => ∃ j : Nat, (j : Int) ≤ c ∧ RO w wr s b c P (sn P j []) ∧ i = .int .i64 j) (fun i _ => c - (intOf i).toNat)
          case atStart => exact ⟨0, by omega, R0.out, rfl⟩
          case round =>
            obtain ⟨j, hj, r, rfl⟩ := hrel
            clear R0
            obtain ⟨wo, rfl⟩ : ∃ wo, wo = wr := ⟨_, rfl⟩
            by_cases e : (j : Int) < c
            · have T1 : Hid (∀ _ : Unit, _) := fun _ => rton_any (j : Int) wo r.rt
              have R1 : Hid (RO w wo s b c P (sn P j [])) := r
              clear r
              go_wp2_with fail
              refine (T1.out ()).mono ?_
              rintro e u3 ⟨v, rfl, g3⟩
              have R3 := R1.out.keep g3.bel
              have T2 : Hid (∀ _ : Unit, _) := fun _ => rtcores_any u3 R3.rt
              have own3 := g3.own
              have hbs : Hid (b < wo.heap.size) := R1.out.hi
              have RR3 : Hid (RO w u3 s b c P (sn P j [])) := R3
              obtain ⟨a3, cap3, rfl⟩ := own_shape own3
              rw [KK_LN_len] at own3
              have HO3 : Hid (u3.ownsRow wo.heap.size 3 1 (.slice a3 (LN P (j : Int)).length cap3) (LN P (j : Int)).length ((KK (on P (j : Int)) 16).map (Value.int .i64))) := own3
              rw [KK_LN_len]
              have hln : ((LN P (j : Int)).length : Int) ≤ 16 := by have := LN_le P (j : Int); omega
              have hj64 : j < 64 := by omega
              have T3 : Hid (∀ w1, _) := fun w1 => khas_any (cl P 16) (j : Int) w1 (cl_lt P 16)
              rw [cl_has hj64] at T3
              obtain ⟨n, hn⟩ : ∃ n, (LN P (j : Int)).length = n := ⟨_, rfl⟩
              have HN : Hid ((LN P (j : Int)).length = n) := hn
              rw [hn] at T3 hln HO3 ⊢
              generalize cl P 16 = M at *
              clear g3 R3 own3 T1 R1 hn
              go_wp2_with fail
              refine (T2.out ()).mono ?_
              rintro e u4 ⟨rfl, f4⟩
              have R4 : Hid (RO w u4 s b c P (sn P j [])) := RR3.out.keep f4
              have O4 : Hid (u4.ownsRow wo.heap.size 3 1 (.slice a3 n cap3) n ((KK (on P (j : Int)) 16).map (Value.int .i64))) := owns_keep (S := []) HO3.out (Fr.of_below f4) (Nat.le_refl _) (by simp)
              clear f4 T2 RR3 HO3
              go_wp2_with fail
              refine (T3.out _).mono ?_
              rintro e u5 ⟨rfl, rfl⟩
              have O5 : Hid (u5.ownsRow wo.heap.size 3 1 (.slice a3 n cap3) n ((KK (on P (j : Int)) 16).map (Value.int .i64))) := O4.out
              have R5 : Hid (RO w u5 s b c P (sn P j ((LN P (j : Int)).take 0))) := R4.out
              clear O4 R4 T3
              generalize wo.heap.size = B0 at *
              have two : (¬ (0 : Int) < n ∧ decide ((0 : Int) < n) = false) ∨ ((0 : Int) < n ∧ decide ((0 : Int) < n) = true) := by
                by_cases q : (0 : Int) < n
                · exact Or.inr ⟨q, decide_eq_true q⟩
                · exact Or.inl ⟨q, decide_eq_false q⟩
              rcases two with ⟨n0, n1⟩ | ⟨n0, n1⟩
              all_goals (
                go_wp2
                go_loopw [11] (fun i wr => ∃ t : Nat, (t : Int) ≤ n ∧ RO w wr s b c P (sn P j ((LN P (j : Int)).take t)) ∧ Hid (wr.ownsRow B0 3 1 (.slice a3 n cap3) n ((KK (on P (j : Int)) 16).map (Value.int .i64))) ∧ i = .int .i64 t) (fun i _ => n - (intOf i).toNat)
                case atStart => exact ⟨0, by omega, R5.out, O5, rfl⟩
                case round =>
                  obtain ⟨t, ht, r, o, rfl⟩ := hrel
                  clear R5 O5
                  by_cases et : (t : Int) < n
                  · (try (exfalso; omega))
                    all_goals (
                      have htl : t < (LN P (j : Int)).length := by have := HN.out; omega
                      obtain ⟨bl, rfl, d0⟩ := own_cell o.out et
                      rw [KK_LN_get P (j : Int) htl] at d0
                      obtain ⟨l16, lon⟩ := LN_at htl
                      have snot := sn_not htl
                      have SNX : Hid (∀ m, sn P j ((LN P (j : Int)).take (t + 1)) m = if m = (LN P (j : Int)).getD t 0 then true else sn P j ((LN P (j : Int)).take t) m) := sn_next htl
                      have T4 : Hid (∀ _ : Unit, _) := fun _ => rtof_any (((LN P (j : Int)).getD t 0 : Nat) : Int) wr r.rt
                      obtain ⟨l1, l2⟩ := on_is lon
                      generalize (LN P (j : Int)).getD t 0 = m at *
                      rw [show ofN P (m : Int) = (j : Int) by unfold ofN; rw [is_nat l16, Int.toNat_natCast, if_pos rfl]; unfold cp; rw [if_pos l1, l2], show ofB P (m : Int) = true by unfold ofB; rw [is_nat l16, Int.toNat_natCast]; unfold th; rw [decide_eq_true l1]; rfl] at T4
                      have L16 : Hid (m < 16) := l16
                      have m16 : (m : Int) < 16 := by omega
                      have RX : Hid (∀ w1, Sm w1 wr → RO w w1 s b c P (sn P j ((LN P (j : Int)).take t))) := fun w1 e => r.sm e
                      have OX : Hid (∀ w1, Sm w1 wr → w1.ownsRow B0 3 1 (.slice (some ⟨bl, 0, none⟩) n cap3) n ((KK (on P (j : Int)) 16).map (Value.int .i64))) := fun w1 e => ⟨o.out.1, by rw [e.1]; exact o.out.2⟩
                      have CX : Hid (∀ w1, Sm w1 wr → w1.cell? ⟨bl, t, none⟩ = some (.int .i64 (m : Int)) ∧ w1.cell? ⟨b, m, none⟩ = some (.bool false) ∧ w1.frozen? ⟨b, m, none⟩ = false) := fun w1 e => by
                        have q := (r.sm e).cell l16
                        rw [snot] at q
                        refine ⟨?_, q⟩
                        unfold World.cell?
                        rw [e.1]
                        exact d0
                      have jj : ((j : Int) == (j : Int)) = true := by simp
                      have jj2 : ((j : Int) != (j : Int)) = false := by simp
                      clear htl lon snot l1 l2 r o l16
                      go_wp2_with fail
                      refine (T4.out ()).mono ?_
                      rintro e u6 ⟨rfl, s6⟩
                      obtain ⟨d1, d2, d3⟩ := CX.out u6 s6
                      have R6 : Hid (RO w u6 s b c P (sn P j ((LN P (j : Int)).take t))) := RX.out u6 s6
                      have O6 : Hid (u6.ownsRow B0 3 1 (.slice (some ⟨bl, 0, none⟩) n cap3) n ((KK (on P (j : Int)) 16).map (Value.int .i64))) := OX.out u6 s6
                      clear s6 T4 RX OX CX d0
                      go_wp2
                      go_roundw
                      case rel => exact ⟨t + 1, by omega, (R6.out.set L16.out SNX.out).1, owns_keep (S := [b]) O6.out (R6.out.set L16.out SNX.out).2 (Nat.le_refl _) (by have := hbs.out; simp; omega), by go_num⟩
                      case measure => simp [intOf]; omega)
                  · have R7 : Hid (RO w wr s b c P (sn P (j + 1) [])) := by
                      refine r.eq fun m hm => ?_
                      rw [List.take_of_length_le (by have := HN.out; omega)]
                      exact sn_end P j m hm
                    clear r o
                    go_wp2
                    go_roundw
                    case rel => exact ⟨j + 1, by omega, R7.out, by go_num⟩
                    case measure => simp [intOf]; omega)
            · have R1 : Hid (RO w wo s b c P (sn P j [])) := r
              clear r
              go_wp2_with fail
              refine (KN.out _).mono ?_
              rintro e u3 ⟨rfl, f3⟩
              go_wp2
              go_ret
              exact ⟨rfl, (R1.out.keep f3).bel⟩)
      · obtain ⟨b0, off, rfl, hA⟩ := srow_cell (wr := wr) HR.out (by rw [HS.out]; exact bel) h
        have HX : Hid (∀ w2 : World, Below s w w2 → w2.cell? ⟨b0, off + k * 3, none⟩ = some (.int .i64 (X1 k 0)) ∧ w2.cell? ⟨b0, off + k * 3 + 1, none⟩ = some (.int .i64 (X1 k 1)) ∧ w2.cell? ⟨b0, off + k * 3 + 2, none⟩ = some (.bool (X1 k 2 != 0))) := fun w2 b2 => by
          obtain ⟨ab3, off3, e3, hc3⟩ := srow_cell (wr := w2) HR.out (by rw [HS.out]; exact b2) h
          cases e3
          exact ⟨hc3 0 (by simp), hc3 1 (by simp), hc3 2 (by simp)⟩
        obtain ⟨x0, x1, x2⟩ := HX.out wr bel
        clear hA
        generalize X1 k 0 = y0 at *
        generalize X1 k 1 = y1 at *
        generalize (X1 k 2 != 0) = y2 at *
        have KP : Hid (∀ w2 : World, Fr wr.heap.size [s] wr w2 → Below s w w2) := fun w2 f => fr_own bel f (by have := p.lt; omega) (by simp)
        have T1 : Hid (∀ w1 : World, Sm w1 wr → Calls Try.prog 31 #[.pointer (some ⟨s, 0, none⟩), .int .i64 y0] w1 fun e w' => ∃ E P', e = .returned (.int .i64 E) ∧ RT w' s c P' ∧ Below s w w') := fun w1 e => (rtoff_any y0 w1 (p.heap e.1)).mono fun _ w' ⟨r1, r2, r3⟩ => ⟨_, _, r1, r2, KP.out w' (by have := e.fr r3; rwa [e.1] at this)⟩
        have T2 : Hid (∀ w1 : World, Sm w1 wr → Calls Try.prog 33 #[.pointer (some ⟨s, 0, none⟩), .int .i64 y0, .int .i64 y1] w1 fun e w' => ∃ E P', e = .returned (.int .i64 E) ∧ RT w' s c P' ∧ Below s w w') := fun w1 e => (rtset_any y0 y1 w1 (p.heap e.1)).mono fun _ w' ⟨r1, r2, r3⟩ => ⟨_, _, r1, r2, KP.out w' (by have := e.fr r3; rwa [e.1] at this)⟩
        clear p bel
        cases y2 with
        | true =>
          go_wp2_with fail
          refine (T1.out _ ⟨rfl, rfl, rfl, rfl⟩).mono ?_
          rintro e u2 ⟨E, P', rfl, r2, b2⟩
          have R2 : Hid (RT u2 s c P' ∧ Below s w u2) := ⟨r2, b2⟩
          clear r2 b2
          go_wp2
          go_roundw
          case rel => exact ⟨k + 1, P', by omega, by omega, R2.out, by go_num⟩
          case measure => simp [intOf]; omega
        | false =>
          go_wp2_with fail
          go_region_held3 (fun w' => w'.cell? ⟨b0, off + k * 3, none⟩ = some (.int .i64 y0) ∧ w'.cell? ⟨b0, off + k * 3 + 1, none⟩ = some (.int .i64 y1)) (go_keep)
            (first | (go_at_call 33; refine (T2.out _ ?_).mono ?_; exact ⟨rfl, rfl, rfl, rfl⟩; rintro e u2 ⟨E, P', rfl, r2, b2⟩; obtain ⟨k0, k1, k2⟩ := HX.out u2 b2; have R2 : Hid (RT u2 s c P' ∧ Below s w u2) := ⟨r2, b2⟩; clear r2 b2))
          go_wp2
          go_roundw
          case rel => exact ⟨k + 1, P', by omega, by omega, R2.out, by go_num⟩
          case measure => simp [intOf]; omega

set_option maxRecDepth 100000 in
theorem lifted (os : Os) (started : os.Started) (H : Type) (enc : TypeId × Value → H) :
    ReturnsInHanded {} Try.checked os 7 .any (Rows.routeOneSpec.pre6 enc Try.prog Try.f7 Rows.routeOneRow.domain false) (Rows.routeOneSpec.post enc Try.prog Try.f7 false true false false) := by
  refine returnsInHanded_of_change (C := Try.checked) own started (by kernel_rfl) Try.func7
    (ChangeSpec.witness6 (enc := enc) (C := Try.checked) false ⟨#[], #[.int .i64 0, .slice none 0 0], []⟩ 8 (by kernel_rfl) (by kernel_rfl) (by kernel_rfl) (by kernel_rfl)) ?_
  intro W base args ds gs before hval0 hW hcnd _
  have hval : ∀ (j : Nat) t v, Try.f7.params[j]? = some t → args[j]? = some v → Value.okWide Try.prog W .any base t v := hval0
  have hW' := hW
  obtain ⟨p, q, hA0, hV, rfl, hfz, hnd⟩ := hW
  have hA : DataW.TrodAll enc Try.prog W 0 (fun _ => true) true Try.f7.params.toList args.toList ds p := hA0
  rw [Try.params7] at hA hval
  obtain ⟨v0, vs0, d0, ds0, p0, q0, hargs, rfl, rfl, h0, r0⟩ := trodAll_cons hA
  obtain ⟨v1, vs1, d1, ds1, p1, q1, rfl, rfl, rfl, h1, r1⟩ := trodAll_cons r0
  obtain ⟨rfl, rfl, rfl⟩ := trodAll_nil r1
  obtain rfl : args = #[v0, v1] := by cases args; simp_all
  obtain ⟨rfl, rfl⟩ := trodVars_none hV
  obtain ⟨a0, rfl, rfl, rfl, w0⟩ := open_int Try.underlying3 (hval 0 3 v0 rfl rfl) h0
  obtain ⟨a1, len1, cap1, rfl⟩ := okWide_slice Try.underlying55 (hval 1 55 v1 rfl rfl)
  have k1 := h1
  have lt1 : ∀ x ∈ p1, x.block < W.heap.size := by obtain ⟨m, hm⟩ := k1; exact DataW.trod_lt m _ _ _ hm
  obtain ⟨X1, w1, z1⟩ : ∃ X : Nat → Nat → Int, SRow W (.slice a1 len1 cap1) len1 [true, true, false] X ∧ ∀ i, i < len1 → ∀ j, j < [true, true, false].length → [true, true, false].getD j true = true → (Lit.int .i64 (X i j)).wf = true := by
    obtain ⟨fuel, hf⟩ := h1
    exact open_recs [true, true, false] Try.underlying55 Try.underlying63 (by kernel_rfl) rfl (by decide) (fun | 0, _ => ⟨_, rfl, rfl, by kernel_rfl, Try.underlying3⟩ | 1, _ => ⟨_, rfl, rfl, by kernel_rfl, Try.underlying3⟩ | 2, _ => ⟨_, rfl, rfl, by kernel_rfl, Try.underlying4⟩ | n + 3, h => absurd h (by simp only [List.length]; omega)) hf
  clear hA0 hval0
  refine (walk a0 a1 len1 cap1 X1 W w0 w1 z1).mono fun e W' ⟨he, bel⟩ => ?_
  subst he
  exact ⟨_, rfl, _, _, _, [], _, [], hW', trodAll_mk1 (shut_bool Try.underlying4 _), (trodAll_cons_mk (shut_int Try.underlying3 w0) (trodAll_cons_mk (Below.trod laidOut (by kernel_rfl) (of_decide_eq_true (by kernel_rfl)) k1 bel lt1) trodAll_mk0)), rfl, bel.frame _, fun h => by cases h⟩

theorem over : Rows.RouteOneSaid :=
  OpenClaim.holds_of_wide 7 Try.f7 rfl rfl rfl rfl rfl rfl rfl ⟨rfl, rfl, rfl, rfl, rfl⟩ rfl rfl rfl rfl rfl (by kernel_rfl) Try.func7 (by kernel_rfl)
    (of_decide_eq_true (by kernel_rfl)) (by unfold Func.isWrapper; first | (rw [if_pos (by decide +kernel)]; kernel_rfl) | (rw [if_neg (by decide +kernel)]; exact ⟨rfl, rfl⟩))
    (fun os started H enc _ => lifted os started H enc)
end Go.Proofs.Ythhgmnkgeombhaa.routeOne

namespace Go.Proofs.Ythhgmnkgeombhaa
open Go
theorem routeOne_holds : Rows.RouteOneSaid := routeOne.over
#print axioms routeOne_holds
end Go.Proofs.Ythhgmnkgeombhaa
