/- Proved: for every number most, every list acts and every number n, davitlaw03.FifoPlays(most, acts, n) returns true: a queue of any size that is played with answers what the document says (200 acts at most, as the law itself says), and acts is left alone, with no condition. -/
import Derived.Test.YtdkacamnelodaaaRows
import Derived.Test.YtdkacamnelodaaaFo
import Derived.Test.YtdkacamnelodaaaFp
import Derived.WalkKit
import Derived.ProofKit
import Derived.OpenShut
import Derived.Stop.Joined
import Derived.ShutString
import Derived.ChangeOld
import Derived.Below
import Derived.Carry
import Derived.Deep.SlicePairs
import Derived.Deep.DeepCutAuto
import Derived.Deep.CutBlock
import Derived.Deep.RegionHeld3
namespace Go.Proofs.Ytdkacamnelodaaa.fifoPlays
open Go.ChangeShapes Go.WideShapes Go.ChangeAt Go.RowKit Go.Deep
open Fm
set_option linter.unusedVariables false

theorem own : ownKnob Try.prog.godebug = none := by kernel_rfl
theorem laidOut : laidOutB Try.prog = true := by kernel_rfl

set_option maxRecDepth 100000 in
set_option maxHeartbeats 4000000 in
theorem walk (a0 : Int) (a1 : Option Addr) (len1 cap1 : Nat) (X1 Y1 : Nat → Int) (a2 : Int) (w : World) (w0 : (Lit.int .i64 a0).wf = true) (w1 : PRow w (.slice a1 len1 cap1) len1 X1 Y1) (z1 : ∀ i, i < len1 → (Lit.int .i64 (X1 i)).wf = true ∧ (Lit.int .i64 (Y1 i)).wf = true) (w2 : (Lit.int .i64 a2).wf = true) :
    Calls Try.prog 3 #[.int .i64 a0, .slice a1 len1 cap1, .int .i64 a2] w fun e w' => e = .returned (.bool true) ∧ Below w.heap.size w w' := by
  have KN : Hid (∀ w, _) := fun w => known_yes w
  by_cases wrong : a0 < 1 ∨ 1024 < a0
  · have C : Hid (∀ w, _) := fun w => new_bad a0 w wrong
    have D : Hid (∀ w, _) := fun w => rnew_bad a0 w wrong
    clear wrong w0 w1 w2 z1
    go_enter Try.func3, Try.ntmps3
    go_wp2_with fail
    refine (C.out _).mono ?_
    rintro e u1 ⟨rfl, rfl⟩
    go_wp2_with fail
    refine (D.out _).mono ?_
    rintro e u1 ⟨rfl, rfl⟩
    go_wp2_with fail
    refine (KN.out _).mono ?_
    rintro e u1 ⟨rfl, hb⟩
    go_wp2
    go_ret
    exact ⟨rfl, hb⟩
  · obtain ⟨m, rfl⟩ := Int.eq_ofNat_of_zero_le (show 0 ≤ a0 by omega)
    have m1 : (1 : Int) ≤ m := by omega
    have m2 : (m : Int) ≤ 1024 := by omega
    have C : Hid (∀ _ : Unit, _) := fun _ => new_any m w m1 m2
    have D : Hid (∀ w1, _) := fun w1 => rnew_any m w1 m1 m2
    have HR : Hid (PRow w (.slice a1 len1 cap1) len1 X1 Y1) := w1
    obtain ⟨s, hs⟩ : ∃ s, w.heap.size = s := ⟨_, rfl⟩
    have HS : Hid (w.heap.size = s) := hs
    rw [hs] at C ⊢
    clear wrong w0 w1 w2 z1 hs
    go_enter Try.func3, Try.ntmps3
    go_wp2_with fail
    refine (C.out ()).mono ?_
    rintro e u1 ⟨rfl, q1, f1⟩
    have lt1 := q1.sb.lt
    have Q1 : Hid (Q u1 (s + 1) s m 0 (List.replicate m 0) []) := q1
    have B1 : Hid (Below s w u1) := f1.below (by simp)
    clear q1 f1
    go_wp2_with fail
    refine (D.out u1).mono ?_
    rintro e u2 ⟨rfl, r2, f2⟩
    have PI0 : Hid (PI w u2 s u1.heap.size (u1.heap.size + 1) m []) := ⟨⟨_, _, Q1.out.keep f2 ⟨lt1, by omega⟩ ⟨by simp, by simp⟩⟩, ⟨_, _, r2⟩, B1.out.trans ((f2.less (by omega)).below (by simp)), List.nodup_nil⟩
    have HB : Hid (s + 1 < u1.heap.size) := lt1
    clear r2 f2 lt1
    generalize u1.heap.size = br at *
    clear Q1 B1
    go_wp2
    go_loopw [11] (fun i wr => ∃ (k : Nat) (L : List Int), (k : Int) ≤ 200 ∧ (k : Int) ≤ len1 ∧ PI w wr s br (br + 1) m L ∧ i = .int .i64 k) (fun i _ => 200 - (intOf i).toNat)
    case atStart => exact ⟨0, [], by omega, by omega, PI0.out, rfl⟩
    case round =>
      obtain ⟨k, L, hk, hk2, p, rfl⟩ := hrel
      have hsz : s ≤ wr.heap.size := by have := p.bel.size; have := HS.out; omega
      have HP : Hid (PI w wr s br (br + 1) m L) := p
      clear PI0
      by_cases h : (k : Int) < len1
      · by_cases h2 : (k : Int) < 200
        · obtain ⟨ab, off, rfl, hA⟩ : ∃ ab off, a1 = some ⟨ab, off, none⟩ ∧ Hid (∀ w2 : World, Below s w w2 → w2.cell? ⟨ab, off + k * 2, none⟩ = some (.int .i64 (X1 k)) ∧ w2.cell? ⟨ab, off + k * 2 + 1, none⟩ = some (.int .i64 (Y1 k))) := by
            rcases HR.out with ⟨e, _⟩ | ⟨ab, off, c, hv, hlt, hc⟩
            · omega
            · simp only [Value.slice.injEq] at hv
              refine ⟨ab, off, hv.1, fun w2 b2 => ?_⟩
              rw [HS.out] at hlt
              rw [b2.cell (p := ⟨ab, off + k * 2, none⟩) hlt, b2.cell (p := ⟨ab, off + k * 2 + 1, none⟩) hlt]
              exact hc k (by omega)
          obtain ⟨x0, y0⟩ := hA.out wr p.bel
          generalize X1 k = x at *
          generalize Y1 k = y at *
          have hml : (L.length : Int) ≤ m := by obtain ⟨f, r, q⟩ := p.q; have := q.rg.hc; omega
          obtain ⟨f, r, q⟩ := p.q
          obtain ⟨a, c, ra⟩ := p.r
          have Y9 : Hid (∀ w2 : World, Below s w w2 → w2.cell? ⟨ab, off + k * 2 + 1, none⟩ = some (.int .i64 y)) := fun w2 b2 => (hA.out w2 b2).2
          go_upto_block 2 with (fail)
          go_cut [11] (fun i wx => i = .int .i64 k ∧ ∃ L2, PI w wx s br (br + 1) m L2)
          case first =>
            by_cases t0 : x.tmod 4 = 0
            · have e0 : (x.tmod 4 == 0) = true := by simpa using t0
              clear t0
              have C1 : Hid (∀ w1 : World, Sm w1 wr → _) := fun w1 e => act_push p y w1 e
              have C2 : Hid (∀ v1 w1 : World, Fr wr.heap.size [s + 1, s] wr v1 → Sm w1 v1 → _) := fun v1 w1 f e => act_rpush p HB.out m2 hml y v1 w1 f e
              have ACT : Hid (∀ (w2 w3 : World) (f2 : Nat) (r2 : List Int) (a3 : Option Addr) (c3 : Nat), Q w2 (s + 1) s m f2 r2 (pL m L y) → Fr wr.heap.size [s + 1, s] wr w2 → R w3 br (br + 1) m (pL m L y) a3 c3 → Fr (br + 1) [br] w2 w3 → PI w w3 s br (br + 1) m (pL m L y)) := fun w2 w3 f2 r2 a3 c3 q2 f12 r3 f23 => p.act ⟨HB.out, by omega, hsz⟩ q2 f12 r3 f23 (nodup_pL _ _ _ p.nd)
              have YF : Hid (∀ v1 : World, Fr wr.heap.size [s + 1, s] wr v1 → v1.cell? ⟨ab, off + k * 2 + 1, none⟩ = some (.int .i64 y)) := fun v1 f => Y9.out v1 (p.bel.trans ((f.less hsz).below (by simp)))
              generalize pL m L y = L2 at *
              generalize pE m L y = ee at *
              have bb : (ee != ee) = false := by simp
              clear p q ra HP hml
              go_wp2_with fail
              go_region_held3 (fun w' => w'.cell? ⟨ab, off + k * 2 + 1, none⟩ = some (.int .i64 y)) (go_keep)
                (first | (go_at_call 10; refine (C1.out _ ?_).mono ?_; exact ⟨rfl, rfl, rfl, rfl⟩; rintro e v1 ⟨rfl, ⟨f2, r2, q2⟩, f12⟩; have yy := YF.out v1 f12; have Q2 : Hid (Q v1 (s + 1) s m f2 r2 L2) := q2; have F12 : Hid (Fr wr.heap.size [s + 1, s] wr v1) := f12; clear q2 f12) | (go_at_call 11; refine (C2.out v1 _ F12.out ?_).mono ?_; exact ⟨rfl, rfl, rfl, rfl⟩; rintro e v2 ⟨rfl, ⟨a3, c3, r3⟩, f23⟩; have p2 := ACT.out _ _ _ _ _ _ Q2.out F12.out r3 f23; have yy2 : v2.cell? ⟨ab, off + k * 2 + 1, none⟩ = some (.int .i64 y) := Y9.out v2 p2.bel; have P2 : Hid (PI w v2 s br (br + 1) m L2) := p2; clear r3 f23 Q2 F12 p2 yy))
              all_goals go_wp2
              go_meet
              case rel => exact ⟨rfl, _, P2.out.sm ⟨rfl, rfl, rfl, rfl⟩⟩
            · have e0 : (x.tmod 4 == 0) = false := by simpa using t0
              by_cases t1 : x.tmod 4 = 1
              · have e1 : (x.tmod 4 == 1) = true := by simpa using t1
                clear t0 t1
                have C1 : Hid (∀ _ : Unit, _) := fun _ => pop_any wr q
                have C2 : Hid (∀ w2, R w2 br (br + 1) m L a c → _) := fun w2 r2 => rpop_any w2 r2 (by omega) p.nd
                have ACT : Hid (∀ (w2 w3 : World) (f2 : Nat) (r2 : List Int) (a3 : Option Addr) (c3 : Nat), Q w2 (s + 1) s m f2 r2 (L.tail) → Fr wr.heap.size [s + 1, s] wr w2 → R w3 br (br + 1) m (L.tail) a3 c3 → Fr (br + 1) [br] w2 w3 → PI w w3 s br (br + 1) m (L.tail)) := fun w2 w3 f2 r2 a3 c3 q2 f12 r3 f23 => p.act ⟨HB.out, by omega, hsz⟩ q2 f12 r3 f23 (p.nd.tail)
                have OT : Hid (∀ w2, Fr wr.heap.size [s + 1, s] wr w2 → R w2 br (br + 1) m L a c) := fun w2 f12 => PI.other ra HB.out f12
                generalize L.tail = L2 at *
                generalize fE L = ee at *
                generalize L.headD 0 = hh at *
                clear p q ra HP hml
                go_wp2_with fail
                refine (C1.out ()).mono ?_
                rintro e v1 ⟨rfl, ⟨f2, q2⟩, f12⟩
                have Q2 : Hid (Q v1 (s + 1) s m f2 r L2) := q2
                have F12 : Hid (Fr wr.heap.size [s + 1, s] wr v1) := f12
                clear q2 f12
                go_wp2_with fail
                refine (C2.out v1 (OT.out v1 F12.out)).mono ?_
                rintro e v2 ⟨rfl, ⟨a3, c3, r3⟩, f23⟩
                have p2 := ACT.out _ _ _ _ _ _ Q2.out F12.out r3 f23
                clear r3 f23 Q2 F12
                go_wp2
                go_meet
                case rel => exact ⟨rfl, _, p2⟩
              · have e1 : (x.tmod 4 == 1) = false := by simpa using t1
                by_cases t2 : x.tmod 4 = 2
                · have e2 : (x.tmod 4 == 2) = true := by simpa using t2
                  clear t0 t1 t2
                  have C1 : Hid (∀ w1 : World, Sm w1 wr → _) := fun w1 e => act_drop p y w1 e
                  have C2 : Hid (∀ v1 w1 : World, Fr wr.heap.size [s + 1, s] wr v1 → Sm w1 v1 → _) := fun v1 w1 f e => act_rdrop p HB.out m2 hml y v1 w1 f e
                  have ACT : Hid (∀ (w2 w3 : World) (f2 : Nat) (r2 : List Int) (a3 : Option Addr) (c3 : Nat), Q w2 (s + 1) s m f2 r2 (wo L y) → Fr wr.heap.size [s + 1, s] wr w2 → R w3 br (br + 1) m (wo L y) a3 c3 → Fr (br + 1) [br] w2 w3 → PI w w3 s br (br + 1) m (wo L y)) := fun w2 w3 f2 r2 a3 c3 q2 f12 r3 f23 => p.act ⟨HB.out, by omega, hsz⟩ q2 f12 r3 f23 (nodup_wo _ _ p.nd)
                  have YF : Hid (∀ v1 : World, Fr wr.heap.size [s + 1, s] wr v1 → v1.cell? ⟨ab, off + k * 2 + 1, none⟩ = some (.int .i64 y)) := fun v1 f => Y9.out v1 (p.bel.trans ((f.less hsz).below (by simp)))
                  generalize wo L y = L2 at *
                  generalize dE L y = ee at *
                  have bb : (ee != ee) = false := by simp
                  clear p q ra HP hml
                  go_wp2_with fail
                  go_region_held3 (fun w' => w'.cell? ⟨ab, off + k * 2 + 1, none⟩ = some (.int .i64 y)) (go_keep)
                    (first | (go_at_call 14; refine (C1.out _ ?_).mono ?_; exact ⟨rfl, rfl, rfl, rfl⟩; rintro e v1 ⟨rfl, ⟨f2, r2, q2⟩, f12⟩; have yy := YF.out v1 f12; have Q2 : Hid (Q v1 (s + 1) s m f2 r2 L2) := q2; have F12 : Hid (Fr wr.heap.size [s + 1, s] wr v1) := f12; clear q2 f12) | (go_at_call 15; refine (C2.out v1 _ F12.out ?_).mono ?_; exact ⟨rfl, rfl, rfl, rfl⟩; rintro e v2 ⟨rfl, ⟨a3, c3, r3⟩, f23⟩; have p2 := ACT.out _ _ _ _ _ _ Q2.out F12.out r3 f23; have yy2 : v2.cell? ⟨ab, off + k * 2 + 1, none⟩ = some (.int .i64 y) := Y9.out v2 p2.bel; have P2 : Hid (PI w v2 s br (br + 1) m L2) := p2; clear r3 f23 Q2 F12 p2 yy))
                  all_goals go_wp2
                  go_meet
                  case rel => exact ⟨rfl, _, P2.out.sm ⟨rfl, rfl, rfl, rfl⟩⟩
                · have e2 : (x.tmod 4 == 2) = false := by simpa using t2
                  clear t0 t1 t2
                  have C1 : Hid (∀ _ : Unit, _) := fun _ => turn_any wr q p.nd
                  have C2 : Hid (∀ w2, R w2 br (br + 1) m L a c → _) := fun w2 r2 => rturn_any w2 r2 (by omega) p.nd
                  have ACT : Hid (∀ (w2 w3 : World) (f2 : Nat) (r2 : List Int) (a3 : Option Addr) (c3 : Nat), Q w2 (s + 1) s m f2 r2 (tL L) → Fr wr.heap.size [s + 1, s] wr w2 → R w3 br (br + 1) m (tL L) a3 c3 → Fr (br + 1) [br] w2 w3 → PI w w3 s br (br + 1) m (tL L)) := fun w2 w3 f2 r2 a3 c3 q2 f12 r3 f23 => p.act ⟨HB.out, by omega, hsz⟩ q2 f12 r3 f23 (nodup_tL _ p.nd)
                  have OT : Hid (∀ w2, Fr wr.heap.size [s + 1, s] wr w2 → R w2 br (br + 1) m L a c) := fun w2 f12 => PI.other ra HB.out f12
                  generalize tL L = L2 at *
                  generalize fE L = ee at *
                  clear p q ra HP hml
                  go_wp2_with fail
                  refine (C1.out ()).mono ?_
                  rintro e v1 ⟨rfl, ⟨f2, r2, q2⟩, f12⟩
                  have Q2 : Hid (Q v1 (s + 1) s m f2 r2 L2) := q2
                  have F12 : Hid (Fr wr.heap.size [s + 1, s] wr v1) := f12
                  clear q2 f12
                  go_wp2_with fail
                  refine (C2.out v1 (OT.out v1 F12.out)).mono ?_
                  rintro e v2 ⟨rfl, ⟨a3, c3, r3⟩, f23⟩
                  have p2 := ACT.out _ _ _ _ _ _ Q2.out F12.out r3 f23
                  clear r3 f23 Q2 F12
                  go_wp2
                  go_meet
                  case rel => exact ⟨rfl, _, p2⟩
          case rest =>
            obtain ⟨rfl, L2, p2⟩ := hcut
            clear p q ra HP hml hA Y9 x0 y0
            obtain ⟨a3, c3, r3⟩ := p2.r
            have hl2 : (L2.length : Int) ≤ 1024 := by obtain ⟨f, r, q⟩ := p2.q; have := q.rg.hc; omega
            obtain ⟨f4, r4, q4⟩ := p2.q
            have sz2 : s ≤ wc.heap.size := by have := p2.bel.size; have := HS.out; omega
            have T1 : Hid (∀ _ : Unit, _) := fun _ => front_any wc q4
            have T2 : Hid (∀ w1 : World, w1.heap = wc.heap → _) := fun w1 e => rfront_any w1 (r3.heap e) hl2
            have T3 : Hid (∀ w1 : World, w1.heap = wc.heap → _) := fun w1 e => len_any w1 (q4.heap e)
            have T4 : Hid (∀ w1 : World, w1.heap = wc.heap → _) := fun w1 e => cap_any w1 (q4.heap e)
            have T5 : Hid (∀ w1 : World, Sm w1 wc → _) := fun w1 e => list_sm p2 w1 e
            have T6 : Hid (∀ (w3 : World) (a3 : Option Addr) (c3 : Nat), _ → _ → _) := tail_facts a2 p2 sz2 hl2 r3
            have kc := r3.c1
            clear r3 p2 q4
            generalize L2.headD 0 = hd2 at *
            generalize fE L2 = fe2 at *
            generalize decide (a2 ∈ L2) = hz2 at *
            go_wp2_with fail
            refine (T1.out ()).mono ?_
            rintro e v3 ⟨rfl, d1, rfl⟩
            go_wp2_with fail
            refine (T2.out (wc.drewN d1) rfl).mono ?_
            rintro e v3 ⟨rfl, rfl⟩
            go_wp2_with fail
            have b1 : (hd2 != hd2) = false := by simp
            have b2 : (fe2 != fe2) = false := by simp
            have b3 : ((L2.length : Int) != (L2.length : Int)) = false := by simp
            have b4 : ((m : Int) != (m : Int)) = false := by simp
            go_region_held3 (fun w' => w'.cell? ⟨br, 1, none⟩ = some (.slice a3 L2.length c3)) (go_keep)
              (first | (go_at_call 20; refine (T3.out _ ?_).mono ?_; rfl; rintro e w' ⟨rfl, rfl⟩) | (go_at_call 21; refine (T4.out _ ?_).mono ?_; rfl; rintro e w' ⟨rfl, rfl⟩) | (go_at_call 23; refine (T5.out _ ?_).mono ?_; exact ⟨rfl, rfl, rfl, rfl⟩; rintro e w5 ⟨a5, c5, rfl, o5, bl5⟩; obtain ⟨kc5, I5, J5, K5, FIN⟩ := T6.out w5 a5 c5 o5 bl5; clear o5 bl5) | (go_at_call 22; refine (I5.out _ ?_).mono ?_; rfl; rintro e w' ⟨rfl, d5, rfl⟩) | (go_at_call 24; refine (J5.out _ ?_).mono ?_; rfl; rintro e w' ⟨rfl, d6, rfl⟩) | (go_at_call 25; refine (K5.out _ ?_).mono ?_; rfl; rintro e w' ⟨rfl, rfl⟩))
            all_goals go_wp2
            go_roundw
            case rel => exact ⟨k + 1, L2, by omega, by omega, FIN.out _ ⟨rfl, rfl, rfl, rfl⟩, by go_num⟩
            case measure => simp [intOf]; omega
        · have hb := p.bel
          clear p HP
          go_wp2_with fail
          refine (KN.out _).mono ?_
          rintro e u5 ⟨rfl, hb5⟩
          go_wp2
          go_ret
          exact ⟨rfl, hb.trans (hb5.mono hsz)⟩
      · have hb := p.bel
        clear p HP
        have hd : decide ((k : Int) < len1) = false := decide_eq_false h
        go_wp2_with fail
        refine (KN.out _).mono ?_
        rintro e u5 ⟨rfl, hb5⟩
        go_wp2
        go_ret
        exact ⟨rfl, hb.trans (hb5.mono hsz)⟩

set_option maxRecDepth 100000 in
theorem lifted (os : Os) (started : os.Started) (H : Type) (enc : TypeId × Value → H) :
    ReturnsInHanded {} Try.checked os 3 .any (Rows.fifoPlaysSpec.pre6 enc Try.prog Try.f3 Rows.fifoPlaysRow.domain false) (Rows.fifoPlaysSpec.post enc Try.prog Try.f3 false true false false) := by
  refine returnsInHanded_of_change (C := Try.checked) own started (by kernel_rfl) Try.func3
    (ChangeSpec.witness6 (enc := enc) (C := Try.checked) false ⟨#[], #[.int .i64 0, .slice none 0 0, .int .i64 0], []⟩ 8 (by kernel_rfl) (by kernel_rfl) (by kernel_rfl) (by kernel_rfl)) ?_
  intro W base args ds gs before hval0 hW hcnd _
  have hval : ∀ (j : Nat) t v, Try.f3.params[j]? = some t → args[j]? = some v → Value.okWide Try.prog W .any base t v := hval0
  have hW' := hW
  obtain ⟨p, q, hA0, hV, rfl, hfz, hnd⟩ := hW
  have hA : DataW.TrodAll enc Try.prog W 0 (fun _ => true) true Try.f3.params.toList args.toList ds p := hA0
  rw [Try.params3] at hA hval
  obtain ⟨v0, vs0, d0, ds0, p0, q0, hargs, rfl, rfl, h0, r0⟩ := trodAll_cons hA
  obtain ⟨v1, vs1, d1, ds1, p1, q1, rfl, rfl, rfl, h1, r1⟩ := trodAll_cons r0
  obtain ⟨v2, vs2, d2, ds2, p2, q2, rfl, rfl, rfl, h2, r2⟩ := trodAll_cons r1
  obtain ⟨rfl, rfl, rfl⟩ := trodAll_nil r2
  obtain rfl : args = #[v0, v1, v2] := by cases args; simp_all
  obtain ⟨rfl, rfl⟩ := trodVars_none hV
  obtain ⟨a0, rfl, rfl, rfl, w0⟩ := open_int Try.underlying3 (hval 0 3 v0 rfl rfl) h0
  obtain ⟨a1, len1, cap1, rfl⟩ := okWide_slice Try.underlying22 (hval 1 22 v1 rfl rfl)
  have k1 := h1
  have lt1 : ∀ x ∈ p1, x.block < W.heap.size := by obtain ⟨m, hm⟩ := k1; exact DataW.trod_lt m _ _ _ hm
  obtain ⟨X1, Y1, w1, z1⟩ : ∃ X Y : Nat → Int, PRow W (.slice a1 len1 cap1) len1 X Y ∧ ∀ i, i < len1 → (Lit.int .i64 (X i)).wf = true ∧ (Lit.int .i64 (Y i)).wf = true := by
    obtain ⟨fuel, hf⟩ := h1
    rcases open_slice_pairs Try.underlying22 Try.underlying32 (by kernel_rfl) rfl rfl (by kernel_rfl) (by kernel_rfl) hf with ⟨hcs, _⟩ | ⟨x, l, c, m, k, V0, V1, D0, D1, P0, P1, hcs, _, hl, hm, hmm, hx, hall⟩
    · simp [Value.cells] at hcs
      obtain ⟨rfl, rfl, rfl⟩ := hcs
      exact ⟨fun _ => 0, fun _ => 0, Or.inl ⟨rfl, none, 0, rfl⟩, fun i hi => by omega⟩
    · simp [Value.cells] at hcs
      obtain ⟨rfl, rfl, rfl⟩ := hcs
      rw [if_pos rfl] at hmm
      subst hmm
      obtain ⟨X, hX⟩ := exists_int_fn (V := V0) (n := len1) fun i hi => by
        obtain ⟨x, e, _, wf⟩ := DataW.trod_int Try.underlying3 (hall i (by omega)).2.2.1
        exact ⟨x, by simpa using e, wf⟩
      obtain ⟨Y, hY⟩ := exists_int_fn (V := V1) (n := len1) fun i hi => by
        obtain ⟨x, e, _, wf⟩ := DataW.trod_int Try.underlying3 (hall i (by omega)).2.2.2
        exact ⟨x, by simpa using e, wf⟩
      refine ⟨X, Y, prow_of_cells (Or.inr ⟨_, rfl, hl, fun i hi => ?_⟩), fun i hi => ⟨(hX i hi).2, (hY i hi).2⟩⟩
      rw [← (hX i hi).1, ← (hY i hi).1]
      exact ⟨(hall i (by omega)).1, (hall i (by omega)).2.1⟩
  obtain ⟨a2, rfl, rfl, rfl, w2⟩ := open_int Try.underlying3 (hval 2 3 v2 rfl rfl) h2
  clear hA0 hval0
  refine (walk a0 a1 len1 cap1 X1 Y1 a2 W w0 w1 z1 w2).mono fun e W' ⟨he, bel⟩ => ?_
  subst he
  exact ⟨_, rfl, _, _, _, [], _, [], hW', trodAll_mk1 (shut_bool Try.underlying4 _), (trodAll_cons_mk (shut_int Try.underlying3 w0) (trodAll_cons_mk (Below.trod laidOut (by kernel_rfl) (of_decide_eq_true (by kernel_rfl)) k1 bel lt1) (trodAll_cons_mk (shut_int Try.underlying3 w2) trodAll_mk0))), rfl, bel.frame _, fun h => by cases h⟩

theorem over : Rows.FifoPlaysSaid :=
  OpenClaim.holds_of_wide 3 Try.f3 rfl rfl rfl rfl rfl rfl rfl ⟨rfl, rfl, rfl, rfl, rfl⟩ rfl rfl rfl rfl rfl (by kernel_rfl) Try.func3 (by kernel_rfl)
    (of_decide_eq_true (by kernel_rfl)) (by unfold Func.isWrapper; first | (rw [if_pos (by decide +kernel)]; kernel_rfl) | (rw [if_neg (by decide +kernel)]; exact ⟨rfl, rfl⟩))
    (fun os started H enc _ => lifted os started H enc)
end Go.Proofs.Ytdkacamnelodaaa.fifoPlays

namespace Go.Proofs.Ytdkacamnelodaaa
open Go
theorem fifoPlays_holds : Rows.FifoPlaysSaid := fifoPlays.over
#print axioms fifoPlays_holds
end Go.Proofs.Ytdkacamnelodaaa
