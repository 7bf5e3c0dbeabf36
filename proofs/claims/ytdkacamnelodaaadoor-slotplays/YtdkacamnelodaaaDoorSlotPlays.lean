/- Proved: for every number most, every list acts of numbers and every number n, davitlaw04.SlotPlays(most, acts, n) returns true: a table of any size that is played with answers what the document says (200 acts at most, as the law itself says), and acts is left alone; no condition but that the listed table is as the program's text lays it, which the card ties. -/
import Derived.Test.YtdkacamnelodaaaDoorRows
import Derived.Test.YtdkacamnelodaaaDoorTie
import Derived.Test.YtdkacamnelodaaaDoorCards
import Derived.Test.YtdkacamnelodaaaDoorMu
import Derived.Test.YtdkacamnelodaaaDoorFo
import Derived.Test.YtdkacamnelodaaaDoorSs
import Derived.WalkKit
import Derived.ProofKit
import Derived.OpenShut
import Derived.Stop.Joined
import Derived.ShutString
import Derived.ChangeOld
import Derived.Below
import Derived.Carry
import Derived.LaidMore
import Derived.SevenTiedAt
import Derived.Deep.DeepCutAuto
import Derived.Deep.CutBlock
import Derived.Deep.RegionHeld3
namespace Go.Proofs.YtdkacamnelodaaaDoor.slotPlays
open Go.ChangeShapes Go.WideShapes Go.ChangeAt Go.RowKit
open Mm Sl
set_option linter.unusedVariables false

set_option maxRecDepth 100000 in
set_option maxHeartbeats 4000000 in
theorem walk (a0 : Int) (a1 : Option Addr) (len1 cap1 : Nat) (xs1 : List Int) (a2 : Int) (w : World) (w0 : (Lit.int .i64 a0).wf = true) (w1 : Row w (.slice a1 len1 cap1) xs1) (l1 : xs1.length = len1) (z1 : ∀ n ∈ xs1, (Lit.int .i64 n).wf = true) (w2 : (Lit.int .i64 a2).wf = true) (ht : Tab w) (hs : 0 < w.heap.size) :
    Calls Tryd.prog 3 #[.int .i64 a0, .slice a1 len1 cap1, .int .i64 a2] w fun e w' => e = .returned (.bool true) ∧ Below w.heap.size w w' := by
  have KN : Hid (∀ w1, Tab w1 → 0 < w1.heap.size → _) := fun w1 ht hs => known_yes w1 ht hs
  have H0 : Hid (0 < w.heap.size) := hs
  have HT : Hid (Tab w) := ht
  by_cases wrong : a0 < 1 ∨ 1024 < a0
  · have C : Hid (∀ w, _) := fun w => new_bad a0 w wrong
    have D : Hid (∀ w, _) := fun w => rnew_bad a0 w wrong
    clear wrong w0 w1 w2 l1 z1 ht hs
    go_enter Tryd.func3, Tryd.ntmps3
    go_wp2_with fail
    refine (C.out _).mono ?_
    rintro e u1 ⟨rfl, rfl⟩
    go_wp2_with fail
    refine (D.out _).mono ?_
    rintro e u1 ⟨rfl, rfl⟩
    go_wp2_with fail
    refine (KN.out _ HT.out H0.out).mono ?_
    rintro e u1 ⟨rfl, hb⟩
    go_wp2
    go_ret
    exact ⟨rfl, hb⟩
  · obtain ⟨m, rfl⟩ := Int.eq_ofNat_of_zero_le (show 0 ≤ a0 by omega)
    have m1 : (1 : Int) ≤ m := by omega
    have m2 : (m : Int) ≤ 1024 := by omega
    have C : Hid (∀ _ : Unit, _) := fun _ => new_any m w m1 m2
    have D : Hid (∀ w1, _) := fun w1 => rnew_any m w1 m1 m2
    have HR : Hid (Row w (.slice a1 len1 cap1) xs1) := w1
    have HL : Hid (xs1.length = len1) := l1
    obtain ⟨s, hsz⟩ : ∃ s, w.heap.size = s := ⟨_, rfl⟩
    have TB : Hid (∀ w2, Below s w w2 → Tab w2) := fun w2 b => ht.keep (B := s) (by omega) (by simp) (Fr.of_below b)
    have HS : Hid (w.heap.size = s) := hsz
    rw [hsz] at C H0 ⊢
    clear wrong w0 w1 w2 z1 l1 hsz ht hs HT
    go_enter Tryd.func3, Tryd.ntmps3
    go_wp2_with fail
    refine (C.out ()).mono ?_
    rintro e u1 ⟨rfl, ⟨W1, q1⟩, f1⟩
    have lt1 := q1.sb.lt
    have Q1 : Hid (T u1 (s + 1) s m W1 fun _ => false) := q1
    have B1 : Hid (Below s w u1) := f1.below (by simp)
    clear q1 f1
    go_wp2_with fail
    refine (D.out u1).mono ?_
    rintro e u2 ⟨rfl, ⟨g2, c2, r2⟩, f2⟩
    have PI0 : Hid (PS w u2 s u1.heap.size (u1.heap.size + 1) m fun _ => false) := ⟨⟨_, Q1.out.keep f2 ⟨lt1, by omega⟩ ⟨by simp, by simp⟩⟩, ⟨_, _, r2⟩, B1.out.trans ((f2.less (by omega)).below (by simp))⟩
    have HB : Hid (s + 1 < u1.heap.size) := lt1
    clear r2 f2 lt1
    generalize u1.heap.size = br at *
    clear Q1 B1
    go_wp2
    go_loopw [11] (fun i wr => ∃ (k : Nat) (O : Nat → Bool), (k : Int) ≤ 200 ∧ (k : Int) ≤ len1 ∧ PS w wr s br (br + 1) m O ∧ i = .int .i64 k) (fun i _ => 200 - (intOf i).toNat)
    case atStart => exact ⟨0, _, by omega, by omega, PI0.out, rfl⟩
    case round =>
      obtain ⟨k, O, hk, hk2, p, rfl⟩ := hrel
      have hsz : s ≤ wr.heap.size := by have := p.bel.size; have := HS.out; omega
      clear PI0
      by_cases h : (k : Int) < len1
      · by_cases h2 : (k : Int) < 200
        · obtain ⟨ab, off, rfl, hA⟩ : ∃ ab off, a1 = some ⟨ab, off, none⟩ ∧ Hid (∀ w2 : World, Below s w w2 → w2.cell? ⟨ab, off + k, none⟩ = some (.int .i64 (xs1.getD k 0))) := by
            obtain ⟨ab, off, ea, _⟩ := row_cell (wr := wr) HR.out HL.out (by rw [HS.out]; exact p.bel) h
            refine ⟨ab, off, ea, fun w2 b2 => ?_⟩
            obtain ⟨ab2, off2, ea2, hc2⟩ := row_cell (wr := w2) HR.out HL.out (by rw [HS.out]; exact b2) h
            rw [ea] at ea2
            cases ea2
            exact hc2
          have x0 := hA.out wr p.bel
          generalize xs1.getD k 0 = x at *
          go_upto_if 54 with (fail)
          go_cut [11] (fun i wx => i = .int .i64 k ∧ ∃ O2, PS w wx s br (br + 1) m O2)
          case first =>
            by_cases t0 : x = 0
            · subst t0
              obtain ⟨W, t⟩ := p.t
              obtain ⟨g, c, r⟩ := p.r
              have C1 : Hid (∀ _ : Unit, _) := fun _ => take_any wr t (TB.out wr p.bel)
              have C2 : Hid (∀ w2, RT w2 br g (br + 1) m c O → _) := fun w2 r2 => rtake_any w2 r2
              have ACT : Hid (∀ (w2 w3 : World) (W2 : List Nat) (g3 c3 : Nat), T w2 (s + 1) s m W2 (tO O (ff m O)) → Fr wr.heap.size [s + 1, s] wr w2 → RT w3 br g3 (br + 1) m c3 (tO O (ff m O)) → Fr (br + 1) [] w2 w3 → PS w w3 s br (br + 1) m (tO O (ff m O))) := fun w2 w3 W2 g3 c3 t2 f12 r3 f23 => p.act ⟨HB.out, by omega, hsz⟩ t2 f12 r3 f23
              have OT : Hid (∀ w2, Fr wr.heap.size [s + 1, s] wr w2 → RT w2 br g (br + 1) m c O) := fun w2 f12 => PS.other r HB.out f12
              generalize tO O (ff m O) = O2 at *
              generalize tN (ff m O) = n1 at *
              generalize tE (ff m O) = n2 at *
              clear p t r
              go_wp2_with fail
              refine (C1.out ()).mono ?_
              rintro e v1 ⟨rfl, ⟨W2, t2⟩, f12⟩
              have T2 : Hid (T v1 (s + 1) s m W2 O2) := t2
              have F12 : Hid (Fr wr.heap.size [s + 1, s] wr v1) := f12
              clear t2 f12
              go_wp2_with fail
              refine (C2.out v1 (OT.out v1 F12.out)).mono ?_
              rintro e v2 ⟨rfl, r3, f23⟩
              have p2 := ACT.out _ _ _ _ _ T2.out F12.out r3 f23
              clear r3 f23 T2 F12
              go_wp2
              go_meet
              case rel => exact ⟨rfl, _, p2⟩
            · have e0 : (x == 0) = false := by simpa using t0
              have C1 : Hid (∀ w1 : World, Sm w1 wr → _) := fun w1 e => act_give p x w1 e
              have C2 : Hid (∀ v1 w1 : World, Fr wr.heap.size [s + 1, s] wr v1 → Sm w1 v1 → _) := fun v1 w1 f e => act_rgive p HB.out x v1 w1 f e
              have ACT : Hid (∀ (w2 w3 : World) (W2 : List Nat) (g3 c3 : Nat), T w2 (s + 1) s m W2 (gO m O x) → Fr wr.heap.size [s + 1, s] wr w2 → RT w3 br g3 (br + 1) m c3 (gO m O x) → Fr (br + 1) [] w2 w3 → PS w w3 s br (br + 1) m (gO m O x)) := fun w2 w3 W2 g3 c3 t2 f12 r3 f23 => p.act ⟨HB.out, by omega, hsz⟩ t2 f12 r3 f23
              have YF : Hid (∀ v1 : World, Fr wr.heap.size [s + 1, s] wr v1 → v1.cell? ⟨ab, off + k, none⟩ = some (.int .i64 x)) := fun v1 f => hA.out v1 (p.bel.trans ((f.less hsz).below (by simp)))
              generalize gO m O x = O2 at *
              generalize gE m O x = ee at *
              have bb : (ee != ee) = false := by simp
              clear p t0
              go_wp2_with fail
              go_region_held3 (fun w' => w'.cell? ⟨ab, off + k, none⟩ = some (.int .i64 x)) (go_keep)
                (first | (go_at_call 10; refine (C1.out _ ?_).mono ?_; exact ⟨rfl, rfl, rfl, rfl⟩; rintro e v1 ⟨rfl, ⟨W2, t2⟩, f12⟩; have yy := YF.out v1 f12; have T2 : Hid (T v1 (s + 1) s m W2 O2) := t2; have F12 : Hid (Fr wr.heap.size [s + 1, s] wr v1) := f12; clear t2 f12) | (go_at_call 11; refine (C2.out v1 _ F12.out ?_).mono ?_; exact ⟨rfl, rfl, rfl, rfl⟩; rintro e v2 ⟨rfl, ⟨g3, c3, r3⟩, f23⟩; have p2 := ACT.out _ _ _ _ _ T2.out F12.out r3 f23; have yy2 : v2.cell? ⟨ab, off + k, none⟩ = some (.int .i64 x) := hA.out v2 p2.bel; have P2 : Hid (PS w v2 s br (br + 1) m O2) := p2; clear r3 f23 T2 F12 p2 yy))
              all_goals go_wp2
              go_meet
              case rel => exact ⟨rfl, _, P2.out.sm ⟨rfl, rfl, rfl, rfl⟩⟩
          case rest =>
            obtain ⟨rfl, O2, p2⟩ := hcut
            clear p hA x0
            obtain ⟨g3, c3, r3⟩ := p2.r
            have sz2 : s ≤ wc.heap.size := by have := p2.bel.size; have := HS.out; omega
            have hl2 : ((li m O2).length : Int) ≤ 1024 := by have := li_le m O2; omega
            have R1 : Hid (∀ _ : Unit, _) := fun _ => rlist_any wc r3
            have P2 : Hid (PS w wc s br (br + 1) m O2) := p2
            clear r3 p2
            go_wp2_with fail
            refine (R1.out ()).mono ?_
            rintro e v3 ⟨v, rfl, gt⟩
            obtain ⟨la, lc, rfl⟩ := own_shape gt.own
            have p3 := P2.out.new gt.bel sz2
            obtain ⟨W3, t3⟩ := p3.t
            obtain ⟨g4, c4, r4⟩ := p3.r
            have sz3 : s ≤ v3.heap.size := by have := p3.bel.size; have := HS.out; omega
            have L1 : Hid (∀ _ : Unit, _) := fun _ => len_any v3 t3
            have L2 : Hid (∀ _ : Unit, _) := fun _ => cap_any v3 t3
            have L3 : Hid (∀ _ : Unit, _) := fun _ => has_any a2 v3 t3
            have L4 : Hid (∀ _ : Unit, _) := fun _ => rhas_any a2 v3 r4
            have L5 : Hid (∀ _ : Unit, _) := fun _ => list_any v3 t3 (TB.out v3 p3.bel) (by have := H0.out; omega)
            have RW : Hid (Row v3 (.slice la (li m O2).length lc) (li m O2)) := row_of_owns gt.own
            have P3 : Hid (PS w v3 s br (br + 1) m O2) := p3
            clear gt p3 t3 r4 R1 P2
            generalize hs m O2 a2 = hb2 at *
            obtain ⟨LL, hLL⟩ : ∃ LL, li m O2 = LL := ⟨_, rfl⟩
            rw [hLL] at hl2 L1 L5 RW
            rw [hLL]
            clear hLL
            have b1 : ((LL.length : Int) != (LL.length : Int)) = false := by simp
            have b2 : ((m : Int) != (m : Int)) = false := by simp
            have b3 : (hb2 != hb2) = false := by simp
            go_wp2_with fail
            refine (L1.out ()).mono ?_
            rintro e v4 ⟨rfl, rfl⟩
            go_wp2_with fail
            refine (L2.out ()).mono ?_
            rintro e v4 ⟨rfl, rfl⟩
            go_wp2_with fail
            refine (L3.out ()).mono ?_
            rintro e v4 ⟨rfl, rfl⟩
            go_wp2_with fail
            refine (L4.out ()).mono ?_
            rintro e v4 ⟨rfl, rfl⟩
            go_wp2_with fail
            refine (L5.out ()).mono ?_
            rintro e v5 ⟨v, rfl, gt5⟩
            have I : Hid (∀ _ : Unit, _) := fun _ => ints_any LL v _ v5 (by omega) (row_of_owns gt5.own) (RW.out.keep (B := v4.heap.size) (Fr.of_below gt5.bel) (Nat.le_refl _))
            have P5 : Hid (PS w v5 s br (br + 1) m O2) := P3.out.new gt5.bel sz3
            clear gt5
            go_wp2_with fail
            refine (I.out ()).mono ?_
            rintro e v6 ⟨rfl, d, rfl⟩
            go_wp2
            go_roundw
            case rel => exact ⟨k + 1, O2, by omega, by omega, P5.out.sm ⟨rfl, rfl, rfl, rfl⟩, by go_num⟩
            case measure => simp [intOf]; omega
        · have hb := p.bel
          clear p
          go_wp2_with fail
          refine (KN.out wr (TB.out wr hb) (by have := H0.out; omega)).mono ?_
          rintro e u5 ⟨rfl, hb5⟩
          go_wp2
          go_ret
          exact ⟨rfl, hb.trans (hb5.mono hsz)⟩
      · have hb := p.bel
        clear p
        have hd : decide ((k : Int) < len1) = false := decide_eq_false h
        go_wp2_with fail
        refine (KN.out wr (TB.out wr hb) (by have := H0.out; omega)).mono ?_
        rintro e u5 ⟨rfl, hb5⟩
        go_wp2
        go_ret
        exact ⟨rfl, hb.trans (hb5.mono hsz)⟩

set_option maxRecDepth 100000 in
theorem lifted (os : Os) (started : os.Started) (H : Type) (enc : TypeId × Value → H) :
    ReturnsInHanded {} Tryd.checked os 3 .any (fun w args => (Rows.slotPlaysSpec.pre enc Tryd.prog Tryd.f3 [] false w args ∧ laidMetH Tryd.prog laidTab w) ∧ sizedMet enc Tryd.prog Tryd.f3 (OpenSpec.ofChange Rows.slotPlaysSpec) false w args)
      (Rows.slotPlaysSpec.post enc Tryd.prog Tryd.f3 false true false false) := by
  refine returnsInHanded_of_change_and (C := Tryd.checked) (X := fun w _ => laidMetH Tryd.prog laidTab w) (fun _ _ _ hh h => h.of_heap hh) own started (by kernel_rfl) Tryd.func3
    (ChangeSpec.witness_shaped (enc := enc) (C := Tryd.checked) (os := os) (X := fun w _ => laidMetH Tryd.prog laidTab w) false (World.doorLaid Tryd.prog 400 os) #[.int .i64 0, .slice none 0 0, .int .i64 0] 8 rfl (World.shaped_of_RefB (by kernel_rfl) (by kernel_rfl)) (by kernel_rfl) (by kernel_rfl) (by kernel_rfl) (door_met os _)) ?_
  intro W base args ds gs before hval0 hW _ _ hL _
  have hval : ∀ (j : Nat) t v, Tryd.f3.params[j]? = some t → args[j]? = some v → Value.okWide Tryd.prog W .any base t v := hval0
  have hW' := hW
  obtain ⟨p, q, hA0, hV, rfl, hfz, hnd⟩ := hW
  have hA : DataW.TrodAll enc Tryd.prog W 0 (fun _ => true) true Tryd.f3.params.toList args.toList ds p := hA0
  rw [Tryd.params3] at hA hval
  obtain ⟨v0, vs0, d0, ds0, p0, q0, hargs, rfl, rfl, h0, r0⟩ := trodAll_cons hA
  obtain ⟨v1, vs1, d1, ds1, p1, q1, rfl, rfl, rfl, h1, r1⟩ := trodAll_cons r0
  obtain ⟨v2, vs2, d2, ds2, p2, q2, rfl, rfl, rfl, h2, r2⟩ := trodAll_cons r1
  obtain ⟨rfl, rfl, rfl⟩ := trodAll_nil r2
  obtain rfl : args = #[v0, v1, v2] := by cases args; simp_all
  obtain ⟨rfl, rfl⟩ := trodVars_none hV
  obtain ⟨a0, rfl, rfl, rfl, w0⟩ := open_int Tryd.underlying3 (hval 0 3 v0 rfl rfl) h0
  obtain ⟨a1, len1, cap1, rfl⟩ := okWide_slice Tryd.underlying22 (hval 1 22 v1 rfl rfl)
  have k1 := h1
  have lt1 : ∀ x ∈ p1, x.block < W.heap.size := by obtain ⟨m, hm⟩ := k1; exact DataW.trod_lt m _ _ _ hm
  obtain ⟨xs1, w1, l1, z1⟩ : ∃ xs, Row W (.slice a1 len1 cap1) xs ∧ xs.length = len1 ∧ ∀ n ∈ xs, (Lit.int .i64 n).wf = true := by
    obtain ⟨fuel, hf⟩ := h1
    rcases open_ints Tryd.underlying22 Tryd.underlying3 (by kernel_rfl) hf with ⟨hcs, _⟩ | ⟨x, l, c, zs, hcs, _, hl, hm, hz, _, hcell, hwz⟩
    · simp [Value.cells] at hcs
      obtain ⟨rfl, rfl, rfl⟩ := hcs
      exact ⟨[], Or.inl ⟨rfl, none, 0, rfl⟩, rfl, fun n hn => by simp at hn⟩
    · simp [Value.cells] at hcs
      obtain ⟨rfl, rfl, rfl⟩ := hcs
      obtain ⟨xs, r1, r2, r3⟩ := row_of_cells (zs := zs) (Or.inr ⟨_, rfl, hl, by simpa using hz, hcell⟩)
      exact ⟨xs, r1, r2, fun n hn => hwz n (r3 n hn)⟩
  obtain ⟨a2, rfl, rfl, rfl, w2⟩ := open_int Tryd.underlying3 (hval 2 3 v2 rfl rfl) h2
  obtain ⟨hT, hS⟩ := of_laid hL
  clear hA0 hval0
  refine (walk a0 a1 len1 cap1 xs1 a2 W w0 w1 l1 z1 w2 hT hS).mono fun e W' ⟨he, bel⟩ => ?_
  subst he
  exact ⟨_, rfl, _, _, _, [], _, [], hW', trodAll_mk1 (shut_bool Tryd.underlying4 _), (trodAll_cons_mk (shut_int Tryd.underlying3 w0) (trodAll_cons_mk (Below.trod laidOut (by kernel_rfl) (of_decide_eq_true (by kernel_rfl)) k1 bel lt1) (trodAll_cons_mk (shut_int Tryd.underlying3 w2) trodAll_mk0))), rfl, bel.frame _, fun h => by cases h⟩

theorem over : Rows.SlotPlaysSaid :=
  OpenClaim.holds_of_wide 3 Tryd.f3 rfl rfl rfl rfl rfl rfl rfl ⟨rfl, rfl, rfl, rfl, rfl⟩ rfl rfl rfl rfl rfl (by kernel_rfl) Tryd.func3 (by kernel_rfl)
    (of_decide_eq_true (by kernel_rfl)) (by unfold Func.isWrapper; first | (rw [if_pos (by decide +kernel)]; kernel_rfl) | (rw [if_neg (by decide +kernel)]; exact ⟨rfl, rfl⟩))
    (fun os started H enc _ => lifted os started H enc)
end Go.Proofs.YtdkacamnelodaaaDoor.slotPlays

namespace Go.Proofs.YtdkacamnelodaaaDoor
open Go
theorem slotPlays_card : Rows.SlotPlaysCardSaid :=
  Claim7.holds_tied_plain_at .later [] [.data] true (true, "bbe5e8cc457fa9530c7762d472c60528add6950c8a8bac24023daf62482e6ff6") false
    slotPlays.over (fun _ h => by cases h) (by kernel_rfl) (fun _ h => by cases h) slotPlays_row_tie rfl ⟨rfl, rfl⟩ (by kernel_rfl) rfl
    (fun f fn hf hfn => by
      obtain rfl : f = 3 := Option.some.inj ((show Tryd.prog.funcNamed "davit/davitlaw04.SlotPlays" = some 3 by kernel_rfl).symm.trans hf) |>.symm
      obtain rfl : fn = Tryd.f3 := (Option.some.inj (Tryd.func3.symm.trans hfn)).symm
      exact ⟨by kernel_rfl, fun j t ht => by
        rw [Tryd.params3] at ht
        have hm : t ∈ [3, 22, 3] := by simpa using Array.mem_of_getElem? ht
        have hall : ([3, 22, 3].all fun u => !Tryd.prog.wantsStandIn u) = true := by kernel_rfl
        exact (show Tryd.prog.wantsStandIn t = false by simpa using List.all_eq_true.1 hall t hm)⟩)
    (by kernel_rfl)
#print axioms slotPlays_card
end Go.Proofs.YtdkacamnelodaaaDoor
