/- Proved: for every number most and every list acts of numbers, davitlaw04.SlotOnce(most, acts) returns true: no number is given out twice, unless it was given back, and as long as fewer are given out than there are, there is one (200 acts at most, as the law itself says), and acts is left alone; no condition but that the listed table is as the program's text lays it, which the card ties. -/
import Derived.Test.YtdkacamnelodaaaDoorRows
import Derived.Test.YtdkacamnelodaaaDoorTie
import Derived.Test.YtdkacamnelodaaaDoorCards
import Derived.Test.YtdkacamnelodaaaDoorMu
import Derived.Test.YtdkacamnelodaaaDoorFo
import Derived.Test.YtdkacamnelodaaaDoorSs
import Derived.WalkKit
import Derived.ProofKit
import Derived.OpenShut
import Derived.Stop.Joined
import Derived.ShutString
import Derived.ChangeOld
import Derived.Below
import Derived.Carry
import Derived.LaidMore
import Derived.SevenTiedAt
namespace Go.Proofs.YtdkacamnelodaaaDoor.slotOnce
open Go.ChangeShapes Go.WideShapes Go.ChangeAt Go.RowKit
open Mm Sl
set_option linter.unusedVariables false

set_option maxRecDepth 100000 in
set_option maxHeartbeats 4000000 in
theorem walk (a0 : Int) (a1 : Option Addr) (len1 cap1 : Nat) (xs1 : List Int) (w : World) (w0 : (Lit.int .i64 a0).wf = true) (w1 : Row w (.slice a1 len1 cap1) xs1) (l1 : xs1.length = len1) (z1 : ∀ n ∈ xs1, (Lit.int .i64 n).wf = true) (ht : Tab w) (hs : 0 < w.heap.size) :
    Calls Tryd.prog 4 #[.int .i64 a0, .slice a1 len1 cap1] w fun e w' => e = .returned (.bool true) ∧ Below w.heap.size w w' := by
  have KN : Hid (∀ w1, Tab w1 → 0 < w1.heap.size → _) := fun w1 ht hs => known_yes w1 ht hs
  have H0 : Hid (0 < w.heap.size) := hs
  have HT : Hid (Tab w) := ht
  by_cases wrong : a0 < 1 ∨ 1024 < a0
  · have C : Hid (∀ w, _) := fun w => new_bad a0 w wrong
    clear w0 w1 l1 z1 ht hs
    rcases wrong with wr1 | wr2
    · go_enter Tryd.func4, Tryd.ntmps4
      go_wp2_with fail
      refine (C.out _).mono ?_
      rintro e u1 ⟨rfl, rfl⟩
      go_wp2_with fail
      refine (KN.out _ HT.out H0.out).mono ?_
      rintro e u1 ⟨rfl, hb⟩
      go_wp2
      go_ret
      exact ⟨rfl, hb⟩
    · have wr3 : (1 : Int) ≤ a0 := by omega
      go_enter Tryd.func4, Tryd.ntmps4
      go_wp2_with fail
      refine (C.out _).mono ?_
      rintro e u1 ⟨rfl, rfl⟩
      go_wp2_with fail
      refine (KN.out _ HT.out H0.out).mono ?_
      rintro e u1 ⟨rfl, hb⟩
      go_wp2
      go_ret
      exact ⟨rfl, hb⟩
  · obtain ⟨m, rfl⟩ := Int.eq_ofNat_of_zero_le (show 0 ≤ a0 by omega)
    have m1 : (1 : Int) ≤ m := by omega
    have m2 : (m : Int) ≤ 1024 := by omega
    have C : Hid (∀ _ : Unit, _) := fun _ => new_any m w m1 m2
    have HR : Hid (Row w (.slice a1 len1 cap1) xs1) := w1
    have HL : Hid (xs1.length = len1) := l1
    have hP : Hid (∀ k ∈ [w.heap.size + 1, w.heap.size], w.heap.size ≤ k) := by unfold Hid; simp
    obtain ⟨s, hsz⟩ : ∃ s, w.heap.size = s := ⟨_, rfl⟩
    have TB : Hid (∀ w2, Below s w w2 → Tab w2) := fun w2 b => ht.keep (B := s) (by omega) (by simp) (Fr.of_below b)
    have HS : Hid (w.heap.size = s) := hsz
    rw [hsz] at C H0 hP ⊢
    clear wrong w0 w1 z1 l1 hsz ht hs HT
    go_enter Tryd.func4, Tryd.ntmps4
    go_wp2_with fail
    refine (C.out ()).mono ?_
    rintro e u1 ⟨rfl, ⟨W1, q1⟩, f1⟩
    have Q1 : Hid (T u1 (s + 1) s m W1 fun _ => false) := q1
    have B1 : Hid (Below s w u1) := f1.below (by simp)
    clear q1 f1
    go_wp2
    go_loopw [7] (fun i wr => ∃ (k : Nat) (W : List Nat) (O : Nat → Bool), (k : Int) ≤ 200 ∧ (k : Int) ≤ len1 ∧ T wr (s + 1) s m W O ∧ Below s w wr ∧ i = .int .i64 k) (fun i _ => 200 - (intOf i).toNat)
    case atStart => exact ⟨0, _, _, by omega, by omega, Q1.out, B1.out, rfl⟩
    case round =>
      obtain ⟨k, W, O, hk, hk2, t, hb, rfl⟩ := hrel
      have hsz : s ≤ wr.heap.size := by have := hb.size; have := HS.out; omega
      have HB : Hid (Below s w wr) := hb
      clear Q1 B1
      by_cases h : (k : Int) < len1
      · by_cases h2 : (k : Int) < 200
        · obtain ⟨ab, off, rfl, x0⟩ := row_cell (wr := wr) HR.out HL.out (by rw [HS.out]; exact hb) h
          generalize xs1.getD k 0 = x at *
          by_cases t0 : x = 0
          · subst t0
            have L1 : Hid (∀ _ : Unit, _) := fun _ => list_any wr t (TB.out wr hb) (by have := H0.out; omega)
            have HT0 : Hid (T wr (s + 1) s m W O) := t
            have hll : ((li m O).length : Int) ≤ 1024 := by have := li_le m O; omega
            clear t hb
            go_wp2_with fail
            refine (L1.out ()).mono ?_
            rintro e v1 ⟨v, rfl, gt⟩
            obtain ⟨la, lc, rfl⟩ := own_shape gt.own
            have t1 := HT0.out.keep (Fr.of_below gt.bel) ⟨HT0.out.sb.lt, HT0.out.sg.lt⟩ ⟨by simp, by simp⟩
            have b1 : Hid (Below s w v1) := HB.out.trans (gt.bel.mono hsz)
            have C2 : Hid (∀ _ : Unit, _) := fun _ => take_any v1 t1 (TB.out v1 b1.out)
            have OW : Hid (v1.ownsRow wr.heap.size 3 1 (.slice la (li m O).length lc) (li m O).length ((li m O).map (Value.int .i64))) := gt.own
            have hlt : Hid (∀ k ∈ [s + 1, s], k < wr.heap.size) := by have := HT0.out.sb.lt; have := HT0.out.sg.lt; unfold Hid; simp; omega
            have z1 : s ≤ v1.heap.size := by have := b1.out.size; have := HS.out; omega
            clear gt t1 HT0
            generalize wr.heap.size = base at *
            rcases ff_cases m O with ⟨ef, el⟩ | ⟨i, ef, el, en⟩
            · rw [ef, show tN none = 0 from rfl, show tE none = 5 from rfl, show tO O none = O from rfl] at C2
              rw [el] at OW hll ⊢
              clear ef el
              go_wp2_with fail
              refine (C2.out ()).mono ?_
              rintro e v2 ⟨rfl, ⟨W2, t2⟩, f2⟩
              have T2 : Hid (T v2 (s + 1) s m W2 O) := t2
              have B2 : Hid (Below s w v2) := fr_own b1.out f2 z1 hP.out
              clear t2 f2
              go_wp2
              go_loop [11] (fun j => ∃ q : Nat, (q : Int) ≤ m ∧ j = .int .i64 q) (fun j => m - (intOf j).toNat)
              case atStart => exact ⟨0, by omega, rfl⟩
              case round =>
                obtain ⟨q, hq, rfl⟩ := hrel
                by_cases hq2 : (q : Int) < m
                · go_wp2
                  go_round
                  case rel => exact ⟨q + 1, by omega, by go_num⟩
                  case measure => simp [intOf]; omega
                · go_wp2
                  go_roundw
                  case rel => exact ⟨k + 1, _, _, by omega, by omega, T2.out, B2.out, by go_num⟩
                  case measure => simp [intOf]; omega
            · rw [ef, show tN (some i) = ((i + 1 : Nat) : Int) from rfl, show tE (some i) = 0 from rfl, show tO O (some i) = st O (i + 1) true from rfl] at C2
              have el2 : ((li m O).length : Int) < m := by omega
              have EN : Hid (∀ q : Nat, (q : Int) < (li m O).length → ((li m O).getD q 0 == ((i + 1 : Nat) : Int)) = false) := fun q hq => by
                have hm : (li m O).getD q 0 ∈ li m O := by
                  rw [List.getD_eq_getElem?_getD, List.getElem?_eq_getElem (by omega)]
                  exact List.getElem_mem _
                have := en _ hm
                simp only [beq_eq_false_iff_ne]
                omega
              obtain ⟨n, hn⟩ : ∃ n, ((i + 1 : Nat) : Int) = n := ⟨_, rfl⟩
              rw [hn] at C2 EN
              generalize st O (i + 1) true = O2 at *
              clear ef el en hn
              generalize li m O = LL at *
              go_wp2_with fail
              refine (C2.out ()).mono ?_
              rintro e v2 ⟨rfl, ⟨W2, t2⟩, f2⟩
              have T2 : Hid (T v2 (s + 1) s m W2 O2) := t2
              have B2 : Hid (Below s w v2) := fr_own b1.out f2 z1 hP.out
              have O2w : Hid (v2.ownsRow base 3 1 (.slice la LL.length lc) LL.length (LL.map (Value.int .i64))) := owns_keep OW.out f2 (Nat.le_refl _) hlt.out
              clear t2 f2
              obtain ⟨l, hl⟩ : ∃ l, LL.length = l := ⟨_, rfl⟩
              rw [hl] at O2w el2 EN hll ⊢
              clear hl OW
              go_wp2
              go_loop [11] (fun j => ∃ q : Nat, (q : Int) ≤ l ∧ j = .int .i64 q) (fun j => l - (intOf j).toNat)
              case atStart => exact ⟨0, by omega, rfl⟩
              case round =>
                obtain ⟨q, hq, rfl⟩ := hrel
                by_cases hq2 : (q : Int) < l
                · obtain ⟨bb, rfl, hc⟩ := own_cell O2w.out hq2
                  have hne := EN.out q hq2
                  generalize LL.getD q 0 = y at *
                  go_wp2
                  go_round
                  case rel => exact ⟨q + 1, by omega, by go_num⟩
                  case measure => simp [intOf]; omega
                · go_wp2
                  go_roundw
                  case rel => exact ⟨k + 1, _, _, by omega, by omega, T2.out, B2.out, by go_num⟩
                  case measure => simp [intOf]; omega
          · have e0 : (x != 0) = true := by simpa using t0
            have C1 : Hid (∀ _ : Unit, _) := fun _ => give_any x wr t
            generalize gO m O x = O2 at *
            generalize gE m O x = ee at *
            clear t0 t hb
            go_wp2_with fail
            refine (C1.out ()).mono ?_
            rintro e v1 ⟨rfl, ⟨W2, t2⟩, f2⟩
            have B2 : Below s w v1 := fr_own HB.out f2 hsz hP.out
            clear f2
            go_wp2
            go_roundw
            case rel => exact ⟨k + 1, _, _, by omega, by omega, t2, B2, by go_num⟩
            case measure => simp [intOf]; omega
        · clear t
          go_wp2_with fail
          refine (KN.out wr (TB.out wr hb) (by have := H0.out; omega)).mono ?_
          rintro e u5 ⟨rfl, hb5⟩
          go_wp2
          go_ret
          exact ⟨rfl, hb.trans (hb5.mono hsz)⟩
      · clear t
        have hd : decide ((k : Int) < len1) = false := decide_eq_false h
        go_wp2_with fail
        refine (KN.out wr (TB.out wr hb) (by have := H0.out; omega)).mono ?_
        rintro e u5 ⟨rfl, hb5⟩
        go_wp2
        go_ret
        exact ⟨rfl, hb.trans (hb5.mono hsz)⟩

set_option maxRecDepth 100000 in
theorem lifted (os : Os) (started : os.Started) (H : Type) (enc : TypeId × Value → H) :
    ReturnsInHanded {} Tryd.checked os 4 .any (fun w args => (Rows.slotOnceSpec.pre enc Tryd.prog Tryd.f4 [] false w args ∧ laidMetH Tryd.prog laidTab w) ∧ sizedMet enc Tryd.prog Tryd.f4 (OpenSpec.ofChange Rows.slotOnceSpec) false w args)
      (Rows.slotOnceSpec.post enc Tryd.prog Tryd.f4 false true false false) := by
  refine returnsInHanded_of_change_and (C := Tryd.checked) (X := fun w _ => laidMetH Tryd.prog laidTab w) (fun _ _ _ hh h => h.of_heap hh) own started (by kernel_rfl) Tryd.func4
    (ChangeSpec.witness_shaped (enc := enc) (C := Tryd.checked) (os := os) (X := fun w _ => laidMetH Tryd.prog laidTab w) false (World.doorLaid Tryd.prog 400 os) #[.int .i64 0, .slice none 0 0] 8 rfl (World.shaped_of_RefB (by kernel_rfl) (by kernel_rfl)) (by kernel_rfl) (by kernel_rfl) (by kernel_rfl) (door_met os _)) ?_
  intro W base args ds gs before hval0 hW _ _ hL _
  have hval : ∀ (j : Nat) t v, Tryd.f4.params[j]? = some t → args[j]? = some v → Value.okWide Tryd.prog W .any base t v := hval0
  have hW' := hW
  obtain ⟨p, q, hA0, hV, rfl, hfz, hnd⟩ := hW
  have hA : DataW.TrodAll enc Tryd.prog W 0 (fun _ => true) true Tryd.f4.params.toList args.toList ds p := hA0
  rw [Tryd.params4] at hA hval
  obtain ⟨v0, vs0, d0, ds0, p0, q0, hargs, rfl, rfl, h0, r0⟩ := trodAll_cons hA
  obtain ⟨v1, vs1, d1, ds1, p1, q1, rfl, rfl, rfl, h1, r1⟩ := trodAll_cons r0
  obtain ⟨rfl, rfl, rfl⟩ := trodAll_nil r1
  obtain rfl : args = #[v0, v1] := by cases args; simp_all
  obtain ⟨rfl, rfl⟩ := trodVars_none hV
  obtain ⟨a0, rfl, rfl, rfl, w0⟩ := open_int Tryd.underlying3 (hval 0 3 v0 rfl rfl) h0
  obtain ⟨a1, len1, cap1, rfl⟩ := okWide_slice Tryd.underlying22 (hval 1 22 v1 rfl rfl)
  have k1 := h1
  have lt1 : ∀ x ∈ p1, x.block < W.heap.size := by obtain ⟨m, hm⟩ := k1; exact DataW.trod_lt m _ _ _ hm
  obtain ⟨xs1, w1, l1, z1⟩ : ∃ xs, Row W (.slice a1 len1 cap1) xs ∧ xs.length = len1 ∧ ∀ n ∈ xs, (Lit.int .i64 n).wf = true := by
    obtain ⟨fuel, hf⟩ := h1
    rcases open_ints Tryd.underlying22 Tryd.underlying3 (by kernel_rfl) hf with ⟨hcs, _⟩ | ⟨x, l, c, zs, hcs, _, hl, hm, hz, _, hcell, hwz⟩
    · simp [Value.cells] at hcs
      obtain ⟨rfl, rfl, rfl⟩ := hcs
      exact ⟨[], Or.inl ⟨rfl, none, 0, rfl⟩, rfl, fun n hn => by simp at hn⟩
    · simp [Value.cells] at hcs
      obtain ⟨rfl, rfl, rfl⟩ := hcs
      obtain ⟨xs, r1, r2, r3⟩ := row_of_cells (zs := zs) (Or.inr ⟨_, rfl, hl, by simpa using hz, hcell⟩)
      exact ⟨xs, r1, r2, fun n hn => hwz n (r3 n hn)⟩
  obtain ⟨hT, hS⟩ := of_laid hL
  clear hA0 hval0
  refine (walk a0 a1 len1 cap1 xs1 W w0 w1 l1 z1 hT hS).mono fun e W' ⟨he, bel⟩ => ?_
  subst he
  exact ⟨_, rfl, _, _, _, [], _, [], hW', trodAll_mk1 (shut_bool Tryd.underlying4 _), (trodAll_cons_mk (shut_int Tryd.underlying3 w0) (trodAll_cons_mk (Below.trod laidOut (by kernel_rfl) (of_decide_eq_true (by kernel_rfl)) k1 bel lt1) trodAll_mk0)), rfl, bel.frame _, fun h => by cases h⟩

theorem over : Rows.SlotOnceSaid :=
  OpenClaim.holds_of_wide 4 Tryd.f4 rfl rfl rfl rfl rfl rfl rfl ⟨rfl, rfl, rfl, rfl, rfl⟩ rfl rfl rfl rfl rfl (by kernel_rfl) Tryd.func4 (by kernel_rfl)
    (of_decide_eq_true (by kernel_rfl)) (by unfold Func.isWrapper; first | (rw [if_pos (by decide +kernel)]; kernel_rfl) | (rw [if_neg (by decide +kernel)]; exact ⟨rfl, rfl⟩))
    (fun os started H enc _ => lifted os started H enc)
end Go.Proofs.YtdkacamnelodaaaDoor.slotOnce

namespace Go.Proofs.YtdkacamnelodaaaDoor
open Go
theorem slotOnce_card : Rows.SlotOnceCardSaid :=
  Claim7.holds_tied_plain_at .later [] [.data] true (true, "bbe5e8cc457fa9530c7762d472c60528add6950c8a8bac24023daf62482e6ff6") false
    slotOnce.over (fun _ h => by cases h) (by kernel_rfl) (fun _ h => by cases h) slotOnce_row_tie rfl ⟨rfl, rfl⟩ (by kernel_rfl) rfl
    (fun f fn hf hfn => by
      obtain rfl : f = 4 := Option.some.inj ((show Tryd.prog.funcNamed "davit/davitlaw04.SlotOnce" = some 4 by kernel_rfl).symm.trans hf) |>.symm
      obtain rfl : fn = Tryd.f4 := (Option.some.inj (Tryd.func4.symm.trans hfn)).symm
      exact ⟨by kernel_rfl, fun j t ht => by
        rw [Tryd.params4] at ht
        have hm : t ∈ [3, 22] := by simpa using Array.mem_of_getElem? ht
        have hall : ([3, 22].all fun u => !Tryd.prog.wantsStandIn u) = true := by kernel_rfl
        exact (show Tryd.prog.wantsStandIn t = false by simpa using List.all_eq_true.1 hall t hm)⟩)
    (by kernel_rfl)
#print axioms slotOnce_card
end Go.Proofs.YtdkacamnelodaaaDoor
