/- Proved: for every mask m, every list l of numbers and every number cpu, davitlaw01.MaskMakes(m, l, cpu) returns true: Of, Upto, With, Less and Has answer what the document's definition answers (lists of more than 200 numbers the law itself leaves out), and l is left alone; no condition but that the listed table is as the program's text lays it, which the card ties. -/
import Derived.Test.YtojpeanakjefoaaDoorRows
import Derived.Test.YtojpeanakjefoaaDoorTie
import Derived.Test.YtojpeanakjefoaaDoorCards
import Derived.Test.YtojpeanakjefoaaDoorMt
import Derived.Test.YtojpeanakjefoaaDoorMo
import Derived.WalkKit
import Derived.ProofKit
import Derived.LaidMore
import Derived.OpenShut
import Derived.Stop.Joined
import Derived.ShutString
import Derived.ChangeOld
import Derived.Below
import Derived.SevenTiedAt
namespace Go.Proofs.YtojpeanakjefoaaDoor.maskMakes
open Go.ChangeShapes Go.WideShapes Go.ChangeAt Go.RowKit
open Mm
set_option linter.unusedVariables false

/-- What the walk is told of a slice of integers that came in: it is nil, or it leads to a row of cells; the first ones are its elements, the rest is room to spare. -/
def IsRow (k : IntKind) (w : World) (a : Option Addr) (len cap : Nat) (zs : List Int) : Prop :=
  (a = none ∧ len = 0 ∧ cap = 0 ∧ zs = []) ∨
  ∃ x, a = some x ∧ len ≤ cap ∧ cap ≤ maxLen ∧ zs.length = cap ∧ (∀ i, i < zs.length → w.cell? (x.add i) = some (.int k (zs.getD i 0))) ∧ ∀ n ∈ zs, (Lit.int k n).wf = true

set_option maxHeartbeats 2000000 in
theorem walk (a0 : Int) (a1 : Option Addr) (len1 cap1 : Nat) (z1 : List Int) (a2 : Int) (w : World) (w0 : (Lit.int .u64 a0).wf = true) (w1 : IsRow .i64 w a1 len1 cap1 z1) (w2 : (Lit.int .i64 a2).wf = true) (ht : Tab w) (hs : 0 < w.heap.size) :
    Calls Tryd.prog 3 #[.int .u64 a0, .slice a1 len1 cap1, .int .i64 a2] w fun e w' => e = .returned (.bool true) ∧ Below w.heap.size w w' := by
  obtain ⟨x, rfl⟩ := Int.eq_ofNat_of_zero_le (show 0 ≤ a0 from (bounds_u64 w0).1)
  have hx : x < 18446744073709551616 := by have := (bounds_u64 w0).2; omega
  have KN : Hid (∀ _ : Unit, _) := fun _ => known_yes w ht hs
  by_cases big : (200 : Int) < len1
  · clear w0 w1 w2 hx ht
    go_enter Tryd.func3, Tryd.ntmps3
    go_wp2_with fail
    refine (KN.out ()).mono ?_
    rintro e w' ⟨rfl, hb⟩
    go_wp2
    go_ret
    exact ⟨rfl, hb⟩
  · obtain ⟨xs, hr, hl⟩ : ∃ xs : List Int, Row w (.slice a1 len1 cap1) xs ∧ xs.length = len1 := by
      rcases w1 with ⟨rfl, rfl, rfl, rfl⟩ | ⟨a, rfl, l1, l2, l3, hc, _⟩
      · exact ⟨[], Or.inl ⟨rfl, none, 0, rfl⟩, rfl⟩
      · by_cases h0 : len1 = 0
        · subst h0
          exact ⟨[], Or.inl ⟨rfl, _, _, rfl⟩, rfl⟩
        · obtain ⟨b, off, spot⟩ := a
          have hc0 := hc 0 (by omega)
          have hspot : spot = none := by simpa [Addr.add] using World.cell?_spot hc0
          subst hspot
          have e : (z1.take len1).length = len1 := by rw [List.length_take]; omega
          refine ⟨z1.take len1, Or.inr ⟨b, off, cap1, by rw [e], fun i hi => ?_⟩, e⟩
          have := hc i (by omega)
          rw [e] at hi
          have g : (z1.take len1).getD i 0 = z1.getD i 0 := by
            rw [List.getD_eq_getElem?_getD, List.getD_eq_getElem?_getD, List.getElem?_take, if_pos hi]
          rw [g]
          by_cases i0 : i = 0
          · subst i0
            simpa [Addr.add] using this
          · simpa [Addr.add, i0] using this
    have hl2 : (xs.length : Int) ≤ 1000 := by omega
    have C1 : Hid (∀ _ : Unit, _) := fun _ => of_any xs _ w hl2 hr
    have C2 : Hid (∀ _ : Unit, _) := fun _ => refof_any xs _ w hl2 hr
    have C3 : Hid (∀ _ : Unit, _) := fun _ => upto_any a2 w
    have C4 : Hid (∀ _ : Unit, _) := fun _ => refupto_any a2 w
    have C5 : Hid (∀ _ : Unit, _) := fun _ => with_any x xs _ w hx hl2 hr
    have C6 : Hid (∀ _ : Unit, _) := fun _ => less_any x a2 w hx
    have C7 : Hid (∀ _ : Unit, _) := fun _ => refless_any x a2 w hx
    have C8 : Hid (∀ _ : Unit, _) := fun _ => has_any x a2 w hx
    have C9 : Hid (∀ _ : Unit, _) := fun _ => refhas_any x a2 w hx
    generalize wl 0 xs = q1 at *
    generalize up a2 = q2 at *
    generalize nt x (bv a2) = q3 at *
    generalize tb x a2 = q4 at *
    obtain ⟨R, hR⟩ : ∃ R, wl x xs = R := ⟨_, rfl⟩
    have HR : Hid (wl x xs = R) := hR
    rw [hR] at C5
    have HX : Hid (x < 18446744073709551616) := hx
    rcases hr with ⟨rfl, a, cap, hv⟩ | ⟨b, off, cap, hv, hc⟩
    · obtain ⟨rfl, rfl, rfl⟩ : a1 = a ∧ len1 = 0 ∧ cap1 = cap := by simpa using hv
      obtain rfl : x = R := HR.out
      clear w0 w1 w2 hx ht hR big hl hl2 hv
      go_enter Tryd.func3, Tryd.ntmps3
      go_wp2_with fail
      go_loop [7, 8] (fun a i => a = .int .u64 x ∧ i = .int .i64 0) (fun _ _ => 0)
      case atStart => exact ⟨rfl, rfl⟩
      case round =>
        obtain ⟨rfl, rfl⟩ := hrel
        go_wp2_with fail
        refine (C1.out ()).mono ?_
        rintro e w' ⟨rfl, rfl⟩
        go_wp2_with fail
        refine (C2.out ()).mono ?_
        rintro e w' ⟨rfl, rfl⟩
        go_wp2_with fail
        refine (C3.out ()).mono ?_
        rintro e w' ⟨rfl, rfl⟩
        go_wp2_with fail
        refine (C4.out ()).mono ?_
        rintro e w' ⟨rfl, rfl⟩
        go_wp2_with fail
        refine (C5.out ()).mono ?_
        rintro e w' ⟨rfl, rfl⟩
        go_wp2_with fail
        refine (C6.out ()).mono ?_
        rintro e w' ⟨rfl, rfl⟩
        go_wp2_with fail
        refine (C7.out ()).mono ?_
        rintro e w' ⟨rfl, rfl⟩
        go_wp2_with fail
        refine (C8.out ()).mono ?_
        rintro e w' ⟨rfl, rfl⟩
        go_wp2_with fail
        refine (C9.out ()).mono ?_
        rintro e w' ⟨rfl, rfl⟩
        go_wp2_with fail
        refine (KN.out ()).mono ?_
        rintro e w' ⟨rfl, hb⟩
        go_wp2
        go_ret
        exact ⟨rfl, hb⟩
    · obtain ⟨rfl, rfl, rfl⟩ : a1 = some ⟨b, off, none⟩ ∧ len1 = xs.length ∧ cap1 = cap := by simpa using hv
      have HC : Hid (∀ i, i < xs.length → w.cell? ⟨b, off + i, none⟩ = some (.int .i64 (xs.getD i 0))) := hc
      obtain ⟨n, hn⟩ : ∃ n, xs.length = n := ⟨_, rfl⟩
      have HN : Hid (xs.length = n) := hn
      rw [hn] at big hl2 C1 C2 C5 ⊢
      clear w0 w1 w2 hx ht hR hl hv hc hn
      go_enter Tryd.func3, Tryd.ntmps3
      go_wp2_with fail
      go_loop [7, 8] (fun a i => ∃ k M : Nat, (k : Int) ≤ n ∧ Hid (M = wl x (xs.take k)) ∧ i = .int .i64 k ∧ a = .int .u64 M) (fun _ i => n - (intOf i).toNat)
      case atStart => exact ⟨0, x, by omega, rfl, rfl, rfl⟩
      case round =>
        obtain ⟨k, M, hk, hM, rfl, rfl⟩ := hrel
        by_cases h : (k : Int) < n
        · have hc := HC.out k (by have := HN.out; omega)
          have s : Hid (M ||| bv (xs.getD k 0) = wl x (xs.take (k + 1))) := by
            rw [hM.out, take_snoc xs k (by have := HN.out; omega)]
            exact (wl_snoc _ _ _).symm
          have lM : M < 18446744073709551616 := by rw [hM.out]; exact wl_lt _ _ HX.out
          generalize xs.getD k 0 = c at *
          have B : Hid (∀ w, _) := fun w => refwith_any M c w lM
          generalize M ||| bv c = M2 at *
          clear lM
          go_wp2_with fail
          refine (B.out _).mono ?_
          rintro e w' ⟨rfl, rfl⟩
          go_wp2
          go_round
          case rel => exact ⟨k + 1, M2, by omega, s, by go_num, rfl⟩
          case measure => simp [intOf]; omega
        · have e : M = R := by
            have a := HN.out
            have b : k = xs.length := by omega
            rw [hM.out, ← HR.out, b, List.take_length]
          subst e
          go_wp2_with fail
          refine (C1.out ()).mono ?_
          rintro e w' ⟨rfl, rfl⟩
          go_wp2_with fail
          refine (C2.out ()).mono ?_
          rintro e w' ⟨rfl, rfl⟩
          go_wp2_with fail
          refine (C3.out ()).mono ?_
          rintro e w' ⟨rfl, rfl⟩
          go_wp2_with fail
          refine (C4.out ()).mono ?_
          rintro e w' ⟨rfl, rfl⟩
          go_wp2_with fail
          refine (C5.out ()).mono ?_
          rintro e w' ⟨rfl, rfl⟩
          go_wp2_with fail
          refine (C6.out ()).mono ?_
          rintro e w' ⟨rfl, rfl⟩
          go_wp2_with fail
          refine (C7.out ()).mono ?_
          rintro e w' ⟨rfl, rfl⟩
          go_wp2_with fail
          refine (C8.out ()).mono ?_
          rintro e w' ⟨rfl, rfl⟩
          go_wp2_with fail
          refine (C9.out ()).mono ?_
          rintro e w' ⟨rfl, rfl⟩
          go_wp2_with fail
          refine (KN.out ()).mono ?_
          rintro e w' ⟨rfl, hb⟩
          go_wp2
          go_ret
          exact ⟨rfl, hb⟩

set_option maxRecDepth 100000 in
theorem lifted (os : Os) (started : os.Started) (H : Type) (enc : TypeId × Value → H) :
    ReturnsInHanded {} Tryd.checked os 3 .any (fun w args => (Rows.maskMakesSpec.pre enc Tryd.prog Tryd.f3 [] false w args ∧ laidMetH Tryd.prog laidTab w) ∧ sizedMet enc Tryd.prog Tryd.f3 (OpenSpec.ofChange Rows.maskMakesSpec) false w args)
      (Rows.maskMakesSpec.post enc Tryd.prog Tryd.f3 false true false false) := by
  refine returnsInHanded_of_change_and (C := Tryd.checked) (X := fun w _ => laidMetH Tryd.prog laidTab w) (fun _ _ _ hh h => h.of_heap hh) own started (by kernel_rfl) Tryd.func3
    (ChangeSpec.witness_shaped (enc := enc) (C := Tryd.checked) (os := os) (X := fun w _ => laidMetH Tryd.prog laidTab w) false (World.doorLaid Tryd.prog 400 os) #[.int .u64 0, .slice none 0 0, .int .i64 0] 8 rfl (World.shaped_of_RefB (by kernel_rfl) (by kernel_rfl)) (by kernel_rfl) (by kernel_rfl) (by kernel_rfl) (door_met os _)) ?_
  intro W base args ds gs before hval0 hW _ _ hL _
  have hval : ∀ (j : Nat) t v, Tryd.f3.params[j]? = some t → args[j]? = some v → Value.okWide Tryd.prog W .any base t v := hval0
  have hW' := hW
  obtain ⟨p, q, hA0, hV, rfl, hfz, hnd⟩ := hW
  have hA : DataW.TrodAll enc Tryd.prog W 0 (fun _ => true) true Tryd.f3.params.toList args.toList ds p := hA0
  rw [Tryd.params3] at hA hval
  obtain ⟨v0, vs0, d0, ds0, p0, q0, hargs, rfl, rfl, h0, r0⟩ := trodAll_cons hA
  obtain ⟨v1, vs1, d1, ds1, p1, q1, rfl, rfl, rfl, h1, r1⟩ := trodAll_cons r0
  obtain ⟨v2, vs2, d2, ds2, p2, q2, rfl, rfl, rfl, h2, r2⟩ := trodAll_cons r1
  obtain ⟨rfl, rfl, rfl⟩ := trodAll_nil r2
  obtain rfl : args = #[v0, v1, v2] := by cases args; simp_all
  obtain ⟨rfl, rfl⟩ := trodVars_none hV
  obtain ⟨a0, rfl, rfl, rfl, w0⟩ := open_int Tryd.underlying22 (hval 0 22 v0 rfl rfl) h0
  obtain ⟨a1, len1, cap1, rfl⟩ := okWide_slice Tryd.underlying23 (hval 1 23 v1 rfl rfl)
  have k1 := h1
  have lt1 : ∀ x ∈ p1, x.block < W.heap.size := by obtain ⟨m, hm⟩ := k1; exact DataW.trod_lt m _ _ _ hm
  obtain ⟨z1, w1⟩ : ∃ zs, IsRow .i64 W a1 len1 cap1 zs := by
    obtain ⟨fuel, hf⟩ := h1
    rcases open_ints Tryd.underlying23 Tryd.underlying3 (by kernel_rfl) hf with ⟨hcs, _⟩ | ⟨x, l, c, zs, hcs, _, hl, hm, hz, _, hcell, hwz⟩
    · simp [Value.cells] at hcs
      obtain ⟨rfl, rfl, rfl⟩ := hcs
      exact ⟨[], .inl ⟨rfl, rfl, rfl, rfl⟩⟩
    · simp [Value.cells] at hcs
      obtain ⟨rfl, rfl, rfl⟩ := hcs
      exact ⟨zs, .inr ⟨_, rfl, hl, hm, by simpa using hz, hcell, hwz⟩⟩
  obtain ⟨a2, rfl, rfl, rfl, w2⟩ := open_int Tryd.underlying3 (hval 2 3 v2 rfl rfl) h2
  obtain ⟨hT, hS⟩ := of_laid hL
  clear hA0 hval0
  refine (walk a0 a1 len1 cap1 z1 a2 W w0 w1 w2 hT hS).mono fun e W' ⟨he, bel⟩ => ?_
  subst he
  exact ⟨_, rfl, _, _, _, [], _, [], hW', trodAll_mk1 (shut_bool Tryd.underlying4 _), (trodAll_cons_mk (shut_int Tryd.underlying22 w0) (trodAll_cons_mk (Below.trod laidOut (by kernel_rfl) (of_decide_eq_true (by kernel_rfl)) k1 bel lt1) (trodAll_cons_mk (shut_int Tryd.underlying3 w2) trodAll_mk0))), rfl, bel.frame _, fun h => by cases h⟩

theorem over : Rows.MaskMakesSaid :=
  OpenClaim.holds_of_wide 3 Tryd.f3 rfl rfl rfl rfl rfl rfl rfl ⟨rfl, rfl, rfl, rfl, rfl⟩ rfl rfl rfl rfl rfl (by kernel_rfl) Tryd.func3 (by kernel_rfl)
    (of_decide_eq_true (by kernel_rfl)) (by unfold Func.isWrapper; first | (rw [if_pos (by decide +kernel)]; kernel_rfl) | (rw [if_neg (by decide +kernel)]; exact ⟨rfl, rfl⟩))
    (fun os started H enc _ => lifted os started H enc)
end Go.Proofs.YtojpeanakjefoaaDoor.maskMakes

namespace Go.Proofs.YtojpeanakjefoaaDoor
open Go
theorem maskMakes_card : Rows.MaskMakesCardSaid :=
  Claim7.holds_tied_plain_at .later [] [.data] true (true, "8c36869085a7bb1645b169c838f61ecb09e7bffe6c27c335601dd159cbf912a3") false
    maskMakes.over (fun _ h => by cases h) (by kernel_rfl) (fun _ h => by cases h) maskMakes_row_tie rfl ⟨rfl, rfl⟩ (by kernel_rfl) rfl
    (fun f fn hf hfn => by
      obtain rfl : f = 3 := Option.some.inj ((show Tryd.prog.funcNamed "davit/davitlaw01.MaskMakes" = some 3 by kernel_rfl).symm.trans hf) |>.symm
      obtain rfl : fn = Tryd.f3 := (Option.some.inj (Tryd.func3.symm.trans hfn)).symm
      exact ⟨by kernel_rfl, fun j t ht => by
        rw [Tryd.params3] at ht
        have hm : t ∈ [22, 23, 3] := by simpa using Array.mem_of_getElem? ht
        have hall : ([22, 23, 3].all fun u => !Tryd.prog.wantsStandIn u) = true := by kernel_rfl
        exact (show Tryd.prog.wantsStandIn t = false by simpa using List.all_eq_true.1 hall t hm)⟩)
    (by kernel_rfl)
#print axioms maskMakes_card
end Go.Proofs.YtojpeanakjefoaaDoor
