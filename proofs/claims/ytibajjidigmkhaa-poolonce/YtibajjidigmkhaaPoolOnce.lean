/- Proved: for every number pages and every list acts, davitlaw07.PoolOnce(pages, acts) returns true: what is taken is not taken again till it is given back, and a page is begun only when no other one is in part (200 acts at most, as the law itself says), and acts is left alone, with no condition. -/
import Derived.Test.YtibajjidigmkhaaRows
import Derived.Test.YtibajjidigmkhaaFo
import Derived.Test.YtibajjidigmkhaaOf
import Derived.WalkKit
import Derived.ProofKit
import Derived.OpenShut
import Derived.Stop.Joined
import Derived.ShutString
import Derived.ChangeOld
import Derived.Below
import Derived.Carry
namespace Go.Proofs.Ytibajjidigmkhaa.poolOnce
open Go.ChangeShapes Go.WideShapes Go.ChangeAt Go.RowKit
open Om
set_option linter.unusedVariables false
set_option linter.unusedSimpArgs false

theorem own : ownKnob Try.prog.godebug = none := by kernel_rfl
theorem laidOut : laidOutB Try.prog = true := by kernel_rfl

set_option maxRecDepth 100000 in
set_option maxHeartbeats 4000000 in
theorem walk (a0 : Int) (a1 : Option Addr) (len1 cap1 : Nat) (xs1 : List Int) (w : World) (w0 : (Lit.int .i64 a0).wf = true) (w1 : Row w (.slice a1 len1 cap1) xs1) (l1 : xs1.length = len1) (z1 : ∀ n ∈ xs1, (Lit.int .i64 n).wf = true) :
    Calls Try.prog 4 #[.int .i64 a0, .slice a1 len1 cap1] w fun e w' => e = .returned (.bool true) ∧ Below w.heap.size w w' := by
  have KN : Hid (∀ w, _) := fun w => pknown_yes w
  by_cases wrong : a0 < 1 ∨ 12 < a0
  · have C : Hid (∀ w, _) := fun w => pnew_bad a0 w wrong
    clear w0 w1 l1 z1
    rcases wrong with g | g
    · go_enter Try.func4, Try.ntmps4
      go_wp2_with fail
      refine (C.out _).mono ?_
      rintro e u1 ⟨rfl, rfl⟩
      go_wp2_with fail
      refine (KN.out _).mono ?_
      rintro e u1 ⟨rfl, hb⟩
      go_wp2
      go_ret
      exact ⟨rfl, hb⟩
    · have g1 : (1 : Int) ≤ a0 := by omega
      go_enter Try.func4, Try.ntmps4
      go_wp2_with fail
      refine (C.out _).mono ?_
      rintro e u1 ⟨rfl, rfl⟩
      go_wp2_with fail
      refine (KN.out _).mono ?_
      rintro e u1 ⟨rfl, hb⟩
      go_wp2
      go_ret
      exact ⟨rfl, hb⟩
  · obtain ⟨m, rfl⟩ := Int.eq_ofNat_of_zero_le (show 0 ≤ a0 by omega)
    have m1 : (1 : Int) ≤ m := by omega
    have m2 : (m : Int) ≤ 12 := by omega
    have C : Hid (∀ _ : Unit, _) := fun _ => pnew_any m w m1 m2
    have HR : Hid (Row w (.slice a1 len1 cap1) xs1) := w1
    have HL : Hid (xs1.length = len1) := l1
    obtain ⟨s, hs⟩ : ∃ s, w.heap.size = s := ⟨_, rfl⟩
    have HS : Hid (w.heap.size = s) := hs
    obtain ⟨i0, hi, hz0, hz1, hz2⟩ := info_parts Try.infoB
    rw [hs] at C ⊢
    clear wrong w0 w1 l1 z1 hs
    go_enter Try.func4, Try.ntmps4
    go_wp2_with fail
    refine (C.out ()).mono ?_
    rintro e u1 ⟨rfl, q1, f1⟩
    have PI0 : Hid (OW w u1 s m (List.replicate 12 0)) := ⟨q1, f1.below (by simp)⟩
    clear q1 f1
    go_wp2
    go_loopw [7] (fun i wr => ∃ (k : Nat) (A : List Nat), (k : Int) ≤ 200 ∧ (k : Int) ≤ len1 ∧ OW w wr s m A ∧ i = .int .i64 k) (fun i _ => 200 - (intOf i).toNat)
    case atStart => exact ⟨0, _, by omega, by omega, PI0.out, rfl⟩
    case round =>
      obtain ⟨k, A, hk, hk2, p, rfl⟩ := hrel
      have hsz := p.le
      clear PI0
      by_cases h : (k : Int) < len1
      · by_cases h2 : (k : Int) < 200
        · obtain ⟨ab, off, rfl, hA⟩ : ∃ ab off, a1 = some ⟨ab, off, none⟩ ∧ Hid (∀ w2 : World, Below s w w2 → w2.cell? ⟨ab, off + k, none⟩ = some (.int .i64 (xs1.getD k 0))) := by
            have hl := HL.out
            rcases HR.out with ⟨rfl, _⟩ | ⟨ab, off, c, hv, hlt, hc⟩
            · simp at hl
              omega
            · simp only [Value.slice.injEq] at hv
              refine ⟨ab, off, hv.1, fun w2 b2 => ?_⟩
              rw [HS.out] at hlt
              rw [b2.cell (p := ⟨ab, off + k, none⟩) hlt]
              exact hc k (by omega)
          have x0 := hA.out wr p.bel
          generalize xs1.getD k 0 = x at *
          by_cases t0 : x = 0
          · have e0 : (x != 0) = false := by simpa using t0
            have P0 : Hid (OW w wr s m A) := p
            clear t0 p
            obtain ⟨wo, rfl⟩ : ∃ wo, wo = wr := ⟨_, rfl⟩
            go_wp2
            go_loopw [8, 9] (fun v i wx => ∃ (j : Nat) (G : List Bool) (vv : Value), vv = v ∧ (j : Int) ≤ 8 * m + 1 ∧ i = .int .i64 j ∧ GtB wo wx vv G ∧ Hid (wasL m A j = G) ∧ (G.length : Int) = j) (fun _ i _ => 8 * m + 1 - (intOf i).toNat)
            case atStart => exact ⟨0, [], _, rfl, by omega, rfl, gtb_start wo, rfl, by simp⟩
            case round =>
              obtain ⟨j, G, v, rfl, hj, rfl, g, hG, hgl⟩ := hrel
              by_cases l : (j : Int) < 8 * m + 1
              · have D : Hid (∀ _ : Unit, _) := fun _ => pout_any (j : Int) wr (P0.out.keep g.bel).p
                have HS2 : Hid (wasL m A (j + 1) = G ++ [ou m A (j : Int)]) := by rw [wasL_succ, hG.out]; exact rfl
                have l2 : (j : Int) ≤ 8 * m := by omega
                generalize ou m A (j : Int) = y at *
                have HG : Hid (GtB wo wr v G) := g
                have hsz2 := g.bel.size
                clear g l
                go_wp2_with fail
                refine (D.out ()).mono ?_
                rintro e u2 ⟨rfl, d, rfl⟩
                have g2 := HG.out.drewN d
                go_wp2_with (at_builtin; refine wpList_append_own _ rfl _ _ 39 rfl wo.heap.size 4 i0 (.bool false) 1 1 Try.underlying39 hi hz0 hz1 hz2 rfl (by decide) _ _ _ rfl (g2.own.alloc _) ⟨_, 0, none⟩ 1 1 [.bool y] rfl rfl ?c1 ?c2 ?c3 ?c4 ?c5 ?_)
                case c1 =>
                  intro j u hj
                  match j, hj with
                  | 0, hj => simp at hj; subst hj; exact (Blk.new _ [_] _).cell 0
                case c2 => intro u hu; simp at hu; subst hu; rfl
                case c3 => unfold maxLen; omega
                case c4 => omega
                case c5 => simp; omega
                intro v' w3 hown' hgrow _
                have G2 := gtb_app g2 hown' hgrow
                clear hown' hgrow g2
                go_wp2
                go_roundw
                case rel => exact ⟨j + 1, G ++ [y], _, rfl, by omega, by go_num, G2, HS2, by simp; omega⟩
                case measure => simp [intOf]; omega
              · have hj2 : j = 8 * m + 1 := by omega
                subst hj2
                have P1 := P0.out.keep g.bel
                have T1 : Hid (∀ _ : Unit, _) := fun _ => ppages_any wr P1.p
                have T2 : Hid (∀ u : World, Sm u wr → _) := fun u e => ptake_any u (P1.p.heap e.1)
                have PF : Hid (∀ u v : World, Sm u wr → PO v s m (tkA m A) → Fr u.heap.size [s] u v → OW w v s m (tkA m A)) := fun u v e a b => (P1.sm e).act a b
                have T3 : Hid (∀ u : World, PO u s m (tkA m A) → _) := fun u a => ppages_any u a
                have T4 : Hid (∀ u : World, PO u s m (tkA m A) → _) := fun u a => pout_any (tkN m A) u a
                have l2 : ¬ (((8 * m + 1 : Nat) : Int) ≤ 8 * m) := by omega
                have EN : Hid (((8 * m + 1 : Nat) : Int) = 8 * m + 1) := by unfold Hid; omega
                cases e : nx m A with
                | none =>
                  obtain ⟨o1, o2⟩ := once_none e
                  rw [o2, o1] at T1
                  rw [show tkA m A = A by unfold tkA; rw [e], show tkE m A = 5 by unfold tkE; rw [e]] at T2
                  rw [show tkA m A = A by unfold tkA; rw [e]] at PF
                  generalize tkN m A = nn at *
                  clear e P1 g hG T3 T4
                  go_wp2_with fail
                  refine (T1.out ()).mono ?_
                  rintro e u2 ⟨rfl, d1, rfl⟩
                  go_wp2_with fail
                  refine (T2.out _ ?_).mono ?_
                  exact ⟨rfl, rfl, rfl, rfl⟩
                  rintro e u3 ⟨rfl, p3, f3⟩
                  have P3 : Hid (OW w u3 s m A) := PF.out (wr.drewN d1) _ ⟨rfl, rfl, rfl, rfl⟩ p3 f3
                  clear p3 f3
                  go_wp2
                  go_roundw
                  case rel => exact ⟨k + 1, A, by omega, by omega, P3.out, by go_num⟩
                  case measure => simp [intOf]; omega
                | some q =>
                  obtain ⟨o1, o2, o3, o4, o5⟩ := once_some P1.p.pg e
                  obtain ⟨N, hN⟩ := Int.eq_ofNat_of_zero_le (show 0 ≤ tkN m A by omega)
                  have GC : Hid (∃ b cap, v = .slice (some ⟨b, 0, none⟩) G.length cap ∧ ∀ u1 u2 : World, Sm u1 wr → Fr u1.heap.size [s] u1 u2 → u2.cell? ⟨b, N, none⟩ = some (.bool false)) := by
                    obtain ⟨b, cap, e1, e2, e3⟩ := ownb_cell g.own (k := N) (by omega)
                    refine ⟨b, cap, e1, fun u1 u2 e4 f => ?_⟩
                    rw [← hG.out, wasL_at m A _ N (by omega), ← hN, o3] at e3
                    have hlb : b < u1.heap.size := by rw [e4.1]; exact World.block_lt_of_cell? wr _ e3
                    rw [f.cell (p := ⟨b, N, none⟩) hlb (by simp; have := P0.out.p.sb.lt; omega)]
                    unfold World.cell? at e3 ⊢
                    rw [e4.1]
                    exact e3
                  rw [o4] at T4
                  rw [show tkE m A = 0 by unfold tkE; rw [e]] at T2
                  rw [hN] at T2 T4 o1 o2
                  clear P1 g hG e o3 o4
                  generalize m - ct (em A) m - ct (fu A) m = n2 at *
                  generalize m - ct (em (tkA m A)) m - ct (fu (tkA m A)) m = n6 at *
                  generalize ct (em A) m = n1 at *
                  generalize ct (fu A) m = n3 at *
                  generalize ct (em (tkA m A)) m = n4 at *
                  generalize ct (fu (tkA m A)) m = n5 at *
                  generalize tkA m A = A2 at *
                  obtain ⟨b, cap, rfl, gc⟩ := GC.out
                  have GC2 : Hid (∀ u1 u2 : World, Sm u1 wr → Fr u1.heap.size [s] u1 u2 → u2.cell? ⟨b, N, none⟩ = some (.bool false)) := gc
                  have hN2 : (N : Int) < (G.length : Int) := by rw [hgl]; have := EN.out; omega
                  clear gc GC hN hgl
                  generalize G.length = gl at *
                  go_wp2_with fail
                  refine (T1.out ()).mono ?_
                  rintro e u2 ⟨rfl, d1, rfl⟩
                  go_wp2_with fail
                  refine (T2.out _ ?_).mono ?_
                  exact ⟨rfl, rfl, rfl, rfl⟩
                  rintro e u3 ⟨rfl, p3, f3⟩
                  have P3 : Hid (OW w u3 s m A2) := PF.out (wr.drewN d1) _ ⟨rfl, rfl, rfl, rfl⟩ p3 f3
                  have c3 := GC2.out (wr.drewN d1) u3 ⟨rfl, rfl, rfl, rfl⟩ f3
                  clear p3 f3
                  go_wp2_with fail
                  refine (T3.out _ P3.out.p).mono ?_
                  rintro e u4 ⟨rfl, d2, rfl⟩
                  go_wp2_with fail
                  refine (T4.out (u3.drewN d2) (P3.out.p.heap rfl)).mono ?_
                  rintro e u4 ⟨rfl, d3, rfl⟩
                  rcases o5 with o5 | o5
                  · go_wp2
                    go_roundw
                    case rel => exact ⟨k + 1, A2, by omega, by omega, P3.out.sm ⟨rfl, rfl, rfl, rfl⟩, by go_num⟩
                    case measure => simp [intOf]; omega
                  · by_cases o6 : (n4 : Int) < n1
                    · go_wp2
                      go_roundw
                      case rel => exact ⟨k + 1, A2, by omega, by omega, P3.out.sm ⟨rfl, rfl, rfl, rfl⟩, by go_num⟩
                      case measure => simp [intOf]; omega
                    · go_wp2
                      go_roundw
                      case rel => exact ⟨k + 1, A2, by omega, by omega, P3.out.sm ⟨rfl, rfl, rfl, rfl⟩, by go_num⟩
                      case measure => simp [intOf]; omega
          · have e0 : (x != 0) = true := by simpa using t0
            have C1 : Hid (∀ _ : Unit, _) := fun _ => pgive_any x wr p.p
            have PF : Hid (∀ v : World, PO v s m (gvA m A x) → Fr wr.heap.size [s] wr v → OW w v s m (gvA m A x)) := fun v a b => p.act a b
            generalize gvA m A x = A2 at *
            generalize gvE m A x = ee at *
            clear t0 p
            go_wp2_with fail
            refine (C1.out ()).mono ?_
            rintro e u2 ⟨rfl, p2, f2⟩
            have P3 : Hid (OW w u2 s m A2) := PF.out _ p2 f2
            clear p2 f2
            go_wp2
            go_roundw
            case rel => exact ⟨k + 1, A2, by omega, by omega, P3.out, by go_num⟩
            case measure => simp [intOf]; omega
        · have hb := p.bel
          clear p
          go_wp2_with fail
          refine (KN.out _).mono ?_
          rintro e u5 ⟨rfl, hb5⟩
          go_wp2
          go_ret
          exact ⟨rfl, hb.trans (hb5.mono hsz)⟩
      · have hb := p.bel
        clear p
        have hd : decide ((k : Int) < len1) = false := decide_eq_false h
        go_wp2_with fail
        refine (KN.out _).mono ?_
        rintro e u5 ⟨rfl, hb5⟩
        go_wp2
        go_ret
        exact ⟨rfl, hb.trans (hb5.mono hsz)⟩

set_option maxRecDepth 100000 in
theorem lifted (os : Os) (started : os.Started) (H : Type) (enc : TypeId × Value → H) :
    ReturnsInHanded {} Try.checked os 4 .any (Rows.poolOnceSpec.pre6 enc Try.prog Try.f4 Rows.poolOnceRow.domain false) (Rows.poolOnceSpec.post enc Try.prog Try.f4 false true false false) := by
  refine returnsInHanded_of_change (C := Try.checked) own started (by kernel_rfl) Try.func4
    (ChangeSpec.witness6 (enc := enc) (C := Try.checked) false ⟨#[], #[.int .i64 0, .slice none 0 0], []⟩ 8 (by kernel_rfl) (by kernel_rfl) (by kernel_rfl) (by kernel_rfl)) ?_
  intro W base args ds gs before hval0 hW hcnd _
  have hval : ∀ (j : Nat) t v, Try.f4.params[j]? = some t → args[j]? = some v → Value.okWide Try.prog W .any base t v := hval0
  have hW' := hW
  obtain ⟨p, q, hA0, hV, rfl, hfz, hnd⟩ := hW
  have hA : DataW.TrodAll enc Try.prog W 0 (fun _ => true) true Try.f4.params.toList args.toList ds p := hA0
  rw [Try.params4] at hA hval
  obtain ⟨v0, vs0, d0, ds0, p0, q0, hargs, rfl, rfl, h0, r0⟩ := trodAll_cons hA
  obtain ⟨v1, vs1, d1, ds1, p1, q1, rfl, rfl, rfl, h1, r1⟩ := trodAll_cons r0
  obtain ⟨rfl, rfl, rfl⟩ := trodAll_nil r1
  obtain rfl : args = #[v0, v1] := by cases args; simp_all
  obtain ⟨rfl, rfl⟩ := trodVars_none hV
  obtain ⟨a0, rfl, rfl, rfl, w0⟩ := open_int Try.underlying3 (hval 0 3 v0 rfl rfl) h0
  obtain ⟨a1, len1, cap1, rfl⟩ := okWide_slice Try.underlying22 (hval 1 22 v1 rfl rfl)
  have k1 := h1
  have lt1 : ∀ x ∈ p1, x.block < W.heap.size := by obtain ⟨m, hm⟩ := k1; exact DataW.trod_lt m _ _ _ hm
  obtain ⟨xs1, w1, l1, z1⟩ : ∃ xs, Row W (.slice a1 len1 cap1) xs ∧ xs.length = len1 ∧ ∀ n ∈ xs, (Lit.int .i64 n).wf = true := by
    obtain ⟨fuel, hf⟩ := h1
    rcases open_ints Try.underlying22 Try.underlying3 (by kernel_rfl) hf with ⟨hcs, _⟩ | ⟨x, l, c, zs, hcs, _, hl, hm, hz, _, hcell, hwz⟩
    · simp [Value.cells] at hcs
      obtain ⟨rfl, rfl, rfl⟩ := hcs
      exact ⟨[], Or.inl ⟨rfl, none, 0, rfl⟩, rfl, fun n hn => by simp at hn⟩
    · simp [Value.cells] at hcs
      obtain ⟨rfl, rfl, rfl⟩ := hcs
      obtain ⟨xs, r1, r2, r3⟩ := row_of_cells (zs := zs) (Or.inr ⟨_, rfl, hl, by simpa using hz, hcell⟩)
      exact ⟨xs, r1, r2, fun n hn => hwz n (r3 n hn)⟩
  clear hA0 hval0
  refine (walk a0 a1 len1 cap1 xs1 W w0 w1 l1 z1).mono fun e W' ⟨he, bel⟩ => ?_
  subst he
  exact ⟨_, rfl, _, _, _, [], _, [], hW', trodAll_mk1 (shut_bool Try.underlying4 _), (trodAll_cons_mk (shut_int Try.underlying3 w0) (trodAll_cons_mk (Below.trod laidOut (by kernel_rfl) (of_decide_eq_true (by kernel_rfl)) k1 bel lt1) trodAll_mk0)), rfl, bel.frame _, fun h => by cases h⟩

theorem over : Rows.PoolOnceSaid :=
  OpenClaim.holds_of_wide 4 Try.f4 rfl rfl rfl rfl rfl rfl rfl ⟨rfl, rfl, rfl, rfl, rfl⟩ rfl rfl rfl rfl rfl (by kernel_rfl) Try.func4 (by kernel_rfl)
    (of_decide_eq_true (by kernel_rfl)) (by unfold Func.isWrapper; first | (rw [if_pos (by decide +kernel)]; kernel_rfl) | (rw [if_neg (by decide +kernel)]; exact ⟨rfl, rfl⟩))
    (fun os started H enc _ => lifted os started H enc)
end Go.Proofs.Ytibajjidigmkhaa.poolOnce

namespace Go.Proofs.Ytibajjidigmkhaa
open Go
theorem poolOnce_holds : Rows.PoolOnceSaid := poolOnce.over
#print axioms poolOnce_holds
end Go.Proofs.Ytibajjidigmkhaa
