/- What the document's Move of calls answers and leaves (davitref18), for every box. -/
import Derived.Test.YtofdhljgchefgaaDoorRows
import Derived.Test.YtofdhljgchefgaaDoorJr
import Derived.WalkKit
import Derived.ProofKit
import Derived.OpenShut
import Derived.BigQuiet
import Derived.Deep.RegionHeld3
import Derived.Deep.RegionLaw
namespace Go.Proofs.YtofdhljgchefgaaDoor
open Go.ChangeShapes Go.WideShapes Go.ChangeAt Go.RowKit
open Fm Sl Cm

set_option maxRecDepth 100000 in
set_option maxHeartbeats 4000000 in
theorem rcmove_any {b lb p : Nat} {V : List Value} {K : Ks} (c d : Int) (w : World) (h : RX 76 w b lb p V K) (a : Al K) :
    Calls Tryd.prog 32 #[.pointer (some ⟨b, 0, none⟩), .int .i64 c, .int .i64 d] w fun e w' => e = .returned (.tuple #[.int .i64 (moN K c d), .int .i64 (moE K c d)]) ∧ RC 76 w w' b lb p V (moK K c d) := by
  have C : Hid (∀ _ : Unit, _) := fun _ => rcis_any c w h
  have D : Hid (∀ _ : Unit, _) := fun _ => rcis_any d w h
  have HS : Hid (RC 76 w w b lb p V K) := RC.refl h
  unfold moN moE moK
  have hkn := h.kn
  cases i : isc p c with
  | false =>
    rw [i] at C
    rw [hkn, i, if_neg (by simp), if_neg (by simp), if_neg (by simp)]
    clear h i a hkn
    go_enter Tryd.func32, Tryd.ntmps32
    go_wp2_with fail
    refine (C.out ()).mono ?_
    rintro e w' ⟨rfl, rfl⟩
    go_wp2
    go_ret2
    exact ⟨rfl, HS.out⟩
  | true =>
    rw [i] at C
    cases j : isc p d with
    | false =>
      rw [j] at D
      rw [hkn, i, j, if_neg (by simp), if_neg (by simp), if_neg (by simp)]
      clear h i j a hkn
      go_enter Tryd.func32, Tryd.ntmps32
      go_wp2_with fail
      refine (C.out ()).mono ?_
      rintro e w' ⟨rfl, rfl⟩
      go_wp2_with fail
      refine (D.out ()).mono ?_
      rintro e w' ⟨rfl, rfl⟩
      go_wp2
      go_ret2
      exact ⟨rfl, HS.out⟩
    | true =>
      rw [j] at D
      obtain ⟨q, rfl, hq, hq2⟩ := isc_nat i
      obtain ⟨r, rfl, hr, hr2⟩ := isc_nat j
      by_cases eq : (q : Int) = (r : Int)
      · rw [hkn, i, j, if_neg (fun z => z.2.2 eq), if_pos ⟨rfl, rfl⟩, if_pos eq, if_neg (fun z => z.2.2 eq)]
        have e2 : ((q : Int) == (r : Int)) = true := by simpa using eq
        clear h i j a hkn eq
        go_enter Tryd.func32, Tryd.ntmps32
        go_wp2_with fail
        refine (C.out ()).mono ?_
        rintro e w' ⟨rfl, rfl⟩
        go_wp2_with fail
        refine (D.out ()).mono ?_
        rintro e w' ⟨rfl, rfl⟩
        go_wp2
        go_ret2
        exact ⟨rfl, HS.out⟩
      · rw [hkn, i, j, if_pos ⟨rfl, rfl, eq⟩, if_pos ⟨rfl, rfl⟩, if_neg eq, if_pos ⟨rfl, rfl, eq⟩, Int.toNat_natCast, Int.toNat_natCast]
        have e2 : ((q : Int) == (r : Int)) = false := by simpa using eq
        have hn : q ≠ r := by omega
        have TK : Hid (∀ _ : Unit, _) := fun _ => rctake_any (q : Int) w h a
        unfold ckN ckE ckK at TK
        rw [hkn, i, if_pos rfl, if_pos rfl, if_pos rfl, Int.toNat_natCast] at TK
        by_cases e : ks K q = []
        · rw [show mv K q r = K from if_pos e]
          rw [set_same K q _ (by rw [e]; rfl)] at TK
          rw [show fE (ks K q) = 12 from if_pos e, show (ks K q).headD 0 = 0 by rw [e]; rfl] at TK ⊢
          clear h i j a hkn eq e hn
          go_enter Tryd.func32, Tryd.ntmps32
          go_wp2_with fail
          refine (C.out ()).mono ?_
          rintro e w' ⟨rfl, rfl⟩
          go_wp2_with fail
          refine (D.out ()).mono ?_
          rintro e w' ⟨rfl, rfl⟩
          go_wp2_with fail
          refine (TK.out ()).mono ?_
          rintro e w1 ⟨rfl, rc⟩
          have R1 : Hid _ := rc
          clear rc
          go_wp2
          go_ret2
          exact ⟨rfl, R1.out⟩
        · rw [show mv K q r = (K.set q (ks K q).tail).set r (ks K r ++ [(ks K q).headD 0]) from if_neg e]
          rw [show fE (ks K q) = 0 from if_neg e] at TK ⊢
          have hm : ks (K.set q (ks K q).tail) r = ks K r := by rw [ks_set _ _ _ _ (by omega), if_neg (fun z => hn z.symm)]
          have L1 : Hid ((ks K r).length ≤ 1000) := by have := a.len r; unfold Hid; omega
          generalize (ks K q).headD 0 = x at *
          have ST : Hid (∀ w1 : World, RC 76 w w1 b lb p V (K.set q (ks K q).tail) → ∃ v1 : Value, w1.cell? ⟨b, 0, none⟩ = some (.slice (some ⟨lb, 0, none⟩) p p) ∧ w1.cell? ⟨lb, r, none⟩ = some v1 ∧ w1.frozen? ⟨lb, r, none⟩ = false ∧ (∀ o : Obj, (w1.alloc o).cell? ⟨b, 0, none⟩ = some (.slice (some ⟨lb, 0, none⟩) p p) ∧ (w1.alloc o).cell? ⟨lb, r, none⟩ = some v1) ∧ Hid (∀ (o : Obj) (wA : World), Sm wA (w1.alloc o) → Lv wA v1 (ks K r)) ∧ Hid (∀ (o : Obj) (wA : World) (v2 : Value) (w2 : World), App wA v1 (ks K r) x v2 w2 → Sm wA (w1.alloc o) → (w2.cell? ⟨b, 0, none⟩ = some (.slice (some ⟨lb, 0, none⟩) p p) ∧ w2.cell? ⟨lb, r, none⟩ = some v1 ∧ w2.frozen? ⟨lb, r, none⟩ = false) ∧ ∀ w3 : World, Sm w3 w2 → RC 76 w (w3.setCell ⟨lb, r, none⟩ v2) b lb p V ((K.set q (ks K q).tail).set r (ks K r ++ [x])))) := fun w1 rc => by
            obtain ⟨V1, h1, hV1⟩ := rc.ex
            have lvs := h1.beside hr
            have app := h1.append (y := x) (by decide) (by decide) hr
            rw [hm] at lvs app
            refine ⟨V1.getD r nv, h1.c0, h1.cv hr, h1.sl.free r, fun o => ⟨(h1.sb.alloc o).cell 0, ((h1.sl.alloc o).cell r).trans ((h1.sl.cell r).symm.trans (h1.cv hr))⟩, lvs, fun o wA v2 w2 hA e => ?_⟩
            obtain ⟨g1, g2⟩ := app o wA e v2 w2 hA
            exact ⟨g1, fun w3 e3 => RC.trans rc.fr hV1 (g2 w3 e3)⟩
          have n1 : ¬ (b = lb) := h.sb.ne h.sl (by decide)
          have n2 : ¬ (lb = b) := fun q => n1 q.symm
          clear h i j a hkn eq e hn hm
          generalize K.set q (ks K q).tail = K1 at *
          go_enter Tryd.func32, Tryd.ntmps32
          go_wp2_with fail
          refine (C.out ()).mono ?_
          rintro e w' ⟨rfl, rfl⟩
          go_wp2_with fail
          refine (D.out ()).mono ?_
          rintro e w' ⟨rfl, rfl⟩
          go_wp2_with fail
          refine (TK.out ()).mono ?_
          rintro e u1 ⟨rfl, rc⟩
          obtain ⟨v1, d0, dv, df, dz, LV, F1⟩ := ST.out u1 rc
          obtain ⟨z1, z2⟩ := dz (.cells #[.int .i64 x] 3)
          clear rc ST TK dz
          go_wp2_with fail
          go_region_law
            (first | (refine step_app (v := v1) rfl (.tmp 42) (.tmp 44) rfl x rfl (LV.out _ _ ⟨rfl, rfl, rfl, rfl⟩) L1.out _ _ rfl (((Blk.new u1 [_] _).heap rfl).cell 0) ?_; intro v2 w2 hA; obtain ⟨x2, q2, rfl⟩ := app_shape hA; obtain ⟨⟨a1, a2, a3⟩, a4⟩ := F1.out _ _ _ _ hA ⟨rfl, rfl, rfl, rfl⟩; have HA : Hid (∀ w3 : World, Sm w3 w2 → RC 76 w' (w3.setCell ⟨lb, r, none⟩ (.slice x2 ((ks K r).length + 1) q2)) b lb p V (K1.set r (ks K r ++ [x]))) := a4; clear hA a4))
          all_goals go_wp2
          all_goals go_ret2
          all_goals exact ⟨rfl, HA.out _ ⟨rfl, rfl, rfl, rfl⟩⟩
end Go.Proofs.YtofdhljgchefgaaDoor
