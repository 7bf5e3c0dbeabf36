/- What the document's Take and Unbind of works answer and leave (davitref17), for all lists. -/
import Derived.Test.YtofdhljgchefgaaDoorRows
import Derived.Test.YtofdhljgchefgaaDoorGr
import Derived.WalkKit
import Derived.ProofKit
import Derived.OpenShut
import Derived.BigQuiet
import Derived.Deep.RegionHeld3
import Derived.Deep.RegionLaw
namespace Go.Proofs.YtofdhljgchefgaaDoor
open Go.ChangeShapes Go.WideShapes Go.ChangeAt Go.RowKit
open Fm Sl Cm

/-- The first one of a list is dropped. -/
theorem rgdrop_hd {b lb p n : Nat} {V : List Value} {K : Ks} (q : Nat) (w : World) (h : RX 69 w b lb p V K) (a : Al K) (hp : p = n + 1) (e : ks K q ≠ []) :
    Calls Tryd.prog 43 #[.pointer (some ⟨b, 0, none⟩), .int .i64 ((ks K q).headD 0)] w fun r w' => r = .returned (.int .i64 0) ∧ RC 69 w w' b lb p V (K.set q (ks K q).tail) := by
  have o := (onc_iff a).2 (hd_mem e)
  have := rgdrop_any ((ks K q).headD 0) w h a hp
  unfold drE drK at this
  rw [o] at this
  rw [← wo_hd (a.nd q) e]
  exact this

/-- What a list's slice is, and its first one. -/
theorem rx_head {b lb p : Nat} {V : List Value} {K : Ks} {w : World} {tS : TypeId} (h : RX tS w b lb p V K) {q : Nat} (hq : q < p) (e : ks K q ≠ []) :
    ∃ (g off cap : Nat), w.cell? ⟨lb, q, none⟩ = some (.slice (some ⟨g, off, none⟩) (ks K q).length cap) ∧ w.cell? ⟨g, off, none⟩ = some (.int .i64 ((ks K q).headD 0)) ∧ (ks K q).length ≤ cap := by
  obtain ⟨g, off, cap, cur, hv, hcap, hb, hfit, hcell⟩ := lv_pos (h.lv hq) e
  have ce := hcell 0 (List.length_pos_iff.2 e)
  rw [show (ks K q).getD 0 0 = (ks K q).headD 0 by cases ks K q <;> rfl] at ce
  have cv := h.cv hq
  rw [hv] at cv
  exact ⟨g, off, cap, cv, by rw [hb.cell]; exact ce, hcap⟩
theorem rx_none {b lb p : Nat} {V : List Value} {K : Ks} {w : World} {tS : TypeId} (h : RX tS w b lb p V K) {q : Nat} (hq : q < p) (e : ks K q = []) :
    ∃ (x : Option Addr) (cap : Nat), w.cell? ⟨lb, q, none⟩ = some (.slice x 0 cap) := by
  obtain ⟨x, cap, hv⟩ := (h.lv hq).shape
  have cv := h.cv hq
  rw [hv, e] at cv
  exact ⟨x, cap, cv⟩

set_option maxRecDepth 100000 in
set_option maxHeartbeats 2000000 in
theorem rgtake_any {b lb p n : Nat} {V : List Value} {K : Ks} (c : Int) (w : World) (h : RX 69 w b lb p V K) (a : Al K) (hp : p = n + 1) :
    Calls Tryd.prog 41 #[.pointer (some ⟨b, 0, none⟩), .int .i64 c] w fun e w' => e = .returned (.tuple #[.int .i64 (taN n K c), .int .i64 (taE n K c)]) ∧ RC 69 w w' b lb p V (taK n K c) := by
  have C : Hid (∀ _ : Unit, _) := fun _ => rgis_any c w h hp
  have HS : Hid (RC 69 w w b lb p V K) := RC.refl h
  have h65 : (p : Int) ≤ 65 := by have := h.p2; omega
  have h1 : (1 : Int) ≤ p := by omega
  have hp1 : (p : Int) - 1 = (n : Int) := by omega
  unfold taN taE taK
  cases i : isc n c with
  | false =>
    rw [i] at C
    rw [if_neg (by decide), if_neg (by decide), if_neg (by decide)]
    clear h i a hp
    go_enter Tryd.func41, Tryd.ntmps41
    go_wp2_with fail
    refine (C.out ()).mono ?_
    rintro e w' ⟨rfl, rfl⟩
    go_wp2
    go_ret2
    exact ⟨rfl, HS.out⟩
  | true =>
    rw [i] at C
    obtain ⟨k, rfl, hk, hk2⟩ := isc_nat i
    rw [if_pos rfl, if_pos rfl, if_pos rfl]
    have c0 := h.c0
    have k2 : (k : Int) < p := by omega
    have n2 : (n : Int) < p := by omega
    by_cases e : ks K k = []
    · rw [show taP n K (k : Int) = n by unfold taP; rw [Int.toNat_natCast, if_pos e]]
      obtain ⟨x, cap, cv⟩ := rx_none h (q := k) (by omega) e
      by_cases e2 : ks K n = []
      · rw [show fE (ks K n) = 12 from if_pos e2, show (ks K n).headD 0 = 0 by rw [e2]; rfl, set_same K n _ (by rw [e2]; rfl)]
        obtain ⟨x2, cap2, cv2⟩ := rx_none h (q := n) (by omega) e2
        clear h i a e e2 hp
        go_enter Tryd.func41, Tryd.ntmps41
        go_wp2_with fail
        refine (C.out ()).mono ?_
        rintro e w' ⟨rfl, rfl⟩
        go_wp2
        go_ret2
        exact ⟨rfl, HS.out⟩
      · rw [show fE (ks K n) = 0 from if_neg e2]
        obtain ⟨g, off, cap2, cv2, cg, hcap⟩ := rx_head h (q := n) (by omega) e2
        have DR : Hid (∀ _ : Unit, _) := fun _ => rgdrop_hd n w h a hp e2
        have l0 := List.length_pos_iff.2 e2
        have l1 : (1 : Int) ≤ (ks K n).length := by omega
        have l2 : ((ks K n).length : Int) ≤ cap2 := by omega
        have z0 : (((ks K n).length : Int) == 0) = false := by simp; omega
        generalize (ks K n).headD 0 = y at *
        generalize (ks K n).tail = Z at *
        generalize (ks K n).length = len at *
        clear h i a e e2 hp hcap
        go_enter Tryd.func41, Tryd.ntmps41
        go_wp2_with fail
        refine (C.out ()).mono ?_
        rintro e w' ⟨rfl, rfl⟩
        go_wp2_with fail
        refine (DR.out ()).mono ?_
        rintro e w1 ⟨rfl, rc⟩
        have R1 : Hid _ := rc
        clear rc
        go_wp2
        go_ret2
        exact ⟨rfl, R1.out⟩
    · rw [show taP n K (k : Int) = k by unfold taP; rw [Int.toNat_natCast, if_neg e]]
      rw [show fE (ks K k) = 0 from if_neg e]
      obtain ⟨g, off, cap2, cv2, cg, hcap⟩ := rx_head h (q := k) (by omega) e
      have DR : Hid (∀ _ : Unit, _) := fun _ => rgdrop_hd k w h a hp e
      have l0 := List.length_pos_iff.2 e
      have l1 : (1 : Int) ≤ (ks K k).length := by omega
      have l2 : ((ks K k).length : Int) ≤ cap2 := by omega
      have z0 : (((ks K k).length : Int) == 0) = false := by simp; omega
      generalize (ks K k).headD 0 = y at *
      generalize (ks K k).tail = Z at *
      generalize (ks K k).length = len at *
      clear h i a e hp hcap
      go_enter Tryd.func41, Tryd.ntmps41
      go_wp2_with fail
      refine (C.out ()).mono ?_
      rintro e w' ⟨rfl, rfl⟩
      go_wp2_with fail
      refine (DR.out ()).mono ?_
      rintro e w1 ⟨rfl, rc⟩
      have R1 : Hid _ := rc
      clear rc
      go_wp2
      go_ret2
      exact ⟨rfl, R1.out⟩

set_option maxRecDepth 100000 in
set_option maxHeartbeats 4000000 in
theorem rgunbind_any {b lb p n : Nat} {V : List Value} {K : Ks} (c : Int) (w : World) (h : RX 69 w b lb p V K) (a : Al K) (hp : p = n + 1) :
    Calls Tryd.prog 42 #[.pointer (some ⟨b, 0, none⟩), .int .i64 c] w fun e w' => e = .returned (.tuple #[.int .i64 (unN n K c), .int .i64 (unE n K c)]) ∧ RC 69 w w' b lb p V (unK n K c) := by
  have C : Hid (∀ _ : Unit, _) := fun _ => rgis_any c w h hp
  have HS : Hid (RC 69 w w b lb p V K) := RC.refl h
  have h65 : (p : Int) ≤ 65 := by have := h.p2; omega
  have h1 : (1 : Int) ≤ p := by omega
  have hp1 : (p : Int) - 1 = (n : Int) := by omega
  unfold unN unE unK
  cases i : isc n c with
  | false =>
    rw [i] at C
    rw [if_neg (by decide), if_neg (by decide), if_neg (by decide)]
    clear h i a hp
    go_enter Tryd.func42, Tryd.ntmps42
    go_wp2_with fail
    refine (C.out ()).mono ?_
    rintro e w' ⟨rfl, rfl⟩
    go_wp2
    go_ret2
    exact ⟨rfl, HS.out⟩
  | true =>
    rw [i] at C
    obtain ⟨k, rfl, hk, hk2⟩ := isc_nat i
    rw [if_pos rfl, if_pos rfl, if_pos rfl, Int.toNat_natCast]
    have c0 := h.c0
    have k2 : (k : Int) < p := by omega
    have n2 : (n : Int) < p := by omega
    by_cases e : ks K k = []
    · rw [show fE (ks K k) = 12 from if_pos e, show (ks K k).headD 0 = 0 by rw [e]; rfl, show mv K k n = K from if_pos e]
      obtain ⟨x, cap, cv⟩ := rx_none h (q := k) (by omega) e
      clear h i a e hp
      go_enter Tryd.func42, Tryd.ntmps42
      go_wp2_with fail
      refine (C.out ()).mono ?_
      rintro e w' ⟨rfl, rfl⟩
      go_wp2
      go_ret2
      exact ⟨rfl, HS.out⟩
    · rw [show fE (ks K k) = 0 from if_neg e, show mv K k n = (K.set k (ks K k).tail).set n (ks K n ++ [(ks K k).headD 0]) from if_neg e]
      obtain ⟨g, off, cap2, cv2, cg, hcap⟩ := rx_head h (q := k) (by omega) e
      have DR : Hid (∀ _ : Unit, _) := fun _ => rgdrop_hd k w h a hp e
      have l0 := List.length_pos_iff.2 e
      have l1 : (1 : Int) ≤ (ks K k).length := by omega
      have l2 : ((ks K k).length : Int) ≤ cap2 := by omega
      have z0 : (((ks K k).length : Int) == 0) = false := by simp; omega
      have hm : ks (K.set k (ks K k).tail) n = ks K n := by rw [ks_set _ _ _ _ (by have := h.kn; omega), if_neg (by omega)]
      have L1 : Hid ((ks K n).length ≤ 1000) := by have := a.len n; unfold Hid; omega
      have hn : n < p := by omega
      generalize (ks K k).headD 0 = y at *
      have ST : Hid (∀ w1 : World, RC 69 w w1 b lb p V (K.set k (ks K k).tail) → ∃ v1 : Value, w1.cell? ⟨b, 0, none⟩ = some (.slice (some ⟨lb, 0, none⟩) p p) ∧ w1.cell? ⟨lb, n, none⟩ = some v1 ∧ w1.frozen? ⟨lb, n, none⟩ = false ∧ (∀ o : Obj, (w1.alloc o).cell? ⟨b, 0, none⟩ = some (.slice (some ⟨lb, 0, none⟩) p p) ∧ (w1.alloc o).cell? ⟨lb, n, none⟩ = some v1) ∧ Hid (∀ (o : Obj) (wA : World), Sm wA (w1.alloc o) → Lv wA v1 (ks K n)) ∧ Hid (∀ (o : Obj) (wA : World) (v2 : Value) (w2 : World), App wA v1 (ks K n) y v2 w2 → Sm wA (w1.alloc o) → (w2.cell? ⟨b, 0, none⟩ = some (.slice (some ⟨lb, 0, none⟩) p p) ∧ w2.cell? ⟨lb, n, none⟩ = some v1 ∧ w2.frozen? ⟨lb, n, none⟩ = false) ∧ ∀ w3 : World, Sm w3 w2 → RC 69 w (w3.setCell ⟨lb, n, none⟩ v2) b lb p V ((K.set k (ks K k).tail).set n (ks K n ++ [y])))) := fun w1 rc => by
        obtain ⟨V1, r1, hV1⟩ := rc.ex
        have lvs := r1.beside hn
        have app := r1.append (y := y) (by decide) (by decide) hn
        rw [hm] at lvs app
        refine ⟨V1.getD n nv, r1.c0, r1.cv hn, r1.sl.free n, fun o => ⟨(r1.sb.alloc o).cell 0, ((r1.sl.alloc o).cell n).trans ((r1.sl.cell n).symm.trans (r1.cv hn))⟩, lvs, fun o wA v2 w2 hA e => ?_⟩
        obtain ⟨g1, g2⟩ := app o wA e v2 w2 hA
        exact ⟨g1, fun w3 e3 => RC.trans rc.fr hV1 (g2 w3 e3)⟩
      have b1 : ¬ (b = lb) := h.sb.ne h.sl (by decide)
      have b2 : ¬ (lb = b) := fun q => b1 q.symm
      generalize (ks K k).length = len at *
      clear h i a e hp hcap hm hn
      generalize K.set k (ks K k).tail = K1 at *
      go_enter Tryd.func42, Tryd.ntmps42
      go_wp2_with fail
      refine (C.out ()).mono ?_
      rintro e w' ⟨rfl, rfl⟩
      go_wp2_with fail
      refine (DR.out ()).mono ?_
      rintro e u1 ⟨rfl, rc⟩
      obtain ⟨v1, d0, dv, df, dz, LV, F1⟩ := ST.out u1 rc
      obtain ⟨z1, z2⟩ := dz (.cells #[.int .i64 y] 3)
      clear rc ST DR dz
      go_wp2_with fail
      go_region_law
        (first | (refine step_app (v := v1) rfl (.tmp 50) (.tmp 52) rfl y rfl (LV.out _ _ ⟨rfl, rfl, rfl, rfl⟩) L1.out _ _ rfl (((Blk.new u1 [_] _).heap rfl).cell 0) ?_; intro v2 w2 hA; obtain ⟨x2, q2, rfl⟩ := app_shape hA; obtain ⟨⟨a1, a2, a3⟩, a4⟩ := F1.out _ _ _ _ hA ⟨rfl, rfl, rfl, rfl⟩; have HA : Hid (∀ w3 : World, Sm w3 w2 → RC 69 w' (w3.setCell ⟨lb, n, none⟩ (.slice x2 ((ks K n).length + 1) q2)) b lb p V (K1.set n (ks K n ++ [y]))) := a4; clear hA a4))
      all_goals go_wp2
      all_goals go_ret2
      all_goals exact ⟨rfl, HA.out _ ⟨rfl, rfl, rfl, rfl⟩⟩
end Go.Proofs.YtofdhljgchefgaaDoor
