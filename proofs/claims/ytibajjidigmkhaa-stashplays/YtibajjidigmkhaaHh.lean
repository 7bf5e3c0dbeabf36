/- What the document's stash's Give, Drain and New answer and leave (davitref08), for every stash. -/
import Derived.Test.YtibajjidigmkhaaRows
import Derived.Test.YtibajjidigmkhaaHf
import Derived.WalkKit
import Derived.ProofKit
import Derived.OpenShut
import Derived.BigQuiet
import Derived.Deep.RegionHeld3
import Derived.Deep.RegionLaw
import Derived.Deep.DeepCutAuto
import Derived.Deep.CutBlock
namespace Go.Proofs.Ytibajjidigmkhaa
open Go.ChangeShapes Go.WideShapes Go.ChangeAt Go.RowKit
open Om Hm

/-- A cut at the front. -/
theorem lv_drop {w : World} {g off cap : Nat} {cur : List Value} {xs : List Int} (d : Nat) (hd : d ≤ xs.length) (h1 : xs.length ≤ cap) (hb : Blk w g cur 3) (h2 : off + cap ≤ cur.length) (h3 : ∀ j, j < xs.length → cur[off + j]? = some (.int .i64 (xs.getD j 0))) : Lv w (.slice (some ⟨g, off + d, none⟩) (xs.length - d) (cap - d)) (xs.drop d) := by
  refine Or.inr ⟨g, off + d, cap - d, cur, by simp, by simp; omega, hb, by omega, fun j hj => ?_⟩
  simp at hj
  rw [Nat.add_assoc, h3 (d + j) (by omega)]
  rw [List.getD_eq_getElem?_getD, List.getD_eq_getElem?_getD, List.getElem?_drop]
theorem take_two (xs : List Int) (h : 2 ≤ xs.length) : xs.take 2 = [xs.getD 0 0, xs.getD 1 0] := by
  match xs, h with
  | a :: b :: t, _ => rfl

set_option maxRecDepth 100000 in
set_option maxHeartbeats 4000000 in
theorem rsgive_any {b pb pg lb n m : Nat} {A : List Nat} {V : List Value} {K : List (List Int)} (c x : Int) (w : World) (h : RH w b pb pg lb n m A V K) (kl : ∀ i, (ks K i).length ≤ 4) :
    Calls Try.prog 45 #[.pointer (some ⟨b, 0, none⟩), .int .i64 c, .int .i64 x] w fun e w' => e = .returned (.int .i64 (giE m n A K c x)) ∧ RC w w' b pb pg lb n m V (giA m n A K c x) (giK m n A K c x) := by
  have C : Hid (∀ _ : Unit, _) := fun _ => is_any c w h
  have HS : Hid (RC w w b pb pg lb n m V A K) := RC.refl h
  cases i : isc n c with
  | false =>
    rw [i] at C
    rw [show giE m n A K c x = 3 by unfold giE; rw [i]; rfl, show giA m n A K c x = A by unfold giA; rw [i]; rfl, show giK m n A K c x = K by unfold giK; rw [i]; rfl]
    clear h i kl
    go_enter Try.func45, Try.ntmps45
    go_wp2_with fail
    refine (C.out ()).mono ?_
    rintro e w' ⟨rfl, rfl⟩
    go_wp2
    go_ret
    exact ⟨rfl, HS.out⟩
  | true =>
    rw [i] at C
    have D : Hid (∀ _ : Unit, _) := fun _ => rshas_any x w h kl
    cases j : hs m A K x with
    | false =>
      rw [j] at D
      rw [show giE m n A K c x = 4 by unfold giE; rw [i, j]; rfl, show giA m n A K c x = A by unfold giA; rw [i, j]; rfl, show giK m n A K c x = K by unfold giK; rw [i, j]; rfl]
      clear h i kl j
      go_enter Try.func45, Try.ntmps45
      go_wp2_with fail
      refine (C.out ()).mono ?_
      rintro e w' ⟨rfl, rfl⟩
      go_wp2_with fail
      refine (D.out ()).mono ?_
      rintro e u1 ⟨rfl, rfl⟩
      go_wp2
      go_ret
      exact ⟨rfl, HS.out⟩
    | true =>
      rw [j] at D
      have hi := isc_true i
      obtain ⟨c, rfl⟩ := Int.eq_ofNat_of_zero_le hi.1
      have hc : (c : Int) < n := hi.2
      have hK : c < K.length := by rw [h.st.kn]; omega
      obtain ⟨s1, hs1⟩ : ∃ s1, gs m A (ks K c) = s1 := ⟨_, rfl⟩
      rw [show giE m n A K (c : Int) x = 0 by unfold giE; rw [i, j]; rfl, show giA m n A K (c : Int) x = s1.1 by unfold giA; rw [i, j, ← hs1]; rfl, show giK m n A K (c : Int) x = K.set c (s1.2 ++ [x]) by unfold giK; rw [i, j, ← hs1]; rfl]
      have c0 := h.st.c0
      have c1 := h.st.c1
      have cv := h.st.cv (i := c) (by omega)
      have H0 : Hid (RH w b pb pg lb n m A V K) := h
      obtain ⟨a, cap, hv⟩ := (h.st.lv (i := c) (by omega)).shape
      have HV : Hid (V.getD c nv = .slice a (ks K c).length cap) := hv
      rw [hv] at cv
      change w.cell? ⟨lb, c, none⟩ = some (.slice a (ks K c).length cap) at cv
      have CUT : Hid (((ks K c).length = 4 → gvs m A ((ks K c).take 2) = s1.1 ∧ (ks K c).drop 2 = s1.2) ∧ ((ks K c).length ≠ 4 → A = s1.1 ∧ ks K c = s1.2)) := by
        unfold gs at hs1
        exact ⟨fun e => by rw [if_pos e] at hs1; rw [← hs1]; exact ⟨rfl, rfl⟩, fun e => by rw [if_neg e] at hs1; rw [← hs1]; exact ⟨rfl, rfl⟩⟩
      have HK : Hid (c < K.length ∧ K.set c (ks K c) = K) := ⟨hK, set_same K c hK⟩
      have L4 : Hid (s1.2.length ≤ 6) := by
        rw [← hs1]
        unfold gs
        have h3 := kl c
        split
        · show ((ks K c).drop 2).length ≤ 6
          simp
          omega
        · show (ks K c).length ≤ 6
          omega
      have k4 : ((ks K c).length : Int) ≤ 4 := by have := kl c; omega
      clear h i j hi hK hs1 hv kl
      go_enter Try.func45, Try.ntmps45
      go_wp2_with fail
      refine (C.out ()).mono ?_
      rintro e w' ⟨rfl, rfl⟩
      go_wp2_with fail
      refine (D.out ()).mono ?_
      rintro e u1 ⟨rfl, rfl⟩
      go_upto_if 23 with (fail)
      go_cut [1, 2] (fun cc xx wx => cc = .int .i64 (c : Int) ∧ xx = .int .i64 x ∧ RC u1 wx b pb pg lb n m V s1.1 (K.set c s1.2))
      case first =>
        by_cases e : (ks K c).length = 4
        · have z0 : ((4 : Int) ≤ (((ks K c).length : Nat) : Int)) := by omega
          have lv := H0.out.st.lv (i := c) (by omega)
          have hne : ks K c ≠ [] := fun q => by rw [q] at e; simp at e
          obtain ⟨g, off, cap2, cur, hv, hcap, hb, hfit, hcell⟩ := lv_pos lv hne
          have hx : K.getD c [] = ks K c := rfl
          rw [hx] at hv hcap hcell
          have hv2 := HV.out.symm.trans hv
          simp only [Value.slice.injEq] at hv2
          obtain ⟨rfl, _, rfl⟩ := hv2
          have t2 := take_two (ks K c) (by omega)
          obtain ⟨e1, e2⟩ := CUT.out.1 e
          rw [t2] at e1
          have e1 : gvA m (gvA m A ((ks K c).getD 0 0)) ((ks K c).getD 1 0) = s1.1 := e1
          have g0 : u1.cell? ⟨g, off, none⟩ = some (.int .i64 ((ks K c).getD 0 0)) := by rw [hb.cell]; exact hcell 0 (by omega)
          have g1 : u1.cell? ⟨g, off + 1, none⟩ = some (.int .i64 ((ks K c).getD 1 0)) := by rw [hb.cell]; exact hcell 1 (by omega)
          obtain ⟨y0, hy0⟩ : ∃ y0, (ks K c).getD 0 0 = y0 := ⟨_, rfl⟩
          obtain ⟨y1, hy1⟩ : ∃ y1, (ks K c).getD 1 0 = y1 := ⟨_, rfl⟩
          rw [hy0, hy1] at e1
          rw [hy0] at g0
          rw [hy1] at g1
          have C1 : Hid (∀ wz : World, Sm wz u1 → Calls Try.prog 15 #[.pointer (some ⟨pb, 0, none⟩), .int .i64 y0] wz fun e w' => e = .returned (.int .i64 (gvE m A y0)) ∧ RO w' pb pg m (gvA m A y0) ∧ Fr u1.heap.size [pg] u1 w') := fun wz ez => (rpgive_any y0 wz (H0.out.po.heap ez.1)).mono fun _ w' ⟨h1, h2, h3⟩ => ⟨h1, h2, ez.fr (by rw [← ez.1]; exact h3)⟩
          have KEEP : Hid (∀ (u2 : World) (A2 : List Nat), RO u2 pb pg m A2 → Fr u1.heap.size [pg] u1 u2 → RH u2 b pb pg lb n m A2 V K ∧ u2.cell? ⟨b, 0, none⟩ = some (.pointer (some ⟨pb, 0, none⟩)) ∧ u2.cell? ⟨b, 1, none⟩ = some (.slice (some ⟨lb, 0, none⟩) n n) ∧ u2.cell? ⟨lb, c, none⟩ = some (.slice (some ⟨g, off, none⟩) (ks K c).length cap) ∧ u2.cell? ⟨g, off, none⟩ = some (.int .i64 y0) ∧ u2.cell? ⟨g, off + 1, none⟩ = some (.int .i64 y1) ∧ u2.frozen? ⟨lb, c, none⟩ = false) := fun u2 A2 p f => by
            have h2 := H0.out.pool p f
            have ng : g ∉ [pg] := by simp; exact fun q => (hb.ne H0.out.po.sg (by decide)) q
            refine ⟨h2, h2.st.c0, h2.st.c1, ?_, ?_, ?_, h2.st.sl.free c⟩
            · rw [h2.st.cv (by omega), HV.out]
            · rw [f.cell (p := ⟨g, off, none⟩) hb.lt ng]; exact g0
            · rw [f.cell (p := ⟨g, off + 1, none⟩) hb.lt ng]; exact g1
          have C2 : Hid (∀ (u2 : World), RO u2 pb pg m (gvA m A y0) → Fr u1.heap.size [pg] u1 u2 → ∀ wz : World, Sm wz u2 → Calls Try.prog 15 #[.pointer (some ⟨pb, 0, none⟩), .int .i64 y1] wz fun e w' => e = .returned (.int .i64 (gvE m (gvA m A y0) y1)) ∧ RO w' pb pg m s1.1 ∧ Fr u1.heap.size [pg] u1 w') := fun u2 p f wz ez => (rpgive_any y1 wz (p.heap ez.1)).mono fun _ w' ⟨h1, h2, h3⟩ => ⟨h1, by rw [← e1]; exact h2, f.trans ((ez.fr (by rw [← ez.1]; exact h3)).less f.size)⟩
          have FIN : Hid (∀ (u3 : World), RO u3 pb pg m s1.1 → Fr u1.heap.size [pg] u1 u3 → ∀ w3 : World, Sm w3 u3 → RC u1 (w3.setCell ⟨lb, c, none⟩ (.slice (some ⟨g, off + 2, none⟩) ((ks K c).length - 2) (cap - 2))) b pb pg lb n m V s1.1 (K.set c s1.2)) := fun u3 p f w3 e3 => by
            have h3 := H0.out.pool p f
            have hb3 : Blk u3 g cur 3 := hb.keep f hb.lt (by simp; exact fun q => (hb.ne H0.out.po.sg (by decide)) q)
            have ls := h3.st.ls.cut (c := c) HK.out.1 HV.out (Nat.le_add_right off 2) (by omega) (lv_drop 2 (by omega) hcap hb3 hfit hcell)
            rw [e2] at ls
            refine RC.trans (RC.pool H0.out p f).fr (fun _ hg => Or.inl hg) ((h3.set (c := c) (by omega) (Fr.refl u3.heap.size [] u3) (by simp) ls (fun q hq => Or.inl ?_)).2 w3 e3)
            refine bl_get (i := c) ?_
            rw [HV.out]
            simpa [vb] using hq
          have kc4 : (4 : Int) ≤ cap := by omega
          have n1 : ¬ (b = lb) := H0.out.st.sb.ne H0.out.st.sl (by decide)
          have n2 : ¬ (lb = b) := fun q => n1 q.symm
          have E4 : Hid ((ks K c).length = 4) := e
          clear hy0 hy1 e1 e2 t2 hcell hfit hb hcap hv hx hne lv CUT e
          generalize gvE m A y0 = ee at *
          generalize gvE m (gvA m A y0) y1 = ef at *
          generalize gvA m A y0 = A2 at *
          generalize (ks K c).length = q at *
          have q0 : (0 : Int) < (q : Int) := by omega
          have q00 : 0 < q := by omega
          have q01 : ¬ (q = 0) := by omega
          have q1 : (1 : Int) < (q : Int) := by omega
          go_wp2_with fail
          go_region_held3 (fun w' => w'.cell? ⟨b, 0, none⟩ = some (.pointer (some ⟨pb, 0, none⟩)) ∧ w'.cell? ⟨b, 1, none⟩ = some (.slice (some ⟨lb, 0, none⟩) n n) ∧ w'.cell? ⟨lb, c, none⟩ = some (.slice (some ⟨g, off, none⟩) q cap) ∧ w'.cell? ⟨g, off, none⟩ = some (.int .i64 y0)) (go_keep)
            (first | (go_at_call 15; refine (C1.out _ ?_).mono ?_; exact ⟨rfl, rfl, rfl, rfl⟩; rintro e u2 ⟨rfl, p2, f2⟩; obtain ⟨_, b0, b1, b2, b3, b4, b5⟩ := KEEP.out u2 _ p2 f2; have P2 : Hid (RO u2 pb pg m A2 ∧ Fr u1.heap.size [pg] u1 u2) := ⟨p2, f2⟩; clear p2 f2))
          go_wp2_with fail
          go_region_held3 (fun w' => w'.cell? ⟨b, 0, none⟩ = some (.pointer (some ⟨pb, 0, none⟩)) ∧ w'.cell? ⟨b, 1, none⟩ = some (.slice (some ⟨lb, 0, none⟩) n n) ∧ w'.cell? ⟨lb, c, none⟩ = some (.slice (some ⟨g, off, none⟩) q cap) ∧ w'.cell? ⟨g, off + 1, none⟩ = some (.int .i64 y1)) (go_keep)
            (first | (go_at_call 15; refine (C2.out u2 P2.out.1 P2.out.2 _ ?_).mono ?_; exact ⟨rfl, rfl, rfl, rfl⟩; rintro e u3 ⟨rfl, p3, f3⟩; obtain ⟨_, d0, d1, d2, d3, d4, d5⟩ := KEEP.out u3 _ p3 f3; have P3 : Hid (RO u3 pb pg m s1.1 ∧ Fr u1.heap.size [pg] u1 u3) := ⟨p3, f3⟩; clear p3 f3))
          have q4 := E4.out
          subst q4
          go_wp2_with fail
          go_region
          all_goals go_wp2
          all_goals go_meet
          all_goals first
            | exact ⟨rfl, rfl, FIN.out u3 P3.out.1 P3.out.2 _ ⟨rfl, rfl, rfl, rfl⟩⟩
            | exact ⟨rfl, rfl, (FIN.out u3 P3.out.1 P3.out.2 u3 ⟨rfl, rfl, rfl, rfl⟩).sm ⟨rfl, rfl, rfl, rfl⟩⟩
        · have z0 : ((((ks K c).length : Nat) : Int) < 4) := by omega
          have H1 : Hid (RC u1 u1 b pb pg lb n m V s1.1 (K.set c s1.2)) := by rw [← (CUT.out.2 e).1, ← (CUT.out.2 e).2, HK.out.2]; exact HS.out
          clear e CUT k4
          generalize (ks K c).length = q at *
          go_wp2
          go_meet
          case rel => exact ⟨rfl, rfl, H1.out⟩
      case rest =>
        obtain ⟨rfl, rfl, sc⟩ := hcut
        clear CUT cv k4 c0
        obtain ⟨V1, h1, hV1⟩ := sc.ex
        have F1 : Hid (Fr u1.heap.size (lb :: pg :: bl V) u1 wc ∧ ∀ g ∈ bl V1, g ∈ bl V ∨ u1.heap.size ≤ g) := ⟨sc.fr, hV1⟩
        have d1 := h1.st.c1
        have dv := h1.st.cv (i := c) (by omega)
        have df : wc.frozen? ⟨lb, c, none⟩ = false := h1.st.sl.free c
        have LV := h1.beside (c := c) (by omega)
        rw [ks_self K c s1.2 HK.out.1] at LV
        have LV : Hid (∀ (o : Obj) (wA : World), Sm wA (wc.alloc o) → Lv wA (V1.getD c nv) s1.2) := LV
        have FIN := h1.append (c := c) (y := x) (by omega)
        rw [ks_self K c s1.2 HK.out.1, List.set_set] at FIN
        have FF : Hid (∀ (o : Obj) (wA : World) (v2 : Value) (w2 : World), App wA (V1.getD c nv) s1.2 x v2 w2 → Sm wA (wc.alloc o) → (w2.cell? ⟨b, 1, none⟩ = some (.slice (some ⟨lb, 0, none⟩) n n) ∧ w2.cell? ⟨lb, c, none⟩ = some (V1.getD c nv) ∧ w2.frozen? ⟨lb, c, none⟩ = false) ∧ ∀ w3 : World, Sm w3 w2 → RC u1 (w3.setCell ⟨lb, c, none⟩ v2) b pb pg lb n m V s1.1 (K.set c (s1.2 ++ [x]))) := fun o wA v2 w2 hA e => by
          obtain ⟨g1, g2⟩ := FIN o wA e v2 w2 hA
          exact ⟨g1, fun w3 e3 => RC.trans F1.out.1 F1.out.2 (g2 w3 e3)⟩
        have n1 : ¬ (b = lb) := h1.st.sb.ne h1.st.sl (by decide)
        have n2 : ¬ (lb = b) := fun q => n1 q.symm
        have z1 : (wc.alloc (.cells #[.int .i64 x] 3)).cell? ⟨b, 1, none⟩ = some (.slice (some ⟨lb, 0, none⟩) n n) := (h1.st.sb.alloc _).cell 1
        have z2 : (wc.alloc (.cells #[.int .i64 x] 3)).cell? ⟨lb, c, none⟩ = some (V1.getD c nv) := ((h1.st.sl.alloc _).cell c).trans ((h1.st.sl.cell c).symm.trans (h1.st.cv (by omega)))
        generalize V1.getD c nv = v1 at *
        clear FIN sc h1 hV1 HV
        go_wp2_with fail
        go_region_law
          (first | (refine step_app (v := v1) rfl (.tmp 77) (.tmp 79) rfl x rfl (LV.out _ _ ⟨rfl, rfl, rfl, rfl⟩) (by have := L4.out; omega) _ _ rfl (((Blk.new wc [_] _).heap rfl).cell 0) ?_; intro v2 w2 hA; obtain ⟨x2, q2, rfl⟩ := app_shape hA; obtain ⟨⟨a1, a2, a3⟩, a4⟩ := FF.out _ _ _ _ hA ⟨rfl, rfl, rfl, rfl⟩; have HA : Hid (∀ w3 : World, Sm w3 w2 → RC u1 (w3.setCell ⟨lb, c, none⟩ (.slice x2 (s1.2.length + 1) q2)) b pb pg lb n m V s1.1 (K.set c (s1.2 ++ [x]))) := a4; clear hA a4))
        all_goals go_wp2
        all_goals go_ret
        all_goals exact ⟨rfl, HA.out _ ⟨rfl, rfl, rfl, rfl⟩⟩

set_option maxHeartbeats 4000000 in
theorem rsdrain_any {b pb pg lb n m : Nat} {A : List Nat} {V : List Value} {K : List (List Int)} (c : Int) (w : World) (h : RH w b pb pg lb n m A V K) (kl : ∀ i, (ks K i).length ≤ 4) :
    Calls Try.prog 46 #[.pointer (some ⟨b, 0, none⟩), .int .i64 c] w fun e w' => e = .returned (.tuple #[.int .i64 (drN n K c), .int .i64 (drE n c)]) ∧ RC w w' b pb pg lb n m V (drA m n A K c) (drK n K c) := by
  have C : Hid (∀ _ : Unit, _) := fun _ => is_any c w h
  have HS : Hid (RC w w b pb pg lb n m V A K) := RC.refl h
  cases i : isc n c with
  | false =>
    rw [i] at C
    rw [show drN n K c = 0 by unfold drN; rw [i]; rfl, show drE n c = 3 by unfold drE; rw [i]; rfl, show drA m n A K c = A by unfold drA; rw [i]; rfl, show drK n K c = K by unfold drK; rw [i]; rfl]
    clear h i kl
    go_enter Try.func46, Try.ntmps46
    go_wp2_with fail
    refine (C.out ()).mono ?_
    rintro e w' ⟨rfl, rfl⟩
    go_wp2
    go_ret2
    exact ⟨rfl, HS.out⟩
  | true =>
    rw [i] at C
    have hi := isc_true i
    obtain ⟨c, rfl⟩ := Int.eq_ofNat_of_zero_le hi.1
    have hc : (c : Int) < n := hi.2
    have hK : c < K.length := by rw [h.st.kn]; omega
    rw [show drN n K (c : Int) = ((ks K c).length : Int) by unfold drN; rw [i]; rfl, show drE n (c : Int) = 0 by unfold drE; rw [i]; rfl, show drA m n A K (c : Int) = gvs m A (ks K c) by unfold drA; rw [i]; rfl, show drK n K (c : Int) = K.set c [] by unfold drK; rw [i]; rfl]
    have c1 := h.st.c1
    have cv := h.st.cv (i := c) (by omega)
    have lv := h.st.lv (i := c) (by omega)
    obtain ⟨a, cap, hv⟩ := lv.shape
    have HV : Hid (V.getD c nv = .slice a (ks K c).length cap) := hv
    have hr := lv.row
    rw [hv] at cv hr
    change w.cell? ⟨lb, c, none⟩ = some (.slice a (ks K c).length cap) at cv
    change Row w (.slice a (ks K c).length cap) (ks K c) at hr
    have l4 : ((ks K c).length : Int) ≤ 4 := by have := kl c; omega
    have H0 : Hid (RH w b pb pg lb n m A V K) := h
    obtain ⟨xs, hxs⟩ : ∃ xs, ks K c = xs := ⟨_, rfl⟩
    rw [hxs] at cv hr l4 HV ⊢
    have KC : Hid (∀ (wr : World) (A2 : List Nat), RH wr b pb pg lb n m A2 V K → wr.cell? ⟨b, 0, none⟩ = some (.pointer (some ⟨pb, 0, none⟩)) ∧ wr.cell? ⟨b, 1, none⟩ = some (.slice (some ⟨lb, 0, none⟩) n n) ∧ wr.cell? ⟨lb, c, none⟩ = some (.slice a xs.length cap) ∧ wr.frozen? ⟨lb, c, none⟩ = false) := fun wr A2 h2 => ⟨h2.st.c0, h2.st.c1, by rw [h2.st.cv (by omega), HV.out], h2.st.sl.free c⟩
    have KE : Hid (∀ (wr : World) (A2 : List Nat), RH wr b pb pg lb n m A2 V K → ∀ k : Nat, (k : Int) < xs.length → ∃ g off, a = some ⟨g, off, none⟩ ∧ wr.cell? ⟨g, off + k, none⟩ = some (.int .i64 (xs.getD k 0))) := fun wr A2 h2 k hk => by
      have r := (h2.st.lv (i := c) (by omega)).row
      rw [HV.out] at r
      change Row wr _ (ks K c) at r
      rw [hxs] at r
      exact row_cell r rfl (Below.refl _ _) hk
    have FIN : Hid (∀ (u3 : World), RH u3 b pb pg lb n m (gvs m A xs) V K → Fr w.heap.size [pg] w u3 → ∀ w3 : World, Sm w3 u3 → RC w (w3.setCell ⟨lb, c, none⟩ (.slice none 0 0)) b pb pg lb n m V (gvs m A xs) (K.set c [])) := fun u3 h3 f w3 e3 => by
      have ls := h3.st.ls.turn (c := c) (w' := u3) hK (v' := .slice none 0 0) (l' := []) (Or.inl ⟨rfl, rfl⟩) fun u ys k p => ⟨k, ap_nil _ _ _⟩
      exact RC.trans (RC.pool H0.out h3.po f).fr (fun _ hg => Or.inl hg) ((h3.set (c := c) (by omega) (Fr.refl u3.heap.size [] u3) (by simp) ls (by simp [vb])).2 w3 e3)
    obtain ⟨q, hq⟩ : ∃ q, xs.length = q := ⟨_, rfl⟩
    have HQ : Hid (xs.length = q) := hq
    rw [hq] at cv l4 KC KE ⊢
    clear h i hi hK hv kl lv hr hxs hq
    go_enter Try.func46, Try.ntmps46
    go_wp2_with fail
    refine (C.out ()).mono ?_
    rintro e w' ⟨rfl, rfl⟩
    go_wp2
    go_loopw [7] (fun i wr => ∃ k : Nat, (k : Int) ≤ q ∧ i = .int .i64 k ∧ RH wr b pb pg lb n m (gvs m A (xs.take k)) V K ∧ Fr w'.heap.size [pg] w' wr) (fun i _ => q - (intOf i).toNat)
    case atStart => exact ⟨0, by omega, rfl, H0.out, Fr.refl _ _ _⟩
    case round =>
      obtain ⟨k, hk, rfl, h1, f1⟩ := hrel
      have H1 : Hid (RH wr b pb pg lb n m (gvs m A (xs.take k)) V K ∧ Fr w'.heap.size [pg] w' wr) := ⟨h1, f1⟩
      obtain ⟨k0, k1, k2, k3⟩ := KC.out wr _ h1
      by_cases l : (k : Int) < q
      · obtain ⟨g, off, rfl, ce⟩ := KE.out wr _ h1 k l
        have D : Hid (∀ wz : World, Sm wz wr → Calls Try.prog 15 #[.pointer (some ⟨pb, 0, none⟩), .int .i64 (xs.getD k 0)] wz fun e u => e = .returned (.int .i64 (gvE m (gvs m A (xs.take k)) (xs.getD k 0))) ∧ RH u b pb pg lb n m (gvs m A (xs.take (k + 1))) V K ∧ Fr w'.heap.size [pg] w' u) := fun wz ez => (rpgive_any (xs.getD k 0) wz (H1.out.1.po.heap ez.1)).mono fun _ u ⟨r1, r2, r3⟩ => by
          have f : Fr wr.heap.size [pg] wr u := ez.fr (by rw [← ez.1]; exact r3)
          refine ⟨r1, ?_, H1.out.2.trans (f.less H1.out.2.size)⟩
          rw [take_snoc xs k (by have := HQ.out; omega), gvs_snoc]
          exact H1.out.1.pool r2 f
        have KE2 : Hid (∀ (u : World) (A2 : List Nat), RH u b pb pg lb n m A2 V K → u.cell? ⟨g, off + k, none⟩ = some (.int .i64 (xs.getD k 0))) := fun u A2 h2 => by
          obtain ⟨g2, off2, e, ce2⟩ := KE.out u A2 h2 k l
          cases e
          exact ce2
        generalize xs.getD k 0 = y at *
        generalize gvE m (gvs m A (xs.take k)) y = ee at *
        clear h1 f1
        go_wp2_with fail
        go_region_held3 (fun w' => w'.cell? ⟨b, 0, none⟩ = some (.pointer (some ⟨pb, 0, none⟩)) ∧ w'.cell? ⟨b, 1, none⟩ = some (.slice (some ⟨lb, 0, none⟩) n n) ∧ w'.cell? ⟨lb, c, none⟩ = some (.slice (some ⟨g, off, none⟩) q cap) ∧ w'.cell? ⟨g, off + k, none⟩ = some (.int .i64 y)) (go_keep)
          (first | (go_at_call 15; refine (D.out _ ?_).mono ?_; exact ⟨rfl, rfl, rfl, rfl⟩; rintro e u2 ⟨rfl, h2, f2⟩; obtain ⟨b0, b1, b2, b3⟩ := KC.out u2 _ h2; have b4 := KE2.out u2 _ h2; have P2 : Hid (RH u2 b pb pg lb n m (gvs m A (xs.take (k + 1))) V K ∧ Fr w'.heap.size [pg] w' u2) := ⟨h2, f2⟩; clear h2 f2))
        go_wp2
        go_roundw
        case rel => exact ⟨k + 1, by omega, by go_num, P2.out⟩
        case measure => simp [intOf]; omega
      · have FF : Hid (RC w' (wr.setCell ⟨lb, c, none⟩ (.slice none 0 0)) b pb pg lb n m V (gvs m A xs) (K.set c [])) := by
          have h2 := h1
          rw [List.take_of_length_le (by have := HQ.out; omega)] at h2
          exact FIN.out wr h2 f1 wr ⟨rfl, rfl, rfl, rfl⟩
        clear h1 f1
        go_wp2
        go_ret2
        exact ⟨rfl, FF.out⟩

set_option maxHeartbeats 1000000 in
theorem rsnew_any (n m : Nat) (w : World) (h1 : (1 : Int) ≤ n) (h2 : (n : Int) ≤ 64) (h3 : (1 : Int) ≤ m) (h4 : (m : Int) ≤ 12) :
    Calls Try.prog 23 #[.int .i64 (n : Int), .int .i64 (m : Int)] w fun e w' => ∃ b pb pg lb V, e = .returned (.tuple #[.pointer (some ⟨b, 0, none⟩), .int .i64 0]) ∧ RH w' b pb pg lb n m (List.replicate 12 0) V (List.replicate n []) ∧ (w.heap.size ≤ b ∧ w.heap.size ≤ pb ∧ w.heap.size ≤ pg ∧ w.heap.size ≤ lb ∧ bl V = []) ∧ Fr w.heap.size [] w w' := by
  have C : Hid (∀ _ : Unit, _) := fun _ => rpnew_any m w h3 h4
  have hmk := run_make_row' (P := Try.prog) 53 22 (.slice none 0 0) 24 Try.underlying53 Try.infoL rfl .i64 .i64 n (by omega) (by omega)
  rw [made_nil] at hmk
  have ls0 : ∀ w : World, Ls w (List.replicate n nv) (List.replicate n []) := fun w => by
    have e1 : ∀ i, (List.replicate n nv).getD i nv = nv := fun i => by
      rw [List.getD_eq_getElem?_getD, List.getElem?_replicate]
      split <;> rfl
    have e2 : ∀ i, (List.replicate n ([] : List Int)).getD i [] = [] := fun i => by
      rw [List.getD_eq_getElem?_getD, List.getElem?_replicate]
      split <;> rfl
    exact ⟨by simp, fun i _ => by rw [e1, e2]; exact Or.inl ⟨rfl, rfl⟩, fun i j _ _ _ => by rw [e1]; exact ap_nil _ _ _⟩
  have b0 : bl (List.replicate n nv) = [] := by
    apply List.eq_nil_iff_forall_not_mem.2
    intro g hg
    obtain ⟨v, hv, hm⟩ := List.mem_flatMap.1 hg
    obtain ⟨_, rfl⟩ := List.mem_replicate.1 hv
    simp [vb, nv] at hm
  have FIN : Hid (∀ u1 : World, RO u1 (w.heap.size + 1) w.heap.size m (List.replicate 12 0) → Fr w.heap.size [] w u1 →
      RH ((u1.alloc (.cells (List.replicate n nv).toArray 22)).alloc (.cells #[.pointer (some ⟨w.heap.size + 1, 0, none⟩), .slice (some ⟨u1.heap.size, 0, none⟩) n n] 55)) (u1.heap.size + 1) (w.heap.size + 1) w.heap.size u1.heap.size n m (List.replicate 12 0) (List.replicate n nv) (List.replicate n []) ∧ (w.heap.size ≤ u1.heap.size + 1 ∧ w.heap.size ≤ w.heap.size + 1 ∧ w.heap.size ≤ w.heap.size ∧ w.heap.size ≤ u1.heap.size ∧ bl (List.replicate n nv) = []) ∧ Fr w.heap.size [] w ((u1.alloc (.cells (List.replicate n nv).toArray 22)).alloc (.cells #[.pointer (some ⟨w.heap.size + 1, 0, none⟩), .slice (some ⟨u1.heap.size, 0, none⟩) n n] 55))) := fun u1 p f => by
    have s1 := f.size
    have f2 : Fr u1.heap.size [] u1 ((u1.alloc (.cells (List.replicate n nv).toArray 22)).alloc (.cells #[.pointer (some ⟨w.heap.size + 1, 0, none⟩), .slice (some ⟨u1.heap.size, 0, none⟩) n n] 55)) := ((Fr.refl u1.heap.size [] u1).alloc (Nat.le_refl _) _).alloc (by simp) _
    refine ⟨⟨⟨?_, (Blk.new u1 (List.replicate n nv) 22).alloc _, ls0 _, by simp, by omega, by omega⟩, p.keep f2 ⟨p.sb.lt, p.sg.lt⟩ ⟨by simp, by simp⟩⟩, ⟨by omega, by omega, by omega, by omega, b0⟩, f.trans (f2.less s1)⟩
    have := Blk.new (u1.alloc (.cells (List.replicate n nv).toArray 22)) [.pointer (some ⟨w.heap.size + 1, 0, none⟩), .slice (some ⟨u1.heap.size, 0, none⟩) n n] 55
    simpa using this
  clear ls0 b0
  generalize List.replicate n nv = Y at *
  go_enter Try.func23, Try.ntmps23
  go_wp2_with fail
  refine (C.out ()).mono ?_
  rintro e u1 ⟨rfl, p1, f1⟩
  have FF : Hid (_ ∧ _) := FIN.out u1 p1 f1
  clear p1 f1
  go_wp2
  go_ret2
  exact ⟨_, _, _, _, _, rfl, FF.out⟩

theorem rsnew_bad (n m : Int) (w : World) (h : (n < 1 ∨ 64 < n) ∨ (m < 1 ∨ 12 < m)) :
    Calls Try.prog 23 #[.int .i64 n, .int .i64 m] w fun e w' => e = .returned (.tuple #[.pointer none, .int .i64 2]) ∧ Fr w.heap.size [] w w' := by
  by_cases hm : m < 1 ∨ 12 < m
  · have C : Hid (∀ _ : Unit, _) := fun _ => rpnew_bad m w hm
    clear h hm
    by_cases hn : n < 1
    · go_enter Try.func23, Try.ntmps23
      go_wp2_with fail
      refine (C.out ()).mono ?_
      rintro e w' ⟨rfl, rfl⟩
      go_wp2
      go_ret2
      exact ⟨rfl, Fr.refl _ _ _⟩
    · by_cases hn2 : 64 < n
      · go_enter Try.func23, Try.ntmps23
        go_wp2_with fail
        refine (C.out ()).mono ?_
        rintro e w' ⟨rfl, rfl⟩
        go_wp2
        go_ret2
        exact ⟨rfl, Fr.refl _ _ _⟩
      · go_enter Try.func23, Try.ntmps23
        go_wp2_with fail
        refine (C.out ()).mono ?_
        rintro e w' ⟨rfl, rfl⟩
        go_wp2
        go_ret2
        exact ⟨rfl, Fr.refl _ _ _⟩
  · obtain ⟨m, rfl⟩ := Int.eq_ofNat_of_zero_le (show 0 ≤ m by omega)
    have C : Hid (∀ _ : Unit, _) := fun _ => rpnew_any m w (by omega) (by omega)
    by_cases hn : n < 1
    · clear h hm
      go_enter Try.func23, Try.ntmps23
      go_wp2_with fail
      refine (C.out ()).mono ?_
      rintro e u1 ⟨rfl, _, f1⟩
      go_wp2
      go_ret2
      exact ⟨rfl, f1⟩
    · have hn2 : 64 < n := by omega
      clear h hm
      go_enter Try.func23, Try.ntmps23
      go_wp2_with fail
      refine (C.out ()).mono ?_
      rintro e u1 ⟨rfl, _, f1⟩
      go_wp2
      go_ret2
      exact ⟨rfl, f1⟩
end Go.Proofs.Ytibajjidigmkhaa
