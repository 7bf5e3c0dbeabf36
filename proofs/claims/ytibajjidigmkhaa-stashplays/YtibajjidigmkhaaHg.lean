/- What the document's stash's Alloc answers and leaves (davitref08), for every stash. -/
import Derived.Test.YtibajjidigmkhaaRows
import Derived.Test.YtibajjidigmkhaaHf
import Derived.WalkKit
import Derived.ProofKit
import Derived.OpenShut
import Derived.BigQuiet
import Derived.Deep.RegionHeld3
import Derived.Deep.RegionLaw
import Derived.Deep.DeepCutAuto
import Derived.Deep.CutBlock
namespace Go.Proofs.Ytibajjidigmkhaa
open Go.ChangeShapes Go.WideShapes Go.ChangeAt Go.RowKit
open Om Hm

theorem wo_last (xs : List Int) (h : xs.Nodup) (hp : xs ≠ []) : Fm.wo xs (xs.getLastD 0) = xs.dropLast := by
  obtain ⟨ys, y, rfl⟩ : ∃ ys y, xs = ys ++ [y] := ⟨xs.dropLast, xs.getLast hp, (List.dropLast_concat_getLast hp).symm⟩
  rw [List.nodup_append] at h
  have hy : y ∉ ys := fun e => h.2.2 y e y (by simp) rfl
  have e1 : (ys ++ [y]).getLastD 0 = y := by simp
  rw [e1, List.dropLast_concat]
  unfold Fm.wo
  rw [List.filter_append]
  have a : ys.filter (fun x => x != y) = ys := by
    rw [List.filter_eq_self]
    intro x hx
    have : x ≠ y := fun e => hy (e ▸ hx)
    simpa using this
  rw [a]
  simp

set_option maxRecDepth 100000 in
set_option maxHeartbeats 4000000 in
theorem rsalloc_any {b pb pg lb n m : Nat} {A : List Nat} {V : List Value} {K : List (List Int)} (c : Int) (w : World) (h : RH w b pb pg lb n m A V K) (kl : ∀ i, (ks K i).length ≤ 4) (nd : (al m A (ks K c.toNat)).2.Nodup) :
    Calls Try.prog 44 #[.pointer (some ⟨b, 0, none⟩), .int .i64 c] w fun e w' => e = .returned (.tuple #[.int .i64 (alN m n A K c), .int .i64 (alE m n A K c)]) ∧ RC w w' b pb pg lb n m V (alA m n A K c) (alK m n A K c) := by
  have C : Hid (∀ _ : Unit, _) := fun _ => is_any c w h
  have HS : Hid (RC w w b pb pg lb n m V A K) := RC.refl h
  cases i : isc n c with
  | false =>
    rw [i] at C
    rw [show alN m n A K c = 0 by unfold alN; rw [i]; rfl, show alE m n A K c = 3 by unfold alE; rw [i]; rfl, show alA m n A K c = A by unfold alA; rw [i]; rfl, show alK m n A K c = K by unfold alK; rw [i]; rfl]
    clear h i kl nd
    go_enter Try.func44, Try.ntmps44
    go_wp2_with fail
    refine (C.out ()).mono ?_
    rintro e w' ⟨rfl, rfl⟩
    go_wp2
    go_ret2
    exact ⟨rfl, HS.out⟩
  | true =>
    rw [i] at C
    have hi := isc_true i
    obtain ⟨c, rfl⟩ := Int.eq_ofNat_of_zero_le hi.1
    have hc : (c : Int) < n := hi.2
    have hK : c < K.length := by rw [h.st.kn]; omega
    obtain ⟨s1, hs1⟩ : ∃ s1, al m A (ks K c) = s1 := ⟨_, rfl⟩
    have ND : Hid s1.2.Nodup := by rw [← hs1]; exact nd
    rw [show alN m n A K (c : Int) = s1.2.getLastD 0 by unfold alN; rw [i, ← hs1]; rfl, show alE m n A K (c : Int) = if s1.2 = [] then 5 else 0 by unfold alE; rw [i, ← hs1]; rfl, show alA m n A K (c : Int) = s1.1 by unfold alA; rw [i, ← hs1]; rfl, show alK m n A K (c : Int) = K.set c s1.2.dropLast by unfold alK; rw [i, ← hs1]; rfl]
    obtain ⟨N, hN⟩ : ∃ N, s1.2.getLastD 0 = N := ⟨_, rfl⟩
    obtain ⟨E, hE⟩ : ∃ E : Int, (if s1.2 = [] then 5 else 0) = E := ⟨_, rfl⟩
    have HNE : Hid (s1.2.getLastD 0 = N ∧ (if s1.2 = [] then 5 else 0) = E) := ⟨hN, hE⟩
    rw [hN, hE]
    have c1 := h.st.c1
    have cv := h.st.cv (i := c) (by omega)
    obtain ⟨a, cap, hv⟩ := (h.st.lv (i := c) (by omega)).shape
    rw [hv] at cv
    change w.cell? ⟨lb, c, none⟩ = some (.slice a (ks K c).length cap) at cv
    have CUT : Hid ((ks K c = [] → fk m (A, ks K c) 2 = s1) ∧ (ks K c ≠ [] → (A, ks K c) = s1)) := by
      unfold al at hs1
      exact ⟨fun e => by rw [if_pos e] at hs1; exact hs1, fun e => by rw [if_neg e] at hs1; exact hs1⟩
    have HK : Hid (c < K.length ∧ K.set c (ks K c) = K) := ⟨hK, set_same K c hK⟩
    have L4 : Hid (s1.2.length ≤ 6) := by
      rw [← hs1]
      unfold al
      have h1 := f1_len (m := m) (s := f1 m (A, ks K c))
      have h2 := f1_len (m := m) (s := (A, ks K c))
      have h3 := kl c
      split
      · show (f1 m (f1 m (A, ks K c))).2.length ≤ 6
        simp at h2
        omega
      · show (ks K c).length ≤ 6
        omega
    have KL : Hid (∀ k, k ≤ 2 → (fk m (A, ks K c) k).2.length ≤ 4 + k) := fun k hk => by
      induction k with
      | zero => exact kl c
      | succ k ih =>
        have := ih (by omega)
        have := f1_len (m := m) (s := fk m (A, ks K c) k)
        show (f1 m (fk m (A, ks K c) k)).2.length ≤ _
        omega
    clear h i hi hK hs1 hN hE hv nd
    go_enter Try.func44, Try.ntmps44
    go_wp2_with fail
    refine (C.out ()).mono ?_
    rintro e w' ⟨rfl, rfl⟩
    go_upto_if 23 with (fail)
    go_cut [1] (fun cc wx => cc = .int .i64 (c : Int) ∧ RC w' wx b pb pg lb n m V s1.1 (K.set c s1.2))
    case first =>
      by_cases e : ks K c = []
      · have R0 : Hid (fk m (A, ks K c) 2 = s1) := CUT.out.1 e
        have z0 : ((((ks K c).length : Nat) : Int) == 0) = true := by rw [e]; rfl
        have S0 : Hid (RC w' w' b pb pg lb n m V (fk m (A, ks K c) 0).1 (K.set c (fk m (A, ks K c) 0).2)) := by
          show RC _ _ _ _ _ _ _ _ _ A (K.set c (ks K c))
          rw [HK.out.2]
          exact HS.out
        clear e kl CUT
        go_wp2
        simp only [z0]
        go_loopw [6] (fun i wr => ∃ k : Nat, (k : Int) ≤ 2 ∧ i = .int .i64 k ∧ RC w' wr b pb pg lb n m V (fk m (A, ks K c) k).1 (K.set c (fk m (A, ks K c) k).2)) (fun i _ => 2 - (intOf i).toNat)
        case atStart => exact ⟨0, by omega, rfl, S0.out⟩
        case round =>
          obtain ⟨k, hk, rfl, hs⟩ := hrel
          by_cases l : (k : Int) < 2
          · obtain ⟨V1, h1, hV1⟩ := hs.ex
            have F1 : Hid (Fr w'.heap.size (lb :: pg :: bl V) w' wr ∧ ∀ g ∈ bl V1, g ∈ bl V ∨ w'.heap.size ≤ g) := ⟨hs.fr, hV1⟩
            have D : Hid (∀ _ : Unit, _) := fun _ => rptake_any wr h1.po
            have c0 := h1.st.c0
            have HH : Hid (RH wr b pb pg lb n m (fk m (A, ks K c) k).1 V1 (K.set c (fk m (A, ks K c) k).2)) := h1
            by_cases e : tkE m (fk m (A, ks K c) k).1 = 0
            · rw [e] at D
              have fg := fk_go e
              obtain ⟨s2, hs2⟩ : ∃ s2, fk m (A, ks K c) k = s2 := ⟨_, rfl⟩
              rw [hs2] at D HH fg
              have L1 : Hid (s2.2.length ≤ 6) := by have := KL.out k (by omega); rw [hs2] at this; unfold Hid; omega
              have FG : Hid (fk m (A, ks K c) (k + 1) = (tkA m s2.1, s2.2 ++ [tkN m s2.1])) := fg
              generalize tkN m s2.1 = y at *
              generalize tkA m s2.1 = A2 at *
              clear hs h1 hV1 fg e hs2
              go_wp2_with fail
              refine (D.out ()).mono ?_
              rintro e u1 ⟨rfl, p1, f1⟩
              have h2 := HH.out.pool p1 f1
              have d1 := h2.st.c1
              have dv := h2.st.cv (i := c) (by omega)
              have df : u1.frozen? ⟨lb, c, none⟩ = false := h2.st.sl.free c
              have F2 : Hid (Fr wr.heap.size [pg] wr u1) := f1
              have LV := h2.beside (c := c) (by omega)
              rw [ks_self K c s2.2 HK.out.1] at LV
              have LV : Hid (∀ (o : Obj) (wA : World), Sm wA (u1.alloc o) → Lv wA (V1.getD c nv) s2.2) := LV
              have FIN := h2.append (c := c) (y := y) (by omega)
              rw [ks_self K c s2.2 HK.out.1, List.set_set] at FIN
              have FF : Hid (∀ (o : Obj) (wA : World) (v2 : Value) (w2 : World), App wA (V1.getD c nv) s2.2 y v2 w2 → Sm wA (u1.alloc o) → (w2.cell? ⟨b, 1, none⟩ = some (.slice (some ⟨lb, 0, none⟩) n n) ∧ w2.cell? ⟨lb, c, none⟩ = some (V1.getD c nv) ∧ w2.frozen? ⟨lb, c, none⟩ = false) ∧ ∀ w3 : World, Sm w3 w2 → RC w' (w3.setCell ⟨lb, c, none⟩ v2) b pb pg lb n m V A2 (K.set c (s2.2 ++ [y]))) := fun o wA v2 w2 hA e => by
                obtain ⟨g1, g2⟩ := FIN o wA e v2 w2 hA
                refine ⟨g1, fun w3 e3 => ?_⟩
                refine RC.trans F1.out.1 F1.out.2 (RC.trans (V1 := V1) (F2.out.mono (Nat.le_refl _) ?_) (fun g hg => Or.inl hg) (g2 w3 e3))
                intro k _ hk
                simp only [List.mem_cons] at hk
                simp only [List.mem_singleton]
                exact fun r => hk (Or.inr (Or.inl r))
              have n1 : ¬ (b = lb) := h2.st.sb.ne h2.st.sl (by decide)
              have n2 : ¬ (lb = b) := fun q => n1 q.symm
              have z1 : (u1.alloc (.cells #[.int .i64 y] 3)).cell? ⟨b, 1, none⟩ = some (.slice (some ⟨lb, 0, none⟩) n n) := (h2.st.sb.alloc _).cell 1
              have z2 : (u1.alloc (.cells #[.int .i64 y] 3)).cell? ⟨lb, c, none⟩ = some (V1.getD c nv) := ((h2.st.sl.alloc _).cell c).trans ((h2.st.sl.cell c).symm.trans (h2.st.cv (by omega)))
              generalize V1.getD c nv = v1 at *
              clear FIN f1 p1 h2
              go_wp2_with fail
              go_region_law
                (first | (refine step_app (v := v1) rfl (.tmp 49) (.tmp 51) rfl y rfl (LV.out _ _ ⟨rfl, rfl, rfl, rfl⟩) (by have := L1.out; omega) _ _ rfl (((Blk.new u1 [_] _).heap rfl).cell 0) ?_; intro v2 w2 hA; obtain ⟨x2, q2, rfl⟩ := app_shape hA; obtain ⟨⟨a1, a2, a3⟩, a4⟩ := FF.out _ _ _ _ hA ⟨rfl, rfl, rfl, rfl⟩; have HA : Hid (∀ w3 : World, Sm w3 w2 → RC w' (w3.setCell ⟨lb, c, none⟩ (.slice x2 (s2.2.length + 1) q2)) b pb pg lb n m V A2 (K.set c (s2.2 ++ [y]))) := a4; clear hA a4))
              all_goals go_wp2
              all_goals go_roundw
              all_goals first
                | exact ⟨k + 1, by omega, by go_num, by rw [FG.out]; exact HA.out _ ⟨rfl, rfl, rfl, rfl⟩⟩
                | (simp [intOf]; omega)
            · have e2 : (tkE m (fk m (A, ks K c) k).1 == 0) = false := by simpa using e
              have ta : tkA m (fk m (A, ks K c) k).1 = (fk m (A, ks K c) k).1 := by
                unfold tkA
                unfold tkE at e
                cases q : nx m (fk m (A, ks K c) k).1 with
                | none => rfl
                | some p => rw [q] at e; simp at e
              rw [ta] at D
              have SP : Hid (fk m (A, ks K c) (k + 1) = fk m (A, ks K c) k) := fk_stop e
              generalize tkN m (fk m (A, ks K c) k).1 = y at *
              generalize tkE m (fk m (A, ks K c) k).1 = ee at *
              clear hs h1 hV1 e ta
              go_wp2_with fail
              refine (D.out ()).mono ?_
              rintro e u1 ⟨rfl, p1, f1⟩
              have F2 : Hid (RC w' u1 b pb pg lb n m V (fk m (A, ks K c) (k + 1)).1 (K.set c (fk m (A, ks K c) (k + 1)).2)) := by rw [SP.out]; exact RC.trans F1.out.1 F1.out.2 (RC.pool HH.out p1 f1)
              clear p1 f1
              go_wp2
              go_roundw
              case rel => exact ⟨k + 1, by omega, by go_num, F2.out⟩
              case measure => simp [intOf]; omega
          · obtain rfl : k = 2 := by omega
            rw [R0.out] at hs
            have F2 : Hid (RC w' wr b pb pg lb n m V s1.1 (K.set c s1.2)) := hs
            clear hs
            go_wp2
            go_meet
            case rel => exact ⟨rfl, F2.out⟩
      · have e1 := CUT.out.2 e
        have z0 : ((((ks K c).length : Nat) : Int) == 0) = false := by
          have := List.length_pos_iff.2 e
          simp
          omega
        have H1 : Hid (RC w' w' b pb pg lb n m V s1.1 (K.set c s1.2)) := by rw [← e1]; show RC _ _ _ _ _ _ _ _ _ A (K.set c (ks K c)); rw [HK.out.2]; exact HS.out
        clear e e1 kl KL CUT
        generalize (ks K c).length = q at *
        go_wp2
        go_meet
        case rel => exact ⟨rfl, H1.out⟩
    case rest =>
      obtain ⟨rfl, sc⟩ := hcut
      clear KL CUT cv
      obtain ⟨V1, h1, hV1⟩ := sc.ex
      have F1 : Hid (Fr w'.heap.size (lb :: pg :: bl V) w' wc ∧ ∀ g ∈ bl V1, g ∈ bl V ∨ w'.heap.size ≤ g) := ⟨sc.fr, hV1⟩
      have d1 := h1.st.c1
      have dv := h1.st.cv (i := c) (by omega)
      have df : wc.frozen? ⟨lb, c, none⟩ = false := h1.st.sl.free c
      have lv := h1.st.lv (i := c) (by omega)
      rw [ks_self K c s1.2 HK.out.1] at lv
      by_cases e : s1.2 = []
      · obtain ⟨r1, r2⟩ := HNE.out
        rw [e] at r1
        rw [if_pos e] at r2
        have r1 : (0 : Int) = N := r1
        subst r1
        subst r2
        have SCF : Hid (RC w' wc b pb pg lb n m V s1.1 (K.set c s1.2.dropLast)) := by rw [e] at sc ⊢; exact sc
        obtain ⟨a, cap, hv⟩ := lv.shape
        rw [e] at hv
        simp only [List.length_nil] at hv
        rw [hv] at dv
        clear sc h1 lv hv e
        go_wp2
        go_ret2
        exact ⟨rfl, SCF.out⟩
      · obtain ⟨g, off, cap, cur, hv, hcap, hb, hfit, hcell⟩ := lv_pos lv e
        obtain ⟨r1, r2⟩ := HNE.out
        rw [if_neg e] at r2
        subst r2
        have hp := List.length_pos_iff.2 e
        have ce := hcell (s1.2.length - 1) (by omega)
        rw [last_getD s1.2, r1] at ce
        have cg : wc.cell? ⟨g, off + (s1.2.length - 1), none⟩ = some (.int .i64 N) := by rw [hb.cell]; exact ce
        have WO : Hid (∀ wz : World, Sm wz wc → Calls Try.prog 52 #[.slice (some ⟨g, off, none⟩) s1.2.length cap, .int .i64 N] wz fun e w' => ∃ v', e = .returned v' ∧ Gt wz w' v' s1.2.dropLast) := fun wz ez => by
          have := without_any s1.2 (.slice (some ⟨g, off, none⟩) s1.2.length cap) N wz (by have := L4.out; omega) ((by rw [← hv]; exact (lv.heap ez.1).row))
          rwa [← r1, wo_last s1.2 ND.out e, r1] at this
        have FF : Hid (∀ (wz w2 : World) (v2 : Value), Gt wz w2 v2 s1.2.dropLast → Sm wz wc → (w2.cell? ⟨b, 1, none⟩ = some (.slice (some ⟨lb, 0, none⟩) n n) ∧ w2.cell? ⟨lb, c, none⟩ = some (V1.getD c nv) ∧ w2.frozen? ⟨lb, c, none⟩ = false) ∧ ∀ w3 : World, Sm w3 w2 → RC w' (w3.setCell ⟨lb, c, none⟩ v2) b pb pg lb n m V s1.1 (K.set c s1.2.dropLast)) := fun wz w2 v2 gt ez => by
          obtain ⟨o1, o2⟩ := lv_own (xs := s1.2.dropLast) gt.own
          have f : Fr wc.heap.size [] wc w2 := ez.fr (by rw [← ez.1]; exact Fr.of_below gt.bel)
          have ls := h1.st.ls.fresh (c := c) (by simp; exact HK.out.1) f o1 (by rw [← ez.1]; exact o2)
          obtain ⟨g1, g2⟩ := h1.set (c := c) (by omega) f (by simp) ls (fun q hq => Or.inr (by rw [← ez.1]; exact o2 q hq))
          refine ⟨g1, fun w3 e3 => RC.trans F1.out.1 F1.out.2 ?_⟩
          have := g2 w3 e3
          rw [List.set_set] at this
          exact this
        rw [hv] at dv FF
        obtain ⟨q, hq⟩ : ∃ q, s1.2.length - 1 = q := ⟨_, rfl⟩
        have hq1 : s1.2.length = q + 1 := by omega
        rw [hq] at cg
        rw [hq1] at dv hcap WO FF
        have hqc : (q : Int) + 1 ≤ cap := by omega
        have hq6 : (q : Int) ≤ 6 := by have := L4.out; omega
        have n1 : ¬ (b = lb) := h1.st.sb.ne h1.st.sl (by decide)
        have n2 : ¬ (lb = b) := fun q => n1 q.symm
        clear sc h1 lv hv e hcell hfit hb hV1 hcap hp ce r1 HNE hq hq1 ND
        go_wp2_with fail
        go_region_with
          (first | (go_at_call 52; refine (WO.out _ ?_).mono ?_; exact ⟨rfl, rfl, rfl, rfl⟩; rintro e w2 ⟨v2, rfl, gt⟩; obtain ⟨x2, q2, rfl⟩ := own_shape gt.own; obtain ⟨⟨a1, a2, a3⟩, a4⟩ := FF.out _ _ _ gt ⟨rfl, rfl, rfl, rfl⟩; have HA : Hid (∀ w3 : World, Sm w3 w2 → RC w' (w3.setCell ⟨lb, c, none⟩ (.slice x2 s1.2.dropLast.length q2)) b pb pg lb n m V s1.1 (K.set c s1.2.dropLast)) := a4; clear gt a4))
        all_goals go_wp2
        all_goals go_ret2
        all_goals rw [List.length_dropLast] at HA
        all_goals exact ⟨rfl, HA.out _ ⟨rfl, rfl, rfl, rfl⟩⟩
end Go.Proofs.Ytibajjidigmkhaa
