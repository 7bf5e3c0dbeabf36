/- What stash's Alloc, Give and Drain answer and leave, for every stash. -/
import Derived.Test.YtibajjidigmkhaaRows
import Derived.Test.YtibajjidigmkhaaHc
import Derived.WalkKit
import Derived.ProofKit
import Derived.OpenShut
import Derived.BigQuiet
import Derived.Deep.RegionHeld3
import Derived.Deep.RegionLaw
import Derived.Deep.DeepCutAuto
import Derived.Deep.CutBlock
namespace Go.Proofs.Ytibajjidigmkhaa
open Go.ChangeShapes Go.WideShapes Go.ChangeAt Go.RowKit
open Om Hm

theorem set_same (K : List (List Int)) (c : Nat) (hc : c < K.length) : K.set c (ks K c) = K := by
  apply List.ext_getElem?
  intro i
  rw [List.getElem?_set]
  by_cases e : c = i
  · subst e
    unfold ks
    rw [if_pos rfl, if_pos hc, List.getD_eq_getElem?_getD, List.getElem?_eq_getElem hc]
    rfl
  · rw [if_neg e]
theorem ks_self (K : List (List Int)) (c : Nat) (l : List Int) (hc : c < K.length) : (K.set c l).getD c [] = l := by
  have := ks_set K c c l hc
  rw [if_pos rfl] at this
  exact this

/-- A list that is not empty, as it lies. -/
theorem lv_pos {w : World} {v : Value} {xs : List Int} (h : Lv w v xs) (hp : xs ≠ []) : ∃ (g off cap : Nat) (cur : List Value), v = .slice (some ⟨g, off, none⟩) xs.length cap ∧ xs.length ≤ cap ∧ Blk w g cur 3 ∧ off + cap ≤ cur.length ∧ ∀ j, j < xs.length → cur[off + j]? = some (.int .i64 (xs.getD j 0)) := by
  rcases h with ⟨_, e⟩ | h
  · exact absurd e hp
  · exact h
theorem last_getD (xs : List Int) : xs.getD (xs.length - 1) 0 = xs.getLastD 0 := by
  rw [List.getLastD_eq_getLast?, List.getLast?_eq_getElem?, List.getD_eq_getElem?_getD]

/-- A cut at the end. -/
theorem lv_dropLast {w : World} {g off cap : Nat} {cur : List Value} {xs : List Int} (h1 : xs.length ≤ cap) (hb : Blk w g cur 3) (h2 : off + cap ≤ cur.length) (h3 : ∀ j, j < xs.length → cur[off + j]? = some (.int .i64 (xs.getD j 0))) : Lv w (.slice (some ⟨g, off, none⟩) (xs.length - 1) cap) xs.dropLast := by
  refine Or.inr ⟨g, off, cap, cur, by simp, by simp; omega, hb, h2, fun j hj => ?_⟩
  simp at hj
  rw [h3 j (by omega)]
  rw [List.getD_eq_getElem?_getD, List.getD_eq_getElem?_getD, List.dropLast_eq_take, List.getElem?_take, if_pos (by omega)]

set_option maxHeartbeats 4000000 in
theorem salloc_any {b pb lb n m : Nat} {A : List Nat} {V : List Value} {K : List (List Int)} (c : Int) (w : World) (h : SH w b pb lb n m A V K) (kl : ∀ i, (ks K i).length ≤ 4) :
    Calls Try.prog 34 #[.pointer (some ⟨b, 0, none⟩), .int .i64 c] w fun e w' => e = .returned (.tuple #[.int .i64 (alN m n A K c), .int .i64 (alE m n A K c)]) ∧ SC w w' b pb lb n m V (alA m n A K c) (alK m n A K c) := by
  have C : Hid (∀ _ : Unit, _) := fun _ => isCore_any c w h
  have HS : Hid (SC w w b pb lb n m V A K) := SC.refl h
  cases i : isc n c with
  | false =>
    rw [i] at C
    rw [show alN m n A K c = 0 by unfold alN; rw [i]; rfl, show alE m n A K c = 3 by unfold alE; rw [i]; rfl, show alA m n A K c = A by unfold alA; rw [i]; rfl, show alK m n A K c = K by unfold alK; rw [i]; rfl]
    clear h i kl
    go_enter Try.func34, Try.ntmps34
    go_wp2_with fail
    refine (C.out ()).mono ?_
    rintro e w' ⟨rfl, rfl⟩
    go_wp2
    go_ret2
    exact ⟨rfl, HS.out⟩
  | true =>
    rw [i] at C
    have hi := isc_true i
    obtain ⟨c, rfl⟩ := Int.eq_ofNat_of_zero_le hi.1
    have hc : (c : Int) < n := hi.2
    have hK : c < K.length := by rw [h.st.kn]; omega
    obtain ⟨s1, hs1⟩ : ∃ s1, al m A (ks K c) = s1 := ⟨_, rfl⟩
    rw [show alN m n A K (c : Int) = s1.2.getLastD 0 by unfold alN; rw [i, ← hs1]; rfl, show alE m n A K (c : Int) = if s1.2 = [] then 5 else 0 by unfold alE; rw [i, ← hs1]; rfl, show alA m n A K (c : Int) = s1.1 by unfold alA; rw [i, ← hs1]; rfl, show alK m n A K (c : Int) = K.set c s1.2.dropLast by unfold alK; rw [i, ← hs1]; rfl]
    obtain ⟨N, hN⟩ : ∃ N, s1.2.getLastD 0 = N := ⟨_, rfl⟩
    obtain ⟨E, hE⟩ : ∃ E : Int, (if s1.2 = [] then 5 else 0) = E := ⟨_, rfl⟩
    have HNE : Hid (s1.2.getLastD 0 = N ∧ (if s1.2 = [] then 5 else 0) = E) := ⟨hN, hE⟩
    rw [hN, hE]
    have c1 := h.st.c1
    have cv := h.st.cv (i := c) (by omega)
    obtain ⟨a, cap, hv⟩ := (h.st.lv (i := c) (by omega)).shape
    rw [hv] at cv
    change w.cell? ⟨lb, c, none⟩ = some (.slice a (ks K c).length cap) at cv
    have FE : Hid (∀ _ : Unit, _) := fun _ => fetch_any c w h hc (kl c)
    have CUT : Hid ((ks K c = [] → fk m (A, ks K c) 2 = s1) ∧ (ks K c ≠ [] → (A, ks K c) = s1)) := by
      unfold al at hs1
      exact ⟨fun e => by rw [if_pos e] at hs1; exact hs1, fun e => by rw [if_neg e] at hs1; exact hs1⟩
    have HK : Hid (c < K.length ∧ K.set c (ks K c) = K) := ⟨hK, set_same K c hK⟩
    have L4 : Hid (s1.2.length ≤ 6) := by
      rw [← hs1]
      unfold al
      have h1 := f1_len (m := m) (s := f1 m (A, ks K c))
      have h2 := f1_len (m := m) (s := (A, ks K c))
      have h3 := kl c
      split
      · show (f1 m (f1 m (A, ks K c))).2.length ≤ 6
        simp at h2
        omega
      · show (ks K c).length ≤ 6
        omega
    clear h i hi hK hs1 hN hE hv
    go_enter Try.func34, Try.ntmps34
    go_wp2_with fail
    refine (C.out ()).mono ?_
    rintro e w' ⟨rfl, rfl⟩
    go_upto_if 22 with (fail)
    go_cut [1] (fun cc wx => cc = .int .i64 (c : Int) ∧ SC w' wx b pb lb n m V s1.1 (K.set c s1.2))
    case first =>
      by_cases e : ks K c = []
      · rw [CUT.out.1 e] at FE
        have z0 : ((((ks K c).length : Nat) : Int) == 0) = true := by rw [e]; rfl
        clear e kl
        go_wp2_with fail
        refine (FE.out ()).mono ?_
        rintro e u1 ⟨rfl, h1⟩
        go_wp2
        go_meet
        case rel => exact ⟨rfl, h1⟩
      · have e1 := CUT.out.2 e
        have z0 : ((((ks K c).length : Nat) : Int) == 0) = false := by
          have := List.length_pos_iff.2 e
          simp
          omega
        have H1 : Hid (SC w' w' b pb lb n m V s1.1 (K.set c s1.2)) := by rw [← e1]; show SC _ _ _ _ _ _ _ _ A (K.set c (ks K c)); rw [HK.out.2]; exact HS.out
        clear e e1 FE kl
        generalize (ks K c).length = q at *
        go_wp2
        go_meet
        case rel => exact ⟨rfl, H1.out⟩
    case rest =>
      obtain ⟨rfl, sc⟩ := hcut
      clear FE CUT cv
      obtain ⟨V1, h1, hV1⟩ := sc.ex
      have F1 : Hid (Fr w'.heap.size (lb :: pb :: bl V) w' wc ∧ ∀ g ∈ bl V1, g ∈ bl V ∨ w'.heap.size ≤ g) := ⟨sc.fr, hV1⟩
      have d1 := h1.st.c1
      have dv := h1.st.cv (i := c) (by omega)
      have df : wc.frozen? ⟨lb, c, none⟩ = false := h1.st.sl.free c
      have lv := h1.st.lv (i := c) (by omega)
      rw [ks_self K c s1.2 HK.out.1] at lv
      by_cases e : s1.2 = []
      · obtain ⟨r1, r2⟩ := HNE.out
        rw [e] at r1
        rw [if_pos e] at r2
        have r1 : (0 : Int) = N := r1
        subst r1
        subst r2
        have SCF : Hid (SC w' wc b pb lb n m V s1.1 (K.set c s1.2.dropLast)) := by rw [e] at sc ⊢; exact sc
        obtain ⟨a, cap, hv⟩ := lv.shape
        rw [e] at hv
        simp only [List.length_nil] at hv
        rw [hv] at dv
        clear sc h1 lv hv e
        go_wp2
        go_ret2
        exact ⟨rfl, SCF.out⟩
      · obtain ⟨g, off, cap, cur, hv, hcap, hb, hfit, hcell⟩ := lv_pos lv e
        obtain ⟨r1, r2⟩ := HNE.out
        rw [if_neg e] at r2
        subst r2
        have hp := List.length_pos_iff.2 e
        have ce := hcell (s1.2.length - 1) (by omega)
        rw [last_getD s1.2, r1] at ce
        have cg : wc.cell? ⟨g, off + (s1.2.length - 1), none⟩ = some (.int .i64 N) := by rw [hb.cell]; exact ce
        have ls := h1.st.ls.cut (c := c) (by simp; exact HK.out.1) hv (Nat.le_refl off) (Nat.le_refl _) (lv_dropLast hcap hb hfit hcell)
        have bg : ∀ q ∈ [g], q ∈ bl V1 := fun q hq => by
          simp at hq
          subst hq
          exact bl_get (i := c) (by rw [hv]; simp [vb])
        have FN := (h1.set (c := c) (by omega) (Fr.refl wc.heap.size [] wc) (by simp) ls (fun q hq => Or.inl (bg q (by simpa [vb] using hq)))).2
        rw [hv] at dv
        obtain ⟨q, hq⟩ : ∃ q, s1.2.length - 1 = q := ⟨_, rfl⟩
        have hq1 : s1.2.length = q + 1 := by omega
        rw [hq] at cg FN
        rw [hq1] at dv hcap
        have FF : Hid (∀ w3 : World, Sm w3 wc → SC w' (w3.setCell ⟨lb, c, none⟩ (.slice (some ⟨g, off, none⟩) q cap)) b pb lb n m V s1.1 (K.set c s1.2.dropLast)) := fun w3 e3 => SC.trans F1.out.1 F1.out.2 (by
          have := FN w3 e3
          rw [List.set_set] at this
          exact this)
        have hqc : (q : Int) + 1 ≤ cap := by omega
        have hq6 : (q : Int) ≤ 6 := by have := L4.out; omega
        have n1 : ¬ (b = lb) := h1.st.sb.ne h1.st.sl (by decide)
        have n2 : ¬ (lb = b) := fun q => n1 q.symm
        clear sc h1 lv hv e hcell hfit hb ls bg FN hV1 hcap hp ce r1 HNE hq hq1
        go_wp2_with fail
        go_region
        all_goals go_wp2
        all_goals go_ret2
        all_goals first
          | exact ⟨rfl, (FF.out wc ⟨rfl, rfl, rfl, rfl⟩).sm ⟨rfl, rfl, rfl, rfl⟩⟩
          | exact ⟨rfl, FF.out _ ⟨rfl, rfl, rfl, rfl⟩⟩

set_option maxHeartbeats 4000000 in
theorem sgive_any {b pb lb n m : Nat} {A : List Nat} {V : List Value} {K : List (List Int)} (c x : Int) (w : World) (h : SH w b pb lb n m A V K) (kl : ∀ i, (ks K i).length ≤ 4) :
    Calls Try.prog 35 #[.pointer (some ⟨b, 0, none⟩), .int .i64 c, .int .i64 x] w fun e w' => e = .returned (.int .i64 (giE m n A K c x)) ∧ SC w w' b pb lb n m V (giA m n A K c x) (giK m n A K c x) := by
  have C : Hid (∀ _ : Unit, _) := fun _ => isCore_any c w h
  have HS : Hid (SC w w b pb lb n m V A K) := SC.refl h
  cases i : isc n c with
  | false =>
    rw [i] at C
    rw [show giE m n A K c x = 3 by unfold giE; rw [i]; rfl, show giA m n A K c x = A by unfold giA; rw [i]; rfl, show giK m n A K c x = K by unfold giK; rw [i]; rfl]
    clear h i kl
    go_enter Try.func35, Try.ntmps35
    go_wp2_with fail
    refine (C.out ()).mono ?_
    rintro e w' ⟨rfl, rfl⟩
    go_wp2
    go_ret
    exact ⟨rfl, HS.out⟩
  | true =>
    rw [i] at C
    have D : Hid (∀ _ : Unit, _) := fun _ => shas_any x w h kl
    cases j : hs m A K x with
    | false =>
      rw [j] at D
      rw [show giE m n A K c x = 4 by unfold giE; rw [i, j]; rfl, show giA m n A K c x = A by unfold giA; rw [i, j]; rfl, show giK m n A K c x = K by unfold giK; rw [i, j]; rfl]
      clear h i kl j
      go_enter Try.func35, Try.ntmps35
      go_wp2_with fail
      refine (C.out ()).mono ?_
      rintro e w' ⟨rfl, rfl⟩
      go_wp2_with fail
      refine (D.out ()).mono ?_
      rintro e u1 ⟨rfl, k, rfl⟩
      go_wp2
      go_ret
      exact ⟨rfl, HS.out.sm ⟨rfl, rfl, rfl, rfl⟩⟩
    | true =>
      rw [j] at D
      have hi := isc_true i
      obtain ⟨c, rfl⟩ := Int.eq_ofNat_of_zero_le hi.1
      have hc : (c : Int) < n := hi.2
      have hK : c < K.length := by rw [h.st.kn]; omega
      obtain ⟨s1, hs1⟩ : ∃ s1, gs m A (ks K c) = s1 := ⟨_, rfl⟩
      rw [show giE m n A K (c : Int) x = 0 by unfold giE; rw [i, j]; rfl, show giA m n A K (c : Int) x = s1.1 by unfold giA; rw [i, j, ← hs1]; rfl, show giK m n A K (c : Int) x = K.set c (s1.2 ++ [x]) by unfold giK; rw [i, j, ← hs1]; rfl]
      have c1 := h.st.c1
      have cv := h.st.cv (i := c) (by omega)
      obtain ⟨a, cap, hv⟩ := (h.st.lv (i := c) (by omega)).shape
      rw [hv] at cv
      change w.cell? ⟨lb, c, none⟩ = some (.slice a (ks K c).length cap) at cv
      have PB : Hid (∀ k : Nat, 2 ≤ (ks K c).length → _) := fun k h2 => putBack_any c 2 (w.drewN k) (h.heap rfl) hc (kl c) h2
      have CUT : Hid (((ks K c).length = 4 → gvs m A ((ks K c).take 2) = s1.1 ∧ (ks K c).drop 2 = s1.2) ∧ ((ks K c).length ≠ 4 → A = s1.1 ∧ ks K c = s1.2)) := by
        unfold gs at hs1
        exact ⟨fun e => by rw [if_pos e] at hs1; rw [← hs1]; exact ⟨rfl, rfl⟩, fun e => by rw [if_neg e] at hs1; rw [← hs1]; exact ⟨rfl, rfl⟩⟩
      have HK : Hid (c < K.length ∧ K.set c (ks K c) = K) := ⟨hK, set_same K c hK⟩
      have L4 : Hid (s1.2.length ≤ 6) := by
        rw [← hs1]
        unfold gs
        have h3 := kl c
        split
        · show ((ks K c).drop 2).length ≤ 6
          simp
          omega
        · show (ks K c).length ≤ 6
          omega
      have k4 : ((ks K c).length : Int) ≤ 4 := by have := kl c; omega
      clear h i j hi hK hs1 hv kl
      go_enter Try.func35, Try.ntmps35
      go_wp2_with fail
      refine (C.out ()).mono ?_
      rintro e w' ⟨rfl, rfl⟩
      go_wp2_with fail
      refine (D.out ()).mono ?_
      rintro e u1 ⟨rfl, k, rfl⟩
      go_upto_if 25 with (fail)
      go_cut [1, 2] (fun cc xx wx => cc = .int .i64 (c : Int) ∧ xx = .int .i64 x ∧ SC w' wx b pb lb n m V s1.1 (K.set c s1.2))
      case first =>
        by_cases e : (ks K c).length = 4
        · have P2 : Hid (∀ _ : Unit, _) := fun _ => PB.out k (by omega)
          rw [(CUT.out.1 e).1, (CUT.out.1 e).2] at P2
          have z0 : ((((ks K c).length : Nat) : Int) == 4) = true := by rw [e]; rfl
          clear e k4
          go_wp2_with fail
          refine (P2.out ()).mono ?_
          rintro e u1 ⟨rfl, h1⟩
          have h2 := SC.from (w := w') (w1 := w'.drewN k) ⟨rfl, rfl, rfl, rfl⟩ h1
          clear h1
          go_wp2
          go_meet
          case rel => exact ⟨rfl, rfl, h2⟩
        · have z0 : ((((ks K c).length : Nat) : Int) == 4) = false := by simp; omega
          have H1 : Hid (SC w' w' b pb lb n m V s1.1 (K.set c s1.2)) := by rw [← (CUT.out.2 e).1, ← (CUT.out.2 e).2, HK.out.2]; exact HS.out
          clear e PB CUT
          generalize (ks K c).length = q at *
          go_wp2
          go_meet
          case rel => exact ⟨rfl, rfl, H1.out.sm ⟨rfl, rfl, rfl, rfl⟩⟩
      case rest =>
        obtain ⟨rfl, rfl, sc⟩ := hcut
        clear PB CUT cv k4
        obtain ⟨V1, h1, hV1⟩ := sc.ex
        have F1 : Hid (Fr w'.heap.size (lb :: pb :: bl V) w' wc ∧ ∀ g ∈ bl V1, g ∈ bl V ∨ w'.heap.size ≤ g) := ⟨sc.fr, hV1⟩
        have d1 := h1.st.c1
        have dv := h1.st.cv (i := c) (by omega)
        have df : wc.frozen? ⟨lb, c, none⟩ = false := h1.st.sl.free c
        have LV := h1.beside (c := c) (by omega)
        rw [ks_self K c s1.2 HK.out.1] at LV
        have LV : Hid (∀ (o : Obj) (wA : World), Sm wA (wc.alloc o) → Lv wA (V1.getD c nv) s1.2) := LV
        have FIN := h1.append (c := c) (y := x) (by omega)
        rw [ks_self K c s1.2 HK.out.1, List.set_set] at FIN
        have FF : Hid (∀ (o : Obj) (wA : World) (v2 : Value) (w2 : World), App wA (V1.getD c nv) s1.2 x v2 w2 → Sm wA (wc.alloc o) → (w2.cell? ⟨b, 1, none⟩ = some (.slice (some ⟨lb, 0, none⟩) n n) ∧ w2.cell? ⟨lb, c, none⟩ = some (V1.getD c nv) ∧ w2.frozen? ⟨lb, c, none⟩ = false) ∧ ∀ w3 : World, Sm w3 w2 → SC w' (w3.setCell ⟨lb, c, none⟩ v2) b pb lb n m V s1.1 (K.set c (s1.2 ++ [x]))) := fun o wA v2 w2 hA e => by
          obtain ⟨g1, g2⟩ := FIN o wA e v2 w2 hA
          exact ⟨g1, fun w3 e3 => SC.trans F1.out.1 F1.out.2 (g2 w3 e3)⟩
        have n1 : ¬ (b = lb) := h1.st.sb.ne h1.st.sl (by decide)
        have n2 : ¬ (lb = b) := fun q => n1 q.symm
        have z1 : (wc.alloc (.cells #[.int .i64 x] 3)).cell? ⟨b, 1, none⟩ = some (.slice (some ⟨lb, 0, none⟩) n n) := (h1.st.sb.alloc _).cell 1
        have z2 : (wc.alloc (.cells #[.int .i64 x] 3)).cell? ⟨lb, c, none⟩ = some (V1.getD c nv) := ((h1.st.sl.alloc _).cell c).trans ((h1.st.sl.cell c).symm.trans (h1.st.cv (by omega)))
        generalize V1.getD c nv = v1 at *
        clear FIN sc h1 hV1
        go_wp2_with fail
        go_region_law
          (first | (refine step_app (v := v1) rfl (.tmp 40) (.tmp 42) rfl x rfl (LV.out _ _ ⟨rfl, rfl, rfl, rfl⟩) (by have := L4.out; omega) _ _ rfl (((Blk.new wc [_] _).heap rfl).cell 0) ?_; intro v2 w2 hA; obtain ⟨x2, q2, rfl⟩ := app_shape hA; obtain ⟨⟨a1, a2, a3⟩, a4⟩ := FF.out _ _ _ _ hA ⟨rfl, rfl, rfl, rfl⟩; have HA : Hid (∀ w3 : World, Sm w3 w2 → SC w' (w3.setCell ⟨lb, c, none⟩ (.slice x2 (s1.2.length + 1) q2)) b pb lb n m V s1.1 (K.set c (s1.2 ++ [x]))) := a4; clear hA a4))
        all_goals go_wp2
        all_goals go_ret
        all_goals exact ⟨rfl, HA.out _ ⟨rfl, rfl, rfl, rfl⟩⟩

theorem sdrain_any {b pb lb n m : Nat} {A : List Nat} {V : List Value} {K : List (List Int)} (c : Int) (w : World) (h : SH w b pb lb n m A V K) (kl : ∀ i, (ks K i).length ≤ 4) :
    Calls Try.prog 36 #[.pointer (some ⟨b, 0, none⟩), .int .i64 c] w fun e w' => e = .returned (.tuple #[.int .i64 (drN n K c), .int .i64 (drE n c)]) ∧ SC w w' b pb lb n m V (drA m n A K c) (drK n K c) := by
  have C : Hid (∀ _ : Unit, _) := fun _ => isCore_any c w h
  have HS : Hid (SC w w b pb lb n m V A K) := SC.refl h
  cases i : isc n c with
  | false =>
    rw [i] at C
    rw [show drN n K c = 0 by unfold drN; rw [i]; rfl, show drE n c = 3 by unfold drE; rw [i]; rfl, show drA m n A K c = A by unfold drA; rw [i]; rfl, show drK n K c = K by unfold drK; rw [i]; rfl]
    clear h i kl
    go_enter Try.func36, Try.ntmps36
    go_wp2_with fail
    refine (C.out ()).mono ?_
    rintro e w' ⟨rfl, rfl⟩
    go_wp2
    go_ret2
    exact ⟨rfl, HS.out⟩
  | true =>
    rw [i] at C
    have hi := isc_true i
    obtain ⟨c, rfl⟩ := Int.eq_ofNat_of_zero_le hi.1
    have hc : (c : Int) < n := hi.2
    rw [show drN n K (c : Int) = ((ks K c).length : Int) by unfold drN; rw [i]; rfl, show drE n (c : Int) = 0 by unfold drE; rw [i]; rfl, show drA m n A K (c : Int) = gvs m A (ks K c) by unfold drA; rw [i]; rfl, show drK n K (c : Int) = K.set c [] by unfold drK; rw [i]; rfl]
    have c1 := h.st.c1
    have cv := h.st.cv (i := c) (by omega)
    obtain ⟨a, cap, hv⟩ := (h.st.lv (i := c) (by omega)).shape
    rw [hv] at cv
    change w.cell? ⟨lb, c, none⟩ = some (.slice a (ks K c).length cap) at cv
    have PB : Hid (∀ _ : Unit, _) := fun _ => putBack_any c (ks K c).length w h hc (kl c) (Nat.le_refl _)
    rw [List.take_length, List.drop_length] at PB
    clear h i hi hv kl
    generalize (ks K c).length = q at *
    go_enter Try.func36, Try.ntmps36
    go_wp2_with fail
    refine (C.out ()).mono ?_
    rintro e w' ⟨rfl, rfl⟩
    go_wp2_with fail
    refine (PB.out ()).mono ?_
    rintro e w' ⟨rfl, h1⟩
    go_wp2
    go_ret2
    exact ⟨rfl, h1⟩
end Go.Proofs.Ytibajjidigmkhaa
