/- What the document's Back, Take and Move of queues of cores answer and leave. -/
import Derived.Test.YtpmjojemcpgpiaaDoorVb
import Derived.Test.YtpmjojemcpgpiaaDoorUc
import Derived.Test.YtpmjojemcpgpiaaDoorUk
import Derived.WalkKit
import Derived.ProofKit
import Derived.OpenShut
import Derived.BigQuiet
namespace Go.Proofs.YtpmjojemcpgpiaaDoor
open Go.ChangeShapes Go.WideShapes Go.ChangeAt Go.RowKit
open Fm Qm

set_option maxRecDepth 100000 in
set_option maxHeartbeats 1000000 in
theorem xback_any {w : World} {lo b g cap n : Nat} {A : Nat → Nat} {V : Nat → Value} {K : Ks} (id : Int) (h : RX w lo b g cap n A V K) :
    Calls Tryd.prog 29 #[.pointer (some ⟨b, 0, none⟩), .int .i64 id] w fun e w' => e = .returned (.int .i64 (rbE n K id)) ∧ ∃ V', RX w' lo b g cap n A V' (rbK n K id) ∧ XC lo w w' := by
  have C : Hid (∀ _ : Unit, _) := fun _ => xwhere_any id h
  have H0 : Hid (RX w lo b g cap n A V K) := h
  cases e : onc n K id with
  | none =>
    have eB : whB n K id = false := by unfold whB; rw [e]; rfl
    rw [show whN n K id = 0 by unfold whN; rw [e]; rfl, eB] at C
    rw [show rbE n K id = 4 by unfold rbE; rw [eB]; rfl, show rbK n K id = K by unfold rbK; rw [e]]
    clear h e eB
    go_enter Tryd.func29, Tryd.ntmps29
    go_wp2_with fail
    refine (C.out ()).mono ?_
    rintro e w' ⟨rfl, rfl⟩
    go_wp2
    go_ret
    exact ⟨rfl, V, H0.out, XC.refl _ _⟩
  | some k =>
    obtain ⟨hk, hi⟩ := onc_spec e
    have eB : whB n K id = true := by unfold whB; rw [e]; rfl
    rw [show whN n K id = k by unfold whN; rw [e]; rfl, eB] at C
    rw [show rbE n K id = 0 by unfold rbE; rw [eB]; rfl, show rbK n K id = up K k (bkX (K k) id) by unfold rbK; rw [e]]
    have D : Hid (∀ _ : Unit, _) := fun _ => rpback_any id w (h.qs k hk)
    rw [show drE (K k) id = 0 from if_pos hi] at D
    obtain ⟨al, on⟩ := al_same h.al hk (ok_bkX (h.al.ok k hk) id) (fun j => ids_bk (h.al.ok k hk) id j)
    have ST : Hid (∀ (w2 : World) (v' : Value), RQ w2 (A k) v' 32 (bkX (K k) id) → RC w w2 (A k) (V k) v' → _) := fun w2 v' q2 f2 => h.put hk q2 f2 al
    have c0 := h.c0
    have cq := h.cq hk
    have hk2 : (k : Int) < n := by omega
    have hn : (n : Int) ≤ cap := by have := h.nc; omega
    generalize bkX (K k) id = X2 at *
    clear h e hi eB al on
    go_enter Tryd.func29, Tryd.ntmps29
    go_wp2_with fail
    refine (C.out ()).mono ?_
    rintro e w' ⟨rfl, rfl⟩
    go_wp2_with fail
    refine (D.out ()).mono ?_
    rintro e w2 ⟨rfl, v2, q2, f2⟩
    have R2 := ST.out w2 v2 q2 f2
    clear q2 f2
    go_wp2
    go_ret
    exact ⟨rfl, _, R2.1, R2.2⟩

set_option maxRecDepth 100000 in
set_option maxHeartbeats 1000000 in
theorem xtake_any {w : World} {lo b g cap n : Nat} {A : Nat → Nat} {V : Nat → Value} {K : Ks} (id : Int) (h : RX w lo b g cap n A V K) :
    Calls Tryd.prog 31 #[.pointer (some ⟨b, 0, none⟩), .int .i64 id] w fun e w' => e = .returned (.int .i64 (rbE n K id)) ∧ ∃ V', RX w' lo b g cap n A V' (rtK n K id) ∧ XC lo w w' := by
  have C : Hid (∀ _ : Unit, _) := fun _ => xwhere_any id h
  have H0 : Hid (RX w lo b g cap n A V K) := h
  cases e : onc n K id with
  | none =>
    have eB : whB n K id = false := by unfold whB; rw [e]; rfl
    rw [show whN n K id = 0 by unfold whN; rw [e]; rfl, eB] at C
    rw [show rbE n K id = 4 by unfold rbE; rw [eB]; rfl, show rtK n K id = K by unfold rtK; rw [e]]
    clear h e eB
    go_enter Tryd.func31, Tryd.ntmps31
    go_wp2_with fail
    refine (C.out ()).mono ?_
    rintro e w' ⟨rfl, rfl⟩
    go_wp2
    go_ret
    exact ⟨rfl, V, H0.out, XC.refl _ _⟩
  | some k =>
    obtain ⟨hk, hi⟩ := onc_spec e
    have eB : whB n K id = true := by unfold whB; rw [e]; rfl
    rw [show whN n K id = k by unfold whN; rw [e]; rfl, eB] at C
    rw [show rbE n K id = 0 by unfold rbE; rw [eB]; rfl, show rtK n K id = up K k (del (K k) id) by unfold rtK; rw [e]]
    have D : Hid (∀ _ : Unit, _) := fun _ => rpdrop_any id w (h.qs k hk)
    rw [show drE (K k) id = 0 from if_pos hi] at D
    obtain ⟨al, on⟩ := al_del h.al hk hi
    have ST : Hid (∀ (w2 : World) (v' : Value), RQ w2 (A k) v' 32 (del (K k) id) → RC w w2 (A k) (V k) v' → _) := fun w2 v' q2 f2 => h.put hk q2 f2 al
    have c0 := h.c0
    have cq := h.cq hk
    have hk2 : (k : Int) < n := by omega
    have hn : (n : Int) ≤ cap := by have := h.nc; omega
    generalize del (K k) id = X2 at *
    clear h e hi eB al on
    go_enter Tryd.func31, Tryd.ntmps31
    go_wp2_with fail
    refine (C.out ()).mono ?_
    rintro e w' ⟨rfl, rfl⟩
    go_wp2_with fail
    refine (D.out ()).mono ?_
    rintro e w2 ⟨rfl, v2, q2, f2⟩
    have R2 := ST.out w2 v2 q2 f2
    clear q2 f2
    go_wp2
    go_ret
    exact ⟨rfl, _, R2.1, R2.2⟩

set_option maxRecDepth 100000 in
set_option maxHeartbeats 4000000 in
theorem xmove_any {w : World} {lo tt g cap n : Nat} {A : Nat → Nat} {V : Nat → Value} {K : Ks} (a b : Int) (h : RX w lo tt g cap n A V K) :
    Calls Tryd.prog 32 #[.pointer (some ⟨tt, 0, none⟩), .int .i64 a, .int .i64 b] w fun e w' => e = .returned (.tuple #[.int .i64 (mvN n K a b), .int .i64 (mvE n K a b)]) ∧ ∃ V', RX w' lo tt g cap n A V' (mvK n K a b) ∧ XC lo w w' := by
  have H0 : Hid (RX w lo tt g cap n A V K) := h
  by_cases ha : isC n a
  case neg =>
    have e : mvE n K a b = 3 := if_neg (fun q => ha q.1)
    rw [show mvN n K a b = 0 by unfold mvN; rw [e]; rfl, show mvK n K a b = K by unfold mvK; rw [e]; rfl, e]
    have C : Hid (∀ _ : Unit, _) := fun _ => xis_no a ha h
    clear h ha e
    go_enter Tryd.func32, Tryd.ntmps32
    go_wp2_with fail
    refine (C.out ()).mono ?_
    rintro e w' ⟨rfl, rfl⟩
    go_wp2
    go_ret2
    exact ⟨rfl, V, H0.out, XC.refl _ _⟩
  obtain ⟨i, rfl⟩ : ∃ i : Nat, a = (i : Int) := ⟨a.toNat, by unfold isC at ha; omega⟩
  have hi : (i : Int) < n := ha.2
  have CA : Hid (∀ _ : Unit, _) := fun _ => xis_yes i hi h
  by_cases hb : isC n b
  case neg =>
    have e : mvE n K i b = 3 := if_neg (fun q => hb q.2)
    rw [show mvN n K i b = 0 by unfold mvN; rw [e]; rfl, show mvK n K i b = K by unfold mvK; rw [e]; rfl, e]
    have C : Hid (∀ _ : Unit, _) := fun _ => xis_no b hb h
    clear h ha hb e
    go_enter Tryd.func32, Tryd.ntmps32
    go_wp2_with fail
    refine (CA.out ()).mono ?_
    rintro e w' ⟨rfl, rfl⟩
    go_wp2_with fail
    refine (C.out ()).mono ?_
    rintro e w' ⟨rfl, rfl⟩
    go_wp2
    go_ret2
    exact ⟨rfl, V, H0.out, XC.refl _ _⟩
  obtain ⟨j, rfl⟩ : ∃ j : Nat, b = (j : Int) := ⟨b.toNat, by unfold isC at hb; omega⟩
  have hj : (j : Int) < n := hb.2
  have CB : Hid (∀ _ : Unit, _) := fun _ => xis_yes j hj h
  by_cases hij : i = j
  · subst hij
    have e : mvE n K i i = 2 := by unfold mvE; rw [if_pos ⟨ha, hb⟩, if_pos rfl]
    rw [show mvN n K i i = 0 by unfold mvN; rw [e]; rfl, show mvK n K i i = K by unfold mvK; rw [e]; rfl, e]
    clear h ha hb e
    go_enter Tryd.func32, Tryd.ntmps32
    go_wp2_with fail
    refine (CA.out ()).mono ?_
    rintro e w' ⟨rfl, rfl⟩
    go_wp2_with fail
    refine (CB.out ()).mono ?_
    rintro e w' ⟨rfl, rfl⟩
    go_wp2
    go_ret2
    exact ⟨rfl, V, H0.out, XC.refl _ _⟩
  have hne : ((i : Int) == (j : Int)) = false := by simp; omega
  have hnI : ¬ (i : Int) = (j : Int) := by omega
  have L : Hid (∀ _ : Unit, _) := fun _ => xlist_any (i : Int) h
  rw [show liL n K (i : Int) = cat (K i) by unfold liL; rw [if_pos ha, Int.toNat_natCast]] at L
  by_cases hX : K i = []
  · have e : mvE n K i j = 12 := by unfold mvE; rw [if_pos ⟨ha, hb⟩, if_neg hnI, Int.toNat_natCast, if_pos hX]
    rw [show mvN n K i j = 0 by unfold mvN; rw [e]; rfl, show mvK n K i j = K by unfold mvK; rw [e]; rfl, e]
    rw [show cat (K i) = [] by rw [hX]; rfl] at L
    clear h ha hb e hX hij
    go_enter Tryd.func32, Tryd.ntmps32
    go_wp2_with fail
    refine (CA.out ()).mono ?_
    rintro e w' ⟨rfl, rfl⟩
    go_wp2_with fail
    refine (CB.out ()).mono ?_
    rintro e w' ⟨rfl, rfl⟩
    go_wp2_with fail
    refine (L.out ()).mono ?_
    rintro e w2 ⟨v, rfl, g2⟩
    obtain ⟨a2, c2, rfl⟩ := own_shape g2.own
    have b2 : Hid (Below w'.heap.size w' w2) := g2.bel
    clear g2
    go_wp2
    go_ret2
    exact ⟨rfl, V, H0.out.below b2.out, XC.of b2.out H0.out.hi⟩
  obtain ⟨lin, lpos⟩ := lst_in (h.al.ok i (by omega)) hX
  have e0 : mvE n K i j = psE 32 (K j) (prP (K i) (lst (K i))) (lst (K i)) := by unfold mvE; rw [if_pos ⟨ha, hb⟩, if_neg hnI, Int.toNat_natCast, if_neg hX, Int.toNat_natCast]
  have LC : (cat (K i)).length ≤ 32 := by rw [len_cat (h.al.ok i (by omega)).rg]; exact (h.al.ok i (by omega)).le
  have P : Hid (∀ w3 : World, Below w.heap.size w w3 → w3.cell? ⟨tt, 0, none⟩ = some (.slice (some ⟨g, 0, none⟩) n cap) ∧ w3.cell? ⟨g, i, none⟩ = some (.pointer (some ⟨A i, 0, none⟩)) ∧ w3.cell? ⟨g, j, none⟩ = some (.pointer (some ⟨A j, 0, none⟩)) ∧ RX w3 lo tt g cap n A V K ∧ XC lo w w3) := fun w3 b3 => ⟨(h.below b3).c0, (h.below b3).cq (by omega), (h.below b3).cq (by omega), h.below b3, XC.of b3 h.hi⟩
  have PR : Hid (∀ w3 : World, RX w3 lo tt g cap n A V K → _) := fun w3 h3 => rprio_any (lst (K i)) w3 (h3.qs i (by omega))
  rw [decide_eq_true lin] at PR
  have PU : Hid (∀ w3 : World, RX w3 lo tt g cap n A V K → _) := fun w3 h3 => rppush_any (prP (K i) (lst (K i))) (lst (K i)) w3 (h3.qs j (by omega))
  have CT : Hid ((cat (K i)).getD ((cat (K i)).length - 1) 0 = lst (K i)) := rfl
  rw [show mvN n K i j = if psE 32 (K j) (prP (K i) (lst (K i))) (lst (K i)) = 0 then lst (K i) else 0 by unfold mvN; rw [e0, Int.toNat_natCast], show mvK n K i j = if psE 32 (K j) (prP (K i) (lst (K i))) (lst (K i)) = 0 then up (up K j (K j ++ [(prP (K i) (lst (K i)), lst (K i))])) i (del (K i) (lst (K i))) else K by unfold mvK; rw [e0, Int.toNat_natCast, Int.toNat_natCast], e0]
  obtain ⟨l, hl⟩ : ∃ l, (cat (K i)).length = l + 1 := ⟨(cat (K i)).length - 1, by omega⟩
  have HL : Hid ((cat (K i)).length = l + 1) := hl
  have hl2 : (l : Int) ≤ 31 := by omega
  have hn : (n : Int) ≤ cap := by have := h.nc; omega
  rcases ps_cases 32 (K j) (prP (K i) (lst (K i))) (lst (K i)) with ⟨e1, e2, e3, e4, e5, e6⟩ | ⟨e1, e2⟩
  · obtain ⟨al, on⟩ := al_move h.al (c := i) (d := j) (by omega) (by omega) hij (p := prP (K i) (lst (K i))) lin (ok_push (h.al.ok j (by omega)) ⟨e4, e5⟩ e3 e6)
    rw [e1, e2] at PU
    rw [e1, if_pos rfl, if_pos rfl]
    have ST : Hid (∀ (w3 w4 : World) (v4 : Value), RX w3 lo tt g cap n A V K → RQ w4 (A j) v4 32 (K j ++ [(prP (K i) (lst (K i)), lst (K i))]) → RC w3 w4 (A j) (V j) v4 → w4.cell? ⟨tt, 0, none⟩ = some (.slice (some ⟨g, 0, none⟩) n cap) ∧ w4.cell? ⟨g, i, none⟩ = some (.pointer (some ⟨A i, 0, none⟩)) ∧ Calls Tryd.prog 54 #[.pointer (some ⟨A i, 0, none⟩), .int .i64 (lst (K i))] w4 fun e w6 => e = .returned (.int .i64 0) ∧ ∃ V', RX w6 lo tt g cap n A V' (up (up K j (K j ++ [(prP (K i) (lst (K i)), lst (K i))])) i (del (K i) (lst (K i)))) ∧ XC lo w3 w6) := fun w3 w4 v4 h3 q4 f4 => by
      obtain ⟨y4, x4⟩ := h3.toRY.put (by omega) q4 f4
      refine ⟨y4.c0, y4.cq (by omega), ?_⟩
      have q5 := y4.qs i (by omega)
      rw [up_other _ hij] at q5
      have := rpdrop_any (lst (K i)) w4 q5
      rw [show drE (K i) (lst (K i)) = 0 from if_pos lin] at this
      refine this.mono ?_
      rintro e w6 ⟨rfl, v6, q6, f6⟩
      obtain ⟨y6, x6⟩ := y4.put (by omega) q6 f6
      exact ⟨rfl, _, ⟨y6, al⟩, x4.trans x6⟩
    generalize prP (K i) (lst (K i)) = pp at *
    obtain ⟨z, hz⟩ : ∃ z, lst (K i) = z := ⟨_, rfl⟩
    rw [hz] at PR PU ST CT
    rw [hz]
    generalize K j ++ [(pp, z)] = X2 at *
    generalize up (up K j X2) i (del (K i) z) = K2 at *
    clear h ha hb hX hij e0 e1 e2 e3 e4 e5 e6 al on lin lpos hz
    go_enter Tryd.func32, Tryd.ntmps32
    go_wp2_with fail
    refine (CA.out ()).mono ?_
    rintro e w' ⟨rfl, rfl⟩
    go_wp2_with fail
    refine (CB.out ()).mono ?_
    rintro e w' ⟨rfl, rfl⟩
    go_wp2_with fail
    refine (L.out ()).mono ?_
    rintro e w2 ⟨v, rfl, g2⟩
    have o2 := g2.own
    have b2 := g2.bel
    rw [HL.out] at o2
    obtain ⟨a2, c2, rfl⟩ := own_shape o2
    obtain ⟨gg, rfl, hc⟩ := own_cell (k := l) o2 (by omega)
    have CT2 := CT.out
    rw [HL.out, Nat.add_sub_cancel] at CT2
    rw [CT2] at hc
    obtain ⟨d0, di, dj, h2, xc2⟩ := P.out w2 b2
    have H2 : Hid (RX w2 lo tt g cap n A V K ∧ XC lo w' w2) := ⟨h2, xc2⟩
    have P2 : Hid (∀ _ : Unit, _) := fun _ => PR.out w2 h2
    have U3 : Hid (∀ _ : Unit, _) := fun _ => PU.out w2 h2
    clear o2 b2 h2 CT2 xc2 g2
    go_wp2_with fail
    refine (P2.out ()).mono ?_
    rintro e w3 ⟨rfl, rfl⟩
    go_wp2_with fail
    refine (U3.out ()).mono ?_
    rintro e w4 ⟨rfl, v4, q4, f4⟩
    obtain ⟨d50, d5i, D5⟩ := ST.out _ w4 v4 H2.out.1 q4 f4
    have D6 : Hid (∀ _ : Unit, _) := fun _ => D5
    clear q4 f4 d0 di dj hc D5
    go_wp2_with fail
    refine (D6.out ()).mono ?_
    rintro e w6 ⟨rfl, V6, r6, x6⟩
    go_wp2
    go_ret2
    exact ⟨rfl, V6, r6, H2.out.2.trans x6⟩
  · rw [e2] at PU
    rw [if_neg e1, if_neg e1]
    have ST : Hid (∀ (w3 w4 : World) (v4 : Value), RX w3 lo tt g cap n A V K → RQ w4 (A j) v4 32 (K j) → RC w3 w4 (A j) (V j) v4 → (∃ V', RX w4 lo tt g cap n A V' K) ∧ XC lo w3 w4) := fun w3 w4 v4 h3 q4 f4 => by
      obtain ⟨y4, x4⟩ := h3.toRY.put (by omega) q4 f4
      rw [up_id] at y4
      exact ⟨⟨_, y4, h3.al⟩, x4⟩
    generalize psE 32 (K j) (prP (K i) (lst (K i))) (lst (K i)) = ee at *
    generalize prP (K i) (lst (K i)) = pp at *
    obtain ⟨z, hz⟩ : ∃ z, lst (K i) = z := ⟨_, rfl⟩
    rw [hz] at PR PU CT
    have e3 : (ee != 0) = true := by simpa using e1
    clear h ha hb hX hij e0 e1 e2 lin lpos hz
    go_enter Tryd.func32, Tryd.ntmps32
    go_wp2_with fail
    refine (CA.out ()).mono ?_
    rintro e w' ⟨rfl, rfl⟩
    go_wp2_with fail
    refine (CB.out ()).mono ?_
    rintro e w' ⟨rfl, rfl⟩
    go_wp2_with fail
    refine (L.out ()).mono ?_
    rintro e w2 ⟨v, rfl, g2⟩
    have o2 := g2.own
    have b2 := g2.bel
    rw [HL.out] at o2
    obtain ⟨a2, c2, rfl⟩ := own_shape o2
    obtain ⟨gg, rfl, hc⟩ := own_cell (k := l) o2 (by omega)
    have CT2 := CT.out
    rw [HL.out, Nat.add_sub_cancel] at CT2
    rw [CT2] at hc
    obtain ⟨d0, di, dj, h2, xc2⟩ := P.out w2 b2
    have H2 : Hid (RX w2 lo tt g cap n A V K ∧ XC lo w' w2) := ⟨h2, xc2⟩
    have P2 : Hid (∀ _ : Unit, _) := fun _ => PR.out w2 h2
    have U3 : Hid (∀ _ : Unit, _) := fun _ => PU.out w2 h2
    clear o2 b2 h2 CT2 xc2 g2
    go_wp2_with fail
    refine (P2.out ()).mono ?_
    rintro e w3 ⟨rfl, rfl⟩
    go_wp2_with fail
    refine (U3.out ()).mono ?_
    rintro e w4 ⟨rfl, v4, q4, f4⟩
    obtain ⟨⟨V4, R4⟩, X4⟩ := ST.out _ w4 v4 H2.out.1 q4 f4
    have HR : Hid (RX w4 lo tt g cap n A V4 K) := R4
    clear q4 f4 d0 di dj R4 hc
    go_wp2
    go_ret2
    exact ⟨rfl, V4, HR.out, H2.out.2.trans X4⟩
end Go.Proofs.YtpmjojemcpgpiaaDoor
