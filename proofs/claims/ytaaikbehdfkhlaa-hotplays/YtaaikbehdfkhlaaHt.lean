/- What Next of the program's desk answers and leaves, for every desk. -/
import Derived.Test.YtaaikbehdfkhlaaHs
namespace Go.Proofs.Ytaaikbehdfkhlaa
open Go.ChangeShapes Go.WideShapes Go.ChangeAt Go.RowKit
open Rm Hp

/-- A step as a value. -/
def stv (k : Int) (u f : Bool) : Value := .agg #[.int .i64 k, .bool u, .bool f]
def zs3 : List Value := [.int .i64 0, .bool false, .bool false]
theorem blk_three {w : World} {z : Nat} {t : TypeId} (h : Blk w z zs3 t) (v0 v1 v2 : Value) : Blk (((w.setCell ⟨z, 0, none⟩ v0).setCell ⟨z, 1, none⟩ v1).setCell ⟨z, 2, none⟩ v2) z [v0, v1, v2] t := ((h.set 0 v0).set 1 v1).set 2 v2
theorem fr_3 {B : Nat} {S : List Nat} {a w : World} {g : Nat} (h : Fr B S a w) (hp : B ≤ g ∨ g ∈ S) (v0 v1 v2 : Value) : Fr B S a (((w.setCell ⟨g, 0, none⟩ v0).setCell ⟨g, 1, none⟩ v1).setCell ⟨g, 2, none⟩ v2) :=
  ((h.setCell (p := ⟨g, 0, none⟩) hp v0).setCell (p := ⟨g, 1, none⟩) hp v1).setCell (p := ⟨g, 2, none⟩) hp v2
theorem hnext_ret {w : World} {z : Nat} {k e : Int} {u f : Bool} {tmps : Array Value} (h : Blk w z [.int .i64 k, .bool u, .bool f] 53) (h2 : tmps.getD 2 undef = .pointer (some ⟨z, 0, none⟩)) (h3 : tmps.getD 3 undef = .int .i64 e) :
    (results Try.f26 tmps).run Try.prog w = .ok (.tuple #[stv k u f, .int .i64 e]) w := by
  have q0 : w.cell? ⟨z, 0, none⟩ = some (.int .i64 k) := h.cell 0
  have q1 : w.cell? ⟨z, 1, none⟩ = some (.bool u) := h.cell 1
  have q2 : w.cell? ⟨z, 2, none⟩ = some (.bool f) := h.cell 2
  rw [results_cell_tmp (p := 2) (u := 3) (ty := 53) rfl, h2, h3]
  simp [go_sem, q0, q1, q2, stv]
theorem next_fin {w X : World} {s z N : Nat} {Z : List Nat} {R : Option Rq} {P : Int → Bool} (e : w.heap.size = z) (hz : ∀ k ∈ Z, k < w.heap.size) (h : PD X s Z R P N) (f : Fr w.heap.size Z w X) (v0 v1 v2 : Value) :
    ∃ Z', PD (((X.setCell ⟨z, 0, none⟩ v0).setCell ⟨z, 1, none⟩ v1).setCell ⟨z, 2, none⟩ v2) s Z' R P N ∧ Mz w (((X.setCell ⟨z, 0, none⟩ v0).setCell ⟨z, 1, none⟩ v1).setCell ⟨z, 2, none⟩ v2) Z Z' := by
  refine ⟨Z, h.keep (fr_3 (Fr.refl X.heap.size [z] X) (Or.inr (by simp)) v0 v1 v2) (fun k hk => ⟨?_, ?_⟩), fr_3 f (Or.inl (by omega)) v0 v1 v2, fun _ h => Or.inl h⟩
  · have := hz k hk
    have := f.size
    omega
  · have := hz k hk
    simp
    omega
theorem atK_ov {n d : Nat} {bk : Bool} (h : ov n d bk = true) : atK n d bk = 0 := by
  unfold ov at h
  unfold atK
  cases bk
  · simp at h
    simp [h]
  · simp at h
    simp [h]

set_option maxRecDepth 100000 in
set_option maxHeartbeats 4000000 in
theorem hnext_any {s : Nat} {Z : List Nat} {R : Option Rq} {P : Int → Bool} {N : Nat} (w : World) (h : PD w s Z R P N) :
    Calls Try.prog 26 #[.pointer (some ⟨s, 0, none⟩)] w fun e w' => e = .returned (.tuple #[stv ((nxK R : Nat) : Int) (nxU R) (nxF P R), .int .i64 (nxE R)]) ∧ ∃ Z', PD w' s Z' (nxR P R) (nxP P R) N ∧ Mz w w' Z Z' := by
  obtain ⟨nv, mv, h⟩ := h
  obtain ⟨wa, hwa⟩ : ∃ wa, w.alloc (.cells #[.int .i64 0, .bool false, .bool false] 53) = wa := ⟨_, rfl⟩
  have HWA : Hid (w.alloc (.cells #[.int .i64 0, .bool false, .bool false] 53) = wa) := hwa
  have bl : Below w.heap.size w wa := hwa ▸ (Below.refl _ _).alloc (Nat.le_refl _) _
  have kz : Blk wa w.heap.size zs3 53 := hwa ▸ Blk.new w zs3 _
  have h1 := h.keep (Fr.of_below bl) (fun j hj => ⟨h.lt j hj, by simp⟩)
  have HL : Hid (∀ k ∈ Z, k < w.heap.size) := h.lt
  have ZL : Hid (∀ (X : World) (R : Option Rq) (P : Int → Bool), PD X s Z R P N → Fr w.heap.size Z w X → ∀ v0 v1 v2, ∃ Z', PD (((X.setCell ⟨w.heap.size, 0, none⟩ v0).setCell ⟨w.heap.size, 1, none⟩ v1).setCell ⟨w.heap.size, 2, none⟩ v2) s Z' R P N ∧ Mz w (((X.setCell ⟨w.heap.size, 0, none⟩ v0).setCell ⟨w.heap.size, 1, none⟩ v1).setCell ⟨w.heap.size, 2, none⟩ v2) Z Z') := fun X R P h f => next_fin rfl HL.out h f
  have FA : Hid (Fr w.heap.size Z w wa ∧ w.heap.size ≤ wa.heap.size) := ⟨(Fr.of_below bl).mono (Nat.le_refl _) (by simp), bl.size⟩
  obtain ⟨z, hz⟩ : ∃ z, w.heap.size = z := ⟨_, rfl⟩
  have HZ : Hid (w.heap.size = z) := hz
  rw [hz] at kz ZL FA HL
  have zl : z < wa.heap.size := kz.lt
  have KZ : Hid (Blk wa z zs3 53) := kz
  have c0 := h1.c0
  have pn := h1.pn
  clear hwa bl hz kz h
  cases R with
  | none =>
    obtain rfl : nv = .pointer none := pn
    have C : Hid (∀ _ : Unit, _) := fun _ => hthere_none wa c0
    have HH : Hid (PD wa s Z none P N) := ⟨_, _, h1⟩
    show Calls _ _ _ _ fun e w' => e = .returned (.tuple #[stv 0 false false, .int .i64 12]) ∧ ∃ Z', PD w' s Z' none P N ∧ Mz w w' Z Z'
    clear h1 c0 HL
    go_enter Try.func26, Try.ntmps26
    go_wp2_with fail
    rw [HWA.out, HZ.out]
    refine (C.out ()).mono ?_
    rintro e w1 ⟨y, rfl, k1, b1⟩
    have kz := KZ.out.keep (Fr.of_below b1) zl (by simp)
    have KB : Hid (∀ v0 v1 v2 : Value, _) := blk_three kz
    have G : Hid (∀ v0 v1 v2 : Value, _) := ZL.out w1 none P (HH.out.below b1) (FA.out.1.trans ((Fr.of_below b1).mono FA.out.2 (by simp)))
    have z0 : w1.cell? ⟨z, 0, none⟩ = some (.int .i64 0) := kz.cell 0
    have z1 : w1.cell? ⟨z, 1, none⟩ = some (.bool false) := kz.cell 1
    have z2 : w1.cell? ⟨z, 2, none⟩ = some (.bool false) := kz.cell 2
    have f0 := kz.free 0
    have f1 := kz.free 1
    have f2 := kz.free 2
    clear kz k1 b1 HH ZL KZ C zl
    go_wp2
    exact bodyPost_ret (hnext_ret (KB.out _ _ _) rfl rfl) rfl ⟨rfl, G.out _ _ _⟩
  | some r =>
    obtain ⟨q, b, t, rfl, k, hq, hb⟩ := pn
    have C : Hid (∀ _ : Unit, _) := fun _ => hthere_some wa c0
    have A : Hid (∀ _ : Unit, _) := fun _ => gat_any wa k.rn
    have d0 := k.c0
    have K1 : Hid (∀ w1, Sm w1 wa → PD1 w1 s Z (.pointer (some ⟨q, 0, none⟩)) mv (some r) P N ∧ RQ w1 q b r t ∧ Blk w1 z zs3 53 ∧ Fr z Z w w1 ∧ z < w1.heap.size) := fun w1 m => by
      have f1 : Fr wa.heap.size [] wa w1 := m.fr (Fr.refl _ _ _)
      refine ⟨h1.keep f1 (fun j hj => ⟨h1.lt j hj, by simp⟩), k.keep f1 ⟨h1.lt q hq, by simp⟩ ⟨h1.lt b hb, by simp⟩, KZ.out.keep f1 zl (by simp), FA.out.1.trans (f1.mono FA.out.2 (by simp)), by have := f1.size; omega⟩
    unfold nxK nxU nxF nxE nxR nxP
    dsimp only
    cases eo : ov (nn r.up) r.d r.bk
    · cases eb : r.bk
      · -- forward
        have hdn : r.d < nn r.up := by
          have := k.rn.dn
          rw [eb] at eo
          unfold ov at eo
          simp at eo
          omega
        have et : t = r.told := k.tel eb hdn
        have hn10 := nn_le r.up
        have hwf : (Lit.int .i64 (r.d : Int)).wf = true := by
          simp [Lit.wf, IntKind.min, IntKind.max, IntKind.signed, IntKind.bits]
          omega
        have hd10 : (r.d : Int) ≤ 10 := by omega
        have efl : fls P r = (P r.d && !t) := by
          unfold fls
          rw [eo, eb, et]
          simp
        have enx : nxr P r = ⟨r.up, r.cpu, r.co, r.d, P r.d && !t, true⟩ := by
          unfold nxr
          rw [eo, eb, efl]
          simp
        have HF : Hid (RN wa b (nn r.up) r.d r.bk) := k.rn
        have EB : Hid (r.bk = false) := eb
        have HD : Hid (r.d < nn r.up) := hdn
        rw [eo, eb, at_f hdn] at A
        rw [efl, enx, at_f hdn]
        have L : Hid (∀ w1, PD1 w1 s Z (.pointer (some ⟨q, 0, none⟩)) mv (some r) P N → (Instr.lookup 41 mv (.int .i64 (r.d : Int)) true).run Try.prog w1 = .ok (.tuple #[.agg #[], .bool (P r.d)]) w1) := fun w1 h => by
          rcases h.pm with ⟨rfl, hP⟩ | ⟨m, rfl, M, hm⟩
          · rw [hP]
            exact ms_none w1 hwf
          · exact ms_look M hwf
        -- behind the store of told
        have T : Hid (∀ w1, PD1 w1 s Z (.pointer (some ⟨q, 0, none⟩)) mv (some r) P N → RQ w1 q b r t → Blk w1 z zs3 53 → Fr z Z w w1 → z < w1.heap.size → (w1.alloc (.cells #[] 68)).cell? ⟨q, 4, none⟩ = some (.bool t) ∧ (w1.alloc (.cells #[] 68)).frozen? ⟨q, 4, none⟩ = false ∧ PD1 ((w1.alloc (.cells #[] 68)).setCell ⟨q, 4, none⟩ (.bool true)) s Z (.pointer (some ⟨q, 0, none⟩)) mv (some ⟨r.up, r.cpu, r.co, r.d, false, true⟩) P N ∧ RQ ((w1.alloc (.cells #[] 68)).setCell ⟨q, 4, none⟩ (.bool true)) q b ⟨r.up, r.cpu, r.co, r.d, false, true⟩ true ∧ Blk ((w1.alloc (.cells #[] 68)).setCell ⟨q, 4, none⟩ (.bool true)) z zs3 53 ∧ Fr z Z w ((w1.alloc (.cells #[] 68)).setCell ⟨q, 4, none⟩ (.bool true))) := fun w1 h k kz fz zl => by
          have fa : Fr w1.heap.size [] w1 (w1.alloc (.cells #[] 68)) := (Fr.refl _ _ _).alloc (Nat.le_refl _) _
          have h2 := h.keep fa (fun j hj => ⟨h.lt j hj, by simp⟩)
          have k2 := k.keep fa ⟨h.lt q hq, by simp⟩ ⟨h.lt b hb, by simp⟩
          obtain ⟨h3, k3, f3⟩ := pd_told (r' := ⟨r.up, r.cpu, r.co, r.d, false, true⟩) (x := true) h2 k2 hq hb ⟨rfl, rfl, rfl, rfl, EB.out.symm⟩ (fun _ _ => rfl)
          have nq : z ≠ q := by have := HL.out q hq; omega
          exact ⟨k2.c4, k2.f4, h3, k3, (kz.keep fa zl (by simp)).keep f3 (Nat.lt_of_lt_of_le zl fa.size) (by simp; exact nq), (fz.trans (fa.mono (Nat.le_of_lt zl) (by simp))).trans (f3.mono (Nat.le_trans (Nat.le_of_lt zl) fa.size) fun j _ hj hm => hj (by simp at hm; subst hm; exact hq))⟩
        by_cases hf : (P r.d && !t) = true
        · -- it fails
          have hp : P r.d = true := by cases e : P r.d <;> simp [e] at hf; rfl
          have ht : t = false := by cases t <;> simp [hp] at hf; rfl
          subst ht
          rw [hf, if_pos rfl]
          rw [hp] at L
          obtain ⟨m, rfl, hm⟩ : ∃ m, mv = .map (some m) ∧ m ∈ Z := by
            rcases h1.pm with ⟨_, hP⟩ | ⟨m, e, _, hm⟩
            · rw [hP] at hp
              cases hp
            · exact ⟨m, e, hm⟩
          have D : Hid (∀ X, PD1 X s Z (.pointer (some ⟨q, 0, none⟩)) (.map (some m)) (some ⟨r.up, r.cpu, r.co, r.d, false, true⟩) P N → RQ X q b ⟨r.up, r.cpu, r.co, r.d, false, true⟩ true → Blk X z zs3 53 → Fr z Z w X → z ≤ X.heap.size → ∃ w2, (Builtin.delete_ #[41, 3] 0 #[.map (some m), .int .i64 (r.d : Int)]).run Try.prog X = .ok (.tuple #[]) w2 ∧ w2.cell? ⟨q, 0, none⟩ = some (.pointer (some ⟨b, 0, none⟩)) ∧ RN w2 b (nn r.up) r.d false ∧ ∀ w3, RN w3 b (nn r.up) r.d true → Fr w2.heap.size [b] w2 w3 → Blk w3 z zs3 53 ∧ PD w3 s Z (some ⟨r.up, r.cpu, r.co, r.d, true, true⟩) (fun j => !decide (j = (r.d : Int)) && P j) N ∧ Fr z Z w w3) := fun X h k kz fz zx => by
            have M : MS X m N P := by
              rcases h.pm with ⟨e, _⟩ | ⟨m2, e, M, _⟩
              · cases e
              · cases e; exact M
            obtain ⟨w2, r2, M2, f2⟩ := ms_del M hwf 0
            have h2 := pd_map h hm M M2 f2
            have n1 : q ≠ m := fun e => M.blk k.sb e.symm
            have n2 : b ≠ m := fun e => M.blk k.rn.sb e.symm
            have n3 : z ≠ m := by have := HL.out m hm; omega
            have n4 : z ≠ b := by have := HL.out b hb; omega
            have k2 := k.keep f2 ⟨k.sb.lt, by simp; exact n1⟩ ⟨k.rn.sb.lt, by simp; exact n2⟩
            have kz2 := kz.keep f2 kz.lt (by simp; exact n3)
            have fz2 : Fr z Z w w2 := fz.trans (f2.mono zx fun j _ hj hm2 => hj (by simp at hm2; subst hm2; exact hm))
            refine ⟨w2, r2, k2.c0, k2.rn, fun w3 rn f3 => ⟨kz2.keep f3 kz2.lt (by simp; exact n4), ⟨_, _, (pd_run (r' := ⟨r.up, r.cpu, r.co, r.d, true, true⟩) h2 k2 hq hb rn f3 ⟨rfl, rfl, rfl, rfl, rfl⟩ (fun e _ => by cases e)).1⟩, fz2.trans (f3.mono (Nat.le_trans zx f2.size) fun j _ hj hm2 => hj (by simp at hm2; subst hm2; exact hb))⟩⟩
          have FL : Hid (∀ w2, RN w2 b (nn r.up) r.d false → _) := fun w2 q => gfail_any w2 q
          rw [show flE (nn r.up) r.d false = 0 by simp [flE, ov_f HD.out], show flB (nn r.up) r.d false = true by simp [flB, ov_f HD.out]] at FL
          generalize hdd : r.d = dd at *
          clear h1 k c0 eo eb et efl enx hf hp hdn hn10 HF EB HD HL hwf FA KZ zl
          go_enter Try.func26, Try.ntmps26
          go_wp2_with fail
          rw [HWA.out, HZ.out]
          refine (C.out ()).mono ?_
          rintro e w1 ⟨rfl, rfl⟩
          go_wp2_with fail
          refine (A.out ()).mono ?_
          rintro e w1 ⟨rfl, m1⟩
          obtain ⟨h2, k2, kz, fz, zl2⟩ := K1.out w1 m1
          obtain ⟨g4, e4, h3, k3, kz3, fz3⟩ := T.out w1 h2 k2 kz fz zl2
          have l := L.out w1 h2
          have c1 := h2.c1
          have s1 := h3.c1
          obtain ⟨w2, r2, g0, rn2, nx⟩ := D.out _ h3 k3 kz3 fz3 (by have := fz3.size; have := HZ.out; omega)
          have FL2 : Hid (∀ _ : Unit, _) := fun _ => FL.out w2 rn2
          have NX : Hid _ := nx
          clear m1 h2 k2 kz fz zl2 h3 k3 kz3 fz3 rn2 nx T D FL A K1
          go_wp2_with fail
          refine (FL2.out ()).mono ?_
          rintro e X ⟨rfl, rn3, f3⟩
          obtain ⟨kz, p3, fz3⟩ := NX.out X rn3 f3
          have KB : Hid (∀ v0 v1 v2 : Value, _) := blk_three kz
          have G : Hid (∀ v0 v1 v2 : Value, _) := ZL.out X _ _ p3 fz3
          have z0 : X.cell? ⟨z, 0, none⟩ = some (.int .i64 0) := kz.cell 0
          have z1 : X.cell? ⟨z, 1, none⟩ = some (.bool false) := kz.cell 1
          have z2 : X.cell? ⟨z, 2, none⟩ = some (.bool false) := kz.cell 2
          have f0 := kz.free 0
          have f1 := kz.free 1
          have f2 := kz.free 2
          clear kz p3 fz3 rn3 f3 ZL FL2 NX
          go_wp2
          exact bodyPost_ret (hnext_ret (KB.out _ _ _) rfl rfl) rfl ⟨rfl, G.out _ _ _⟩
        · -- it does not
          have hf2 : (P r.d && !t) = false := by simpa using hf
          rw [hf2, if_neg (by simp)]
          have ht : (P r.d = false) ∨ (P r.d = true ∧ t = true) := by
            cases e : P r.d
            · exact Or.inl rfl
            · rw [e] at hf2
              simp at hf2
              exact Or.inr ⟨rfl, hf2⟩
          have FI : Hid (∀ X, PD1 X s Z (.pointer (some ⟨q, 0, none⟩)) mv (some ⟨r.up, r.cpu, r.co, r.d, false, true⟩) P N → Fr z Z w X → ∀ v0 v1 v2, _) := fun X h f => ZL.out X _ P ⟨_, _, h⟩ f
          generalize hdd : r.d = dd at *
          clear h1 k c0 eo eb et efl enx hf hdn hn10 HF EB HD HL hwf FA KZ zl ZL
          rcases ht with hp | ⟨hp, ht⟩
          · rw [hp] at L hf2
            go_enter Try.func26, Try.ntmps26
            go_wp2_with fail
            rw [HWA.out, HZ.out]
            refine (C.out ()).mono ?_
            rintro e w1 ⟨rfl, rfl⟩
            go_wp2_with fail
            refine (A.out ()).mono ?_
            rintro e w1 ⟨rfl, m1⟩
            obtain ⟨h2, k2, kz, fz, zl2⟩ := K1.out w1 m1
            obtain ⟨g4, e4, h3, k3, kz, fz3⟩ := T.out w1 h2 k2 kz fz zl2
            have l := L.out w1 h2
            have c1 := h2.c1
            have KB : Hid (∀ v0 v1 v2 : Value, _) := blk_three kz
            have G : Hid (∀ v0 v1 v2 : Value, _) := FI.out _ h3 fz3
            have z0 : ((w1.alloc (.cells #[] 68)).setCell ⟨q, 4, none⟩ (.bool true)).cell? ⟨z, 0, none⟩ = some (.int .i64 0) := kz.cell 0
            have z1 : ((w1.alloc (.cells #[] 68)).setCell ⟨q, 4, none⟩ (.bool true)).cell? ⟨z, 1, none⟩ = some (.bool false) := kz.cell 1
            have z2 : ((w1.alloc (.cells #[] 68)).setCell ⟨q, 4, none⟩ (.bool true)).cell? ⟨z, 2, none⟩ = some (.bool false) := kz.cell 2
            have f0 := kz.free 0
            have f1 := kz.free 1
            have f2 := kz.free 2
            clear m1 h2 k2 kz fz zl2 h3 k3 fz3 T FI A K1 L
            go_wp2
            exact bodyPost_ret (hnext_ret (KB.out _ _ _) rfl rfl) rfl ⟨rfl, G.out _ _ _⟩
          · subst ht
            rw [hp] at L hf2
            go_enter Try.func26, Try.ntmps26
            go_wp2_with fail
            rw [HWA.out, HZ.out]
            refine (C.out ()).mono ?_
            rintro e w1 ⟨rfl, rfl⟩
            go_wp2_with fail
            refine (A.out ()).mono ?_
            rintro e w1 ⟨rfl, m1⟩
            obtain ⟨h2, k2, kz, fz, zl2⟩ := K1.out w1 m1
            obtain ⟨g4, e4, h3, k3, kz, fz3⟩ := T.out w1 h2 k2 kz fz zl2
            have l := L.out w1 h2
            have c1 := h2.c1
            have KB : Hid (∀ v0 v1 v2 : Value, _) := blk_three kz
            have G : Hid (∀ v0 v1 v2 : Value, _) := FI.out _ h3 fz3
            have z0 : ((w1.alloc (.cells #[] 68)).setCell ⟨q, 4, none⟩ (.bool true)).cell? ⟨z, 0, none⟩ = some (.int .i64 0) := kz.cell 0
            have z1 : ((w1.alloc (.cells #[] 68)).setCell ⟨q, 4, none⟩ (.bool true)).cell? ⟨z, 1, none⟩ = some (.bool false) := kz.cell 1
            have z2 : ((w1.alloc (.cells #[] 68)).setCell ⟨q, 4, none⟩ (.bool true)).cell? ⟨z, 2, none⟩ = some (.bool false) := kz.cell 2
            have f0 := kz.free 0
            have f1 := kz.free 1
            have f2 := kz.free 2
            clear m1 h2 k2 kz fz zl2 h3 k3 fz3 T FI A K1 L
            go_wp2
            exact bodyPost_ret (hnext_ret (KB.out _ _ _) rfl rfl) rfl ⟨rfl, G.out _ _ _⟩
      · -- back
        rw [eo, eb] at A
        have efl : fls P r = false := by unfold fls; rw [eb]; simp
        have enx : nxr P r = r := by unfold nxr; rw [eb]; simp
        rw [efl, enx, if_neg (by simp), if_neg (by simp)]
        generalize atK (nn r.up) r.d true = x at *
        clear h1 k c0 eo eb efl enx HL FA KZ zl
        go_enter Try.func26, Try.ntmps26
        go_wp2_with fail
        rw [HWA.out, HZ.out]
        refine (C.out ()).mono ?_
        rintro e w1 ⟨rfl, rfl⟩
        go_wp2_with fail
        refine (A.out ()).mono ?_
        rintro e w1 ⟨rfl, m1⟩
        obtain ⟨h2, k2, kz, fz, zl2⟩ := K1.out w1 m1
        have KB : Hid (∀ v0 v1 v2 : Value, _) := blk_three kz
        have G : Hid (∀ v0 v1 v2 : Value, _) := ZL.out w1 _ _ ⟨_, _, h2⟩ fz
        have z0 : w1.cell? ⟨z, 0, none⟩ = some (.int .i64 0) := kz.cell 0
        have z1 : w1.cell? ⟨z, 1, none⟩ = some (.bool false) := kz.cell 1
        have z2 : w1.cell? ⟨z, 2, none⟩ = some (.bool false) := kz.cell 2
        have f0 := kz.free 0
        have f1 := kz.free 1
        have f2 := kz.free 2
        clear m1 h2 k2 kz fz zl2 A K1 ZL
        go_wp2
        exact bodyPost_ret (hnext_ret (KB.out _ _ _) rfl rfl) rfl ⟨rfl, G.out _ _ _⟩
    · rw [eo, atK_ov eo] at A
      have efl : fls P r = false := by unfold fls; rw [eo]; simp
      have enx : nxr P r = r := by unfold nxr; rw [eo]; simp
      rw [efl, enx, atK_ov eo, if_pos rfl, if_neg (by simp)]
      show Calls _ _ _ _ fun e w' => e = .returned (.tuple #[stv 0 false false, .int .i64 6]) ∧ ∃ Z', PD w' s Z' (some r) P N ∧ Mz w w' Z Z'
      generalize r.bk = x at *
      clear h1 k c0 eo efl enx HL FA KZ zl
      go_enter Try.func26, Try.ntmps26
      go_wp2_with fail
      rw [HWA.out, HZ.out]
      refine (C.out ()).mono ?_
      rintro e w1 ⟨rfl, rfl⟩
      go_wp2_with fail
      refine (A.out ()).mono ?_
      rintro e w1 ⟨rfl, m1⟩
      obtain ⟨h2, k2, kz, fz, zl2⟩ := K1.out w1 m1
      have KB : Hid (∀ v0 v1 v2 : Value, _) := blk_three kz
      have G : Hid (∀ v0 v1 v2 : Value, _) := ZL.out w1 _ _ ⟨_, _, h2⟩ fz
      have z0 : w1.cell? ⟨z, 0, none⟩ = some (.int .i64 0) := kz.cell 0
      have z1 : w1.cell? ⟨z, 1, none⟩ = some (.bool false) := kz.cell 1
      have z2 : w1.cell? ⟨z, 2, none⟩ = some (.bool false) := kz.cell 2
      have f0 := kz.free 0
      have f1 := kz.free 1
      have f2 := kz.free 2
      clear m1 h2 k2 kz fz zl2 A K1 ZL
      go_wp2
      exact bodyPost_ret (hnext_ret (KB.out _ _ _) rfl rfl) rfl ⟨rfl, G.out _ _ _⟩
set_option maxRecDepth 100000 in
theorem hnext_nil (w : World) : Calls Try.prog 26 #[.pointer none] w fun e w' => e = .returned (.tuple #[stv 0 false false, .int .i64 1]) ∧ Below w.heap.size w w' := by
  obtain ⟨wa, hwa⟩ : ∃ wa, w.alloc (.cells #[.int .i64 0, .bool false, .bool false] 53) = wa := ⟨_, rfl⟩
  have HWA : Hid (w.alloc (.cells #[.int .i64 0, .bool false, .bool false] 53) = wa) := hwa
  have bl : Below w.heap.size w wa := hwa ▸ (Below.refl _ _).alloc (Nat.le_refl _) _
  have kz : Blk wa w.heap.size zs3 53 := hwa ▸ Blk.new w zs3 _
  have KZ : Hid (Below w.heap.size w wa ∧ Blk wa w.heap.size zs3 53) := ⟨bl, kz⟩
  obtain ⟨z, hz⟩ : ∃ z, w.heap.size = z := ⟨_, rfl⟩
  have HZ : Hid (w.heap.size = z) := hz
  rw [hz] at KZ ⊢
  have C : Hid (∀ _ : Unit, _) := fun _ => hthere_nil wa
  clear hwa bl kz hz
  go_enter Try.func26, Try.ntmps26
  go_wp2_with fail
  rw [HWA.out, HZ.out]
  refine (C.out ()).mono ?_
  rintro e w1 ⟨y, rfl, k1, b1⟩
  have kz := KZ.out.2.keep (Fr.of_below b1) KZ.out.2.lt (by simp)
  have KB : Hid (∀ v0 v1 v2 : Value, _) := blk_three kz
  have G : Hid (Below z w w1) := KZ.out.1.trans (b1.mono (Nat.le_of_lt KZ.out.2.lt))
  have z0 : w1.cell? ⟨z, 0, none⟩ = some (.int .i64 0) := kz.cell 0
  have z1 : w1.cell? ⟨z, 1, none⟩ = some (.bool false) := kz.cell 1
  have z2 : w1.cell? ⟨z, 2, none⟩ = some (.bool false) := kz.cell 2
  have f0 := kz.free 0
  have f1 := kz.free 1
  have f2 := kz.free 2
  clear kz k1 b1 KZ C
  go_wp2
  exact bodyPost_ret (hnext_ret (KB.out _ _ _) rfl rfl) rfl ⟨rfl, (fr_3 (Fr.of_below G.out) (Or.inl (Nat.le_refl _)) _ _ _).below (by simp)⟩
end Go.Proofs.Ytaaikbehdfkhlaa
