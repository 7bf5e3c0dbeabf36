/- What Plan, Begin, Done and End of the program's desk answer and leave, for every desk. -/
import Derived.Test.YtaaikbehdfkhlaaHr
import Derived.Carry
import Derived.WalkSpells
namespace Go.Proofs.Ytaaikbehdfkhlaa
open Go.ChangeShapes Go.WideShapes Go.ChangeAt Go.RowKit
open Rm Hp

section
variable {w w1 w2 : World} {s : Nat} {Z : List Nat} {nv mv : Value} {R : Option Rq} {P : Int → Bool} {N : Nat}
theorem MS.up {b N2 : Nat} (h : MS w b N P) (hn : N ≤ N2) : MS w b N2 P := by
  obtain ⟨D, o, k⟩ := h
  exact ⟨D, o.mono hn, k⟩
theorem PD.up {N2 : Nat} (h : PD w s Z R P N) (hn : N ≤ N2) : PD w s Z R P N2 := by
  obtain ⟨nv, mv, h⟩ := h
  refine ⟨nv, mv, h.sb, h.pn, ?_, h.sz, h.lt⟩
  rcases h.pm with k | ⟨m, e, k, hm⟩
  · exact Or.inl k
  · exact Or.inr ⟨m, e, k.up hn, hm⟩
theorem PN.keepx {x : Nat} (h : PN w Z nv R) (f : Fr w.heap.size [x] w w1) (hx : ∀ q cs, Blk w q cs 72 → q ≠ x) (hx2 : ∀ b cs, Blk w b cs 65 → b ≠ x) : PN w1 Z nv R := by
  cases R with
  | none => exact h
  | some r =>
    obtain ⟨q, b, t, e, k, h1, h2⟩ := h
    have n1 := hx _ _ k.sb
    have n2 := hx2 _ _ k.rn.sb
    exact ⟨q, b, t, e, k.keep f ⟨k.sb.lt, by simp; exact n1⟩ ⟨k.rn.sb.lt, by simp; exact n2⟩, h1, h2⟩
theorem PM.keepx {x : Nat} {cs : List Value} {t : TypeId} (h : PM w Z mv P N) (f : Fr w.heap.size [x] w w1) (hx : Blk w x cs t) : PM w1 Z mv P N := by
  rcases h with h | ⟨m, e, k, hm⟩
  · exact Or.inl h
  · have := k.blk hx
    exact Or.inr ⟨m, e, k.keep f k.lt (by simp; exact this), hm⟩
/-- The set of what is planned has turned. -/
theorem pd_map {m N2 : Nat} {P2 : Int → Bool} (h : PD1 w s Z nv (.map (some m)) R P N) (hm : m ∈ Z) (M : MS w m N P) (M2 : MS w2 m N2 P2) (f : Fr w.heap.size [m] w w2) : PD1 w2 s Z nv (.map (some m)) R P2 N2 :=
  ⟨h.sb.keep f h.sb.lt (by simp; exact fun e => M.blk h.sb e.symm), h.pn.keepx f (fun _ _ k e => M.blk k e.symm) (fun _ _ k e => M.blk k e.symm), Or.inr ⟨m, rfl, M2, hm⟩, h.sz, fun k hk => Nat.lt_of_lt_of_le (h.lt k hk) f.size⟩
/-- Whether the next stage was told has turned. -/
theorem pd_told {q b : Nat} {r r' : Rq} {t x : Bool} (h : PD1 w s Z (.pointer (some ⟨q, 0, none⟩)) mv (some r) P N) (k : RQ w q b r t) (hq : q ∈ Z) (hb : b ∈ Z) (e : r'.up = r.up ∧ r'.cpu = r.cpu ∧ r'.co = r.co ∧ r'.d = r.d ∧ r'.bk = r.bk) (tel : Tel r' x) :
    PD1 (w.setCell ⟨q, 4, none⟩ (.bool x)) s Z (.pointer (some ⟨q, 0, none⟩)) mv (some r') P N ∧ RQ (w.setCell ⟨q, 4, none⟩ (.bool x)) q b r' x ∧ Fr w.heap.size [q] w (w.setCell ⟨q, 4, none⟩ (.bool x)) := by
  obtain ⟨e1, e2, e3, e4, e5⟩ := e
  have f : Fr w.heap.size [q] w (w.setCell ⟨q, 4, none⟩ (.bool x)) := (Fr.refl _ _ _).setCell (Or.inr (by simp)) _
  have n1 : s ≠ q := h.sb.ne k.sb (by decide)
  have n2 : b ≠ q := k.rn.sb.ne k.sb (by decide)
  have k2 : RQ (w.setCell ⟨q, 4, none⟩ (.bool x)) q b r' x := by
    refine ⟨?_, ?_, tel⟩
    · rw [e1, e2, e3]
      exact k.sb.set 4 _
    · rw [e1, e4, e5]
      exact k.rn.keep f k.rn.sb.lt (by simp; exact n2)
  exact ⟨⟨h.sb.keep f h.sb.lt (by simp; exact n1), ⟨q, b, x, rfl, k2, hq, hb⟩, h.pm.keepx f k.sb, h.sz, fun j hj => Nat.lt_of_lt_of_le (h.lt j hj) f.size⟩, k2, f⟩
/-- The run has turned. -/
theorem pd_run {q b d' : Nat} {bk' : Bool} {r r' : Rq} {t : Bool} (h : PD1 w s Z (.pointer (some ⟨q, 0, none⟩)) mv (some r) P N) (k : RQ w q b r t) (hq : q ∈ Z) (hb : b ∈ Z) (rn : RN w1 b (nn r.up) d' bk') (f : Fr w.heap.size [b] w w1) (e : r'.up = r.up ∧ r'.cpu = r.cpu ∧ r'.co = r.co ∧ r'.d = d' ∧ r'.bk = bk') (tel : Tel r' t) :
    PD1 w1 s Z (.pointer (some ⟨q, 0, none⟩)) mv (some r') P N ∧ RQ w1 q b r' t := by
  obtain ⟨e1, e2, e3, e4, e5⟩ := e
  have n1 : s ≠ b := h.sb.ne k.rn.sb (by decide)
  have n2 : q ≠ b := k.sb.ne k.rn.sb (by decide)
  have k2 : RQ w1 q b r' t := by
    refine ⟨?_, ?_, tel⟩
    · rw [e1, e2, e3]
      exact k.sb.keep f k.sb.lt (by simp; exact n2)
    · rw [e1, e4, e5]
      exact rn
  exact ⟨⟨h.sb.keep f h.sb.lt (by simp; exact n1), ⟨q, b, t, rfl, k2, hq, hb⟩, h.pm.keepx f k.rn.sb, h.sz, fun j hj => Nat.lt_of_lt_of_le (h.lt j hj) f.size⟩, k2⟩
theorem frz {x : Nat} (f : Fr w1.heap.size [x] w1 w2) (hw : w.heap.size ≤ w1.heap.size) (hx : x ∈ Z) : Fr w.heap.size Z w1 w2 := f.mono hw fun k _ hk hm => hk (by simp at hm; subst hm; exact hx)
theorem map_isnil (w : World) : (binOp .eql 41 (.map none) (.map none)).run Try.prog w = .ok (.bool true) w := run_eql_map_nil w _ 3 68 none Try.underlying41
theorem map_notnil (b : Nat) (w : World) : (binOp .eql 41 (.map (some b)) (.map none)).run Try.prog w = .ok (.bool false) w := run_eql_map_nil w _ 3 68 (some b) Try.underlying41
end

set_option maxRecDepth 100000 in
set_option maxHeartbeats 1000000 in
theorem hplan_any {s : Nat} {Z : List Nat} {R : Option Rq} {P : Int → Bool} {N : Nat} (k : Int) (hw : (Lit.int .i64 k).wf = true) (w : World) (h : PD w s Z R P N) (hn : N ≤ 100000) :
    Calls Try.prog 22 #[.pointer (some ⟨s, 0, none⟩), .int .i64 k] w fun e w' => e = .returned (.int .i64 (plE k)) ∧ ∃ Z', PD w' s Z' R (plP P k) (N + 1) ∧ Mz w w' Z Z' := by
  by_cases c : k < 0 ∨ 10 ≤ k
  · rw [plE_no c, plP_no c]
    have H : Hid (PD w s Z R P (N + 1)) := h.up (by omega)
    clear h hw
    rcases c with c | c
    all_goals (
      try (have c2 : ¬ k < 0 := by omega)
      go_enter Try.func22, Try.ntmps22
      go_wp2
      go_ret
      exact ⟨rfl, Z, H.out, Mz.refl _ _⟩)
  · have k0 : 0 ≤ k := by omega
    have k1 : k < 10 := by omega
    rw [plE_yes k0 k1, plP_yes k0 k1]
    obtain ⟨nv, mv, h⟩ := h
    have c1 := h.c1
    have f1 := h.f1
    clear c
    rcases h.pm with ⟨rfl, hP⟩ | ⟨m, rfl, M, hm⟩
    · have mn := map_isnil
      have mbs := @run_makeMap Try.prog
      obtain ⟨mb, emb⟩ : ∃ mb, mb = w.heap.size := ⟨_, rfl⟩
      obtain ⟨w1, ew1⟩ : ∃ w1, w1 = (w.alloc (.map #[] 0)).setCell ⟨s, 1, none⟩ (.map (some mb)) := ⟨_, rfl⟩
      have ha := h.keep ((Fr.refl w.heap.size [] w).alloc (Nat.le_refl _) (.map #[] 0)) (fun j hj => ⟨h.lt j hj, by simp⟩)
      have F1 : Fr (w.alloc (.map #[] 0)).heap.size [s] (w.alloc (.map #[] 0)) w1 := by
        rw [ew1]
        exact (Fr.refl _ _ _).setCell (Or.inr (by simp)) _
      have F0 : Fr w.heap.size Z w w1 := ((Fr.refl w.heap.size Z w).alloc (Nat.le_refl _) _).trans (frz F1 (by simp) h.sz)
      have hs := h.sb.lt
      have M1 : MS w1 mb N P := by
        have := ms_new w
        rw [← emb] at this
        have e : P = fun _ => false := funext hP
        rw [e]
        exact (this.up (Nat.zero_le _)).keep F1 this.lt (by simp; omega)
      have H1 : PD1 w1 s (mb :: Z) nv (.map (some mb)) R P N := by
        refine ⟨?_, (ha.pn.keepx F1 (fun _ _ k => k.ne ha.sb (by decide)) (fun _ _ k => k.ne ha.sb (by decide))).sub (fun j hj => List.mem_cons_of_mem _ hj), Or.inr ⟨mb, rfl, M1, by simp⟩, List.mem_cons_of_mem _ h.sz, fun j hj => ?_⟩
        · rw [ew1]
          exact ha.sb.set 1 _
        · have := F1.size
          simp at this
          rcases List.mem_cons.1 hj with e | e
          · omega
          · have := h.lt j e
            omega
      obtain ⟨w2, r2, M2, f2⟩ := ms_put M1 hn hw
      have H2 : Hid (PD w2 s (mb :: Z) R (fun j => decide (j = k) || P j) (N + 1)) := ⟨_, _, pd_map H1 (by simp) M1 M2 f2⟩
      have MM : Hid (Mz w w2 Z (mb :: Z)) := by
        refine ⟨F0.trans (f2.mono F0.size fun j hj _ hm => by simp at hm; omega), fun j hj => ?_⟩
        rcases List.mem_cons.1 hj with e | e
        · exact Or.inr (by omega)
        · exact Or.inl e
      have d1 := H1.c1
      have y1 := ha.c1
      have y2 := ha.f1
      rw [ew1] at d1 r2
      subst emb
      clear h ha F1 F0 M1 H1 M2 f2 ew1 hP hs
      go_enter Try.func22, Try.ntmps22
      go_wp2
      go_ret
      exact ⟨rfl, _, H2.out, MM.out⟩
    · have mn := map_notnil m
      obtain ⟨w2, r2, M2, f2⟩ := ms_put M hn hw
      have H2 : Hid (PD w2 s Z R (fun j => decide (j = k) || P j) (N + 1)) := ⟨_, _, pd_map h hm M M2 f2⟩
      have MM : Hid (Mz w w2 Z Z) := ⟨frz f2 (Nat.le_refl _) hm, fun _ h => Or.inl h⟩
      clear h M M2 f2
      go_enter Try.func22, Try.ntmps22
      go_wp2
      go_ret
      exact ⟨rfl, _, H2.out, MM.out⟩
set_option maxRecDepth 100000 in
set_option maxHeartbeats 1000000 in
theorem hbegin_any {s : Nat} {Z : List Nat} {R : Option Rq} {P : Int → Bool} {N : Nat} (up : Bool) (c y : Int) (w : World) (h : PD w s Z R P N) :
    Calls Try.prog 24 #[.pointer (some ⟨s, 0, none⟩), .bool up, .int .i64 c, .int .i64 y] w fun e w' => e = .returned (.int .i64 (beE R c y)) ∧ ∃ Z', PD w' s Z' (beR R up c y) P N ∧ Mz w w' Z Z' := by
  have H : Hid (PD w s Z R P N) := h
  obtain ⟨nv, mv, h⟩ := h
  have c0 := h.c0
  have pn := h.pn
  cases R with
  | some r =>
    obtain ⟨q, b, t, rfl, _⟩ := pn
    rw [show beE (some r) c y = 7 from rfl, show beR (some r) up c y = some r from rfl]
    clear h
    go_enter Try.func24, Try.ntmps24
    go_wp2
    go_ret
    exact ⟨rfl, Z, H.out, Mz.refl _ _⟩
  | none =>
    obtain rfl : nv = .pointer none := pn
    have C1 : Hid (∀ w, _) := fun w => hcore_any c w
    have C2 : Hid (∀ w, _) := fun w => hcore_any y w
    cases i1 : isC c
    · rw [show beE none c y = 3 by simp [beE, i1], show beR none up c y = none by simp [beR, beE, i1]]
      rw [i1] at C1
      clear h i1
      go_enter Try.func24, Try.ntmps24
      go_wp2_with fail
      refine (C1.out _).mono ?_
      rintro e w1 ⟨rfl, rfl⟩
      go_wp2
      go_ret
      exact ⟨rfl, Z, H.out, Mz.refl _ _⟩
    · rw [i1] at C1
      cases i2 : isC y
      · rw [show beE none c y = 3 by simp [beE, i2], show beR none up c y = none by simp [beR, beE, i2]]
        rw [i2] at C2
        clear h i1 i2
        go_enter Try.func24, Try.ntmps24
        go_wp2_with fail
        refine (C1.out _).mono ?_
        rintro e w1 ⟨rfl, rfl⟩
        go_wp2_with fail
        refine (C2.out _).mono ?_
        rintro e w1 ⟨rfl, rfl⟩
        go_wp2
        go_ret
        exact ⟨rfl, Z, H.out, Mz.refl _ _⟩
      · rw [i2] at C2
        by_cases e : c = y
        · rw [show beE none c y = 2 by simp [beE, i2, e], show beR none up c y = none by simp [beR, beE, i2, e]]
          have ec : (c == y) = true := by simpa using e
          clear h i1 i2 e
          go_enter Try.func24, Try.ntmps24
          go_wp2_with fail
          refine (C1.out _).mono ?_
          rintro e w1 ⟨rfl, rfl⟩
          go_wp2_with fail
          refine (C2.out _).mono ?_
          rintro e w1 ⟨rfl, rfl⟩
          go_wp2
          go_ret
          exact ⟨rfl, Z, H.out, Mz.refl _ _⟩
        · rw [show beE none c y = 0 by simp [beE, i1, i2, e], show beR none up c y = some ⟨up, c, y, 0, false, false⟩ by simp [beR, beE, i1, i2, e]]
          have ec : (c == y) = false := by simpa using e
          have C3 : Hid (∀ w, _) := fun w => hstages_any up w
          have nl := nn_le up
          have C4 : Hid (∀ _ : Unit, _) := fun _ => gnew_any (nn up) w (by omega) (by omega)
          have HH : Hid (∀ w1, RN w1 w.heap.size (nn up) 0 false → Below w.heap.size w w1 → w1.cell? ⟨s, 0, none⟩ = some (.pointer none) ∧ w1.frozen? ⟨s, 0, none⟩ = false ∧ (w1.alloc (.cells #[.pointer (some ⟨w.heap.size, 0, none⟩), .bool up, .int .i64 c, .int .i64 y, .bool false] 72)).cell? ⟨s, 0, none⟩ = some (.pointer none) ∧ (w1.alloc (.cells #[.pointer (some ⟨w.heap.size, 0, none⟩), .bool up, .int .i64 c, .int .i64 y, .bool false] 72)).frozen? ⟨s, 0, none⟩ = false ∧ ∃ Z', PD ((w1.alloc (.cells #[.pointer (some ⟨w.heap.size, 0, none⟩), .bool up, .int .i64 c, .int .i64 y, .bool false] 72)).setCell ⟨s, 0, none⟩ (.pointer (some ⟨w1.heap.size, 0, none⟩))) s Z' (some ⟨up, c, y, 0, false, false⟩) P N ∧ Mz w ((w1.alloc (.cells #[.pointer (some ⟨w.heap.size, 0, none⟩), .bool up, .int .i64 c, .int .i64 y, .bool false] 72)).setCell ⟨s, 0, none⟩ (.pointer (some ⟨w1.heap.size, 0, none⟩))) Z Z') := fun w1 rn b1 => by
            have h1 := h.keep (Fr.of_below b1) (fun j hj => ⟨h.lt j hj, by simp⟩)
            have kn := Blk.new w1 [.pointer (some ⟨w.heap.size, 0, none⟩), .bool up, .int .i64 c, .int .i64 y, .bool false] 72
            have fa : Fr w1.heap.size [] w1 (w1.alloc (.cells #[.pointer (some ⟨w.heap.size, 0, none⟩), .bool up, .int .i64 c, .int .i64 y, .bool false] 72)) := (Fr.refl _ _ _).alloc (Nat.le_refl _) _
            have h2 := h1.keep fa (fun j hj => ⟨h1.lt j hj, by simp⟩)
            refine ⟨h1.c0, h1.f0, h2.c0, h2.f0, ?_⟩
            obtain ⟨w2, ew2⟩ : ∃ w2, w2 = w1.alloc (.cells #[.pointer (some ⟨w.heap.size, 0, none⟩), .bool up, .int .i64 c, .int .i64 y, .bool false] 72) := ⟨_, rfl⟩
            have zs : w1.heap.size < w2.heap.size := by rw [ew2]; simp
            rw [← ew2] at h2 fa ⊢
            have kn : Blk w2 w1.heap.size _ _ := ew2 ▸ kn
            have rn2 := rn.keep fa rn.sb.lt (by simp)
            have f3 : Fr w2.heap.size [s] w2 (w2.setCell ⟨s, 0, none⟩ (.pointer (some ⟨w1.heap.size, 0, none⟩))) := (Fr.refl _ _ _).setCell (Or.inr (by simp)) _
            have n1 : w1.heap.size ≠ s := by have := h1.sb.lt; omega
            have n2 : w.heap.size ≠ s := by have := h.sb.lt; omega
            have b3 := b1.size
            refine ⟨w.heap.size :: w1.heap.size :: Z, ⟨_, _, h2.sb.set 0 _, ⟨w1.heap.size, w.heap.size, false, rfl, ⟨kn.keep f3 zs (by simp; exact n1), rn2.keep f3 rn2.sb.lt (by simp; exact n2), fun _ _ => rfl⟩, by simp, by simp⟩, (h2.pm.keepx f3 h2.sb).sub (fun j hj => by simp [hj]), by simp [h.sz], fun j hj => ?_⟩, ?_⟩
            · have e3 := f3.size
              rcases List.mem_cons.1 hj with e | e
              · omega
              · rcases List.mem_cons.1 e with e | e
                · omega
                · have := h2.lt j e
                  omega
            · refine ⟨(((Fr.of_below b1).mono (Nat.le_refl _) (by simp)).trans (fa.mono b3 (by simp))).trans (frz f3 (by omega) h.sz), fun j hj => ?_⟩
              rcases List.mem_cons.1 hj with e | e
              · exact Or.inr (by omega)
              · rcases List.mem_cons.1 e with e | e
                · exact Or.inr (by omega)
                · exact Or.inl e
          generalize nn up = n at *
          clear h i1 i2 e nl
          go_enter Try.func24, Try.ntmps24
          go_wp2_with fail
          refine (C1.out _).mono ?_
          rintro e w1 ⟨rfl, rfl⟩
          go_wp2_with fail
          refine (C2.out _).mono ?_
          rintro e w1 ⟨rfl, rfl⟩
          go_wp2_with fail
          refine (C3.out _).mono ?_
          rintro e w1 ⟨rfl, rfl⟩
          go_wp2_with fail
          refine (C4.out ()).mono ?_
          rintro e w2 ⟨rfl, q2, b2⟩
          obtain ⟨g0, g1, g2, g4, g3⟩ := HH.out w2 q2 b2
          have G3 : Hid _ := g3
          clear q2 b2 g3 HH H
          go_wp2
          go_ret
          exact ⟨rfl, G3.out⟩
set_option maxRecDepth 100000 in
set_option maxHeartbeats 1000000 in
theorem hdone_any {s : Nat} {Z : List Nat} {R : Option Rq} {P : Int → Bool} {N : Nat} (w : World) (h : PD w s Z R P N) :
    Calls Try.prog 28 #[.pointer (some ⟨s, 0, none⟩)] w fun e w' => e = .returned (.int .i64 (doE R)) ∧ ∃ Z', PD w' s Z' (doR R) P N ∧ Mz w w' Z Z' := by
  have H : Hid (PD w s Z R P N) := h
  obtain ⟨nv, mv, h⟩ := h
  have c0 := h.c0
  have pn := h.pn
  cases R with
  | none =>
    obtain rfl : nv = .pointer none := pn
    have C : Hid (∀ _ : Unit, _) := fun _ => hthere_none w c0
    show Calls _ _ _ _ fun e w' => e = .returned (.int .i64 12) ∧ ∃ Z', PD w' s Z' none P N ∧ Mz w w' Z Z'
    clear h c0
    go_enter Try.func28, Try.ntmps28
    go_wp2_with fail
    refine (C.out ()).mono ?_
    rintro e w1 ⟨z, rfl, k1, b1⟩
    have B1 : Hid (Below w.heap.size w w1) := b1
    clear k1 b1
    go_wp2
    go_ret
    exact ⟨rfl, Z, H.out.below B1.out, Mz.of_below B1.out (fun _ h => h)⟩
  | some r =>
    obtain ⟨q, b, t, rfl, k, hq, hb⟩ := pn
    have C : Hid (∀ _ : Unit, _) := fun _ => hthere_some w c0
    show Calls _ _ _ _ fun e w' => e = .returned (.int .i64 (dnE (nn r.up) r.d r.bk)) ∧ ∃ Z', PD w' s Z' (some ⟨r.up, r.cpu, r.co, dnD (nn r.up) r.d r.bk, r.bk, false⟩) P N ∧ Mz w w' Z Z'
    obtain ⟨h1, k1, f1⟩ := pd_told (r' := ⟨r.up, r.cpu, r.co, r.d, r.bk, false⟩) (x := false) h k hq hb ⟨rfl, rfl, rfl, rfl, rfl⟩ (fun _ _ => rfl)
    have d4 := k.c4
    have e4 := k.f4
    have g0 := k1.c0
    have A : Hid (∀ _ : Unit, _) := fun _ => gdone_any _ k1.rn
    have E : Hid (∀ w', RN w' b (nn r.up) (dnD (nn r.up) r.d r.bk) r.bk → Fr (w.setCell ⟨q, 4, none⟩ (.bool false)).heap.size [b] (w.setCell ⟨q, 4, none⟩ (.bool false)) w' → ∃ Z', PD w' s Z' (some ⟨r.up, r.cpu, r.co, dnD (nn r.up) r.d r.bk, r.bk, false⟩) P N ∧ Mz w w' Z Z') := fun w' rn f =>
      ⟨Z, ⟨_, _, (pd_run (r' := ⟨r.up, r.cpu, r.co, dnD (nn r.up) r.d r.bk, r.bk, false⟩) h1 k1 hq hb rn f ⟨rfl, rfl, rfl, rfl, rfl⟩ (fun _ _ => rfl)).1⟩, (frz f1 (Nat.le_refl _) hq).trans (frz f f1.size hb), fun _ h => Or.inl h⟩
    generalize dnE (nn r.up) r.d r.bk = ee at *
    generalize dnD (nn r.up) r.d r.bk = dd at *
    clear h h1 k k1 f1 c0 H
    go_enter Try.func28, Try.ntmps28
    go_wp2_with fail
    refine (C.out ()).mono ?_
    rintro e w1 ⟨rfl, rfl⟩
    go_wp2_with fail
    refine (A.out ()).mono ?_
    rintro e w2 ⟨rfl, q2, f2⟩
    have G2 : Hid _ := E.out w2 q2 f2
    clear q2 f2 A E
    go_wp2
    go_ret
    exact ⟨rfl, G2.out⟩
theorem hdone_nil (w : World) : Calls Try.prog 28 #[.pointer none] w fun e w' => e = .returned (.int .i64 1) ∧ Below w.heap.size w w' := by
  have C : Hid (∀ _ : Unit, _) := fun _ => hthere_nil w
  go_enter Try.func28, Try.ntmps28
  go_wp2_with fail
  refine (C.out ()).mono ?_
  rintro e w1 ⟨z, rfl, k1, b1⟩
  have B1 : Hid (Below w.heap.size w w1) := b1
  clear k1 b1
  go_wp2
  go_ret
  exact ⟨rfl, B1.out⟩
set_option maxRecDepth 100000 in
set_option maxHeartbeats 1000000 in
theorem hend_any {s : Nat} {Z : List Nat} {R : Option Rq} {P : Int → Bool} {N : Nat} (w : World) (h : PD w s Z R P N) :
    Calls Try.prog 30 #[.pointer (some ⟨s, 0, none⟩)] w fun e w' => e = .returned (.tuple #[.int .i64 (enW R), .int .i64 (enE R)]) ∧ ∃ Z', PD w' s Z' (enR R) P N ∧ Mz w w' Z Z' := by
  have H : Hid (PD w s Z R P N) := h
  have V : Hid (∀ _ : Unit, _) := fun _ => hover_any w h
  obtain ⟨nv, mv, h⟩ := h
  have c0 := h.c0
  have pn := h.pn
  cases R with
  | none =>
    obtain rfl : nv = .pointer none := pn
    have C : Hid (∀ _ : Unit, _) := fun _ => hthere_none w c0
    show Calls _ _ _ _ fun e w' => e = .returned (.tuple #[.int .i64 0, .int .i64 12]) ∧ ∃ Z', PD w' s Z' none P N ∧ Mz w w' Z Z'
    clear h c0 V
    go_enter Try.func30, Try.ntmps30
    go_wp2_with fail
    refine (C.out ()).mono ?_
    rintro e w1 ⟨z, rfl, k1, b1⟩
    have B1 : Hid (Below w.heap.size w w1) := b1
    clear k1 b1
    go_wp2
    go_ret2
    exact ⟨rfl, Z, H.out.below B1.out, Mz.of_below B1.out (fun _ h => h)⟩
  | some r =>
    obtain ⟨q, b, t, rfl, k, hq, hb⟩ := pn
    have C : Hid (∀ _ : Unit, _) := fun _ => hthere_some w c0
    unfold enW enE enR
    unfold rov at V
    dsimp only at V ⊢
    have hy : ov (nn r.up) r.d r.bk = true → whE (nn r.up) r.d r.bk = if r.bk then 11 else 0 := fun e => by unfold whE; rw [if_pos e]
    have K : Hid (∀ w1, Below w.heap.size w w1 → w1.cell? ⟨s, 0, none⟩ = some (.pointer (some ⟨q, 0, none⟩)) ∧ w1.frozen? ⟨s, 0, none⟩ = false ∧ (w1.setCell ⟨s, 0, none⟩ (.pointer none)).cell? ⟨q, 0, none⟩ = some (.pointer (some ⟨b, 0, none⟩)) ∧ RN (w1.setCell ⟨s, 0, none⟩ (.pointer none)) b (nn r.up) r.d r.bk ∧ PD (w1.setCell ⟨s, 0, none⟩ (.pointer none)) s Z none P N ∧ Fr w.heap.size Z w (w1.setCell ⟨s, 0, none⟩ (.pointer none))) := fun w1 b1 => by
      have h1 := h.keep (Fr.of_below b1) (fun j hj => ⟨h.lt j hj, by simp⟩)
      have k1 := k.keep (Fr.of_below b1) ⟨h.lt q hq, by simp⟩ ⟨h.lt b hb, by simp⟩
      have f1 : Fr w1.heap.size [s] w1 (w1.setCell ⟨s, 0, none⟩ (.pointer none)) := (Fr.refl _ _ _).setCell (Or.inr (by simp)) _
      have n1 : q ≠ s := k1.sb.ne h1.sb (by decide)
      have n2 : b ≠ s := k1.rn.sb.ne h1.sb (by decide)
      have k2 := k1.keep f1 ⟨k1.sb.lt, by simp; exact n1⟩ ⟨k1.rn.sb.lt, by simp; exact n2⟩
      exact ⟨h1.c0, h1.f0, k2.c0, k2.rn, ⟨_, _, h1.sb.set 0 _, rfl, h1.pm.keepx f1 h1.sb, h.sz, fun j hj => Nat.lt_of_lt_of_le (h1.lt j hj) f1.size⟩, ((Fr.of_below b1).mono (Nat.le_refl _) (by simp)).trans (frz f1 b1.size h.sz)⟩
    cases e : ov (nn r.up) r.d r.bk
    · rw [e] at V
      rw [if_neg (by simp), if_neg (by simp), if_neg (by simp)]
      clear h k c0 hy e K
      go_enter Try.func30, Try.ntmps30
      go_wp2_with fail
      refine (C.out ()).mono ?_
      rintro e w1 ⟨rfl, rfl⟩
      go_wp2_with fail
      refine (V.out ()).mono ?_
      rintro e w2 ⟨rfl, b2⟩
      have B2 : Hid (Below w1.heap.size w1 w2) := b2
      clear b2
      go_wp2
      go_ret2
      exact ⟨rfl, Z, H.out.below B2.out, Mz.of_below B2.out (fun _ h => h)⟩
    · rw [e] at V
      rw [if_pos rfl, if_pos rfl, if_pos rfl]
      have A : Hid (∀ w1, RN w1 b (nn r.up) r.d r.bk → _) := fun w1 q => gwhy_any w1 q
      rw [hy e] at A
      generalize (if r.bk = true then (11 : Int) else 0) = ee at *
      clear h k c0 hy e H
      go_enter Try.func30, Try.ntmps30
      go_wp2_with fail
      refine (C.out ()).mono ?_
      rintro e w1 ⟨rfl, rfl⟩
      go_wp2_with fail
      refine (V.out ()).mono ?_
      rintro e w2 ⟨rfl, b2⟩
      obtain ⟨g0, g1, g2, g3, g4⟩ := K.out w2 b2
      have A2 : Hid (∀ _ : Unit, _) := fun _ => A.out _ g3
      have G4 : Hid _ := g4
      clear b2 K g3 g4 A V
      go_wp2_with fail
      refine (A2.out ()).mono ?_
      rintro e w3 ⟨rfl, m3⟩
      have B3 : Hid (Below (w2.setCell ⟨s, 0, none⟩ (.pointer none)).heap.size (w2.setCell ⟨s, 0, none⟩ (.pointer none)) w3) := m3.below (Below.refl _ _)
      clear m3
      go_wp2
      go_ret2
      have b3 := B3.out
      exact ⟨rfl, Z, G4.out.1.below b3, G4.out.2.trans ((Fr.of_below b3).mono G4.out.2.size (by simp)), fun _ h => Or.inl h⟩
theorem hend_nil (w : World) : Calls Try.prog 30 #[.pointer none] w fun e w' => e = .returned (.tuple #[.int .i64 0, .int .i64 1]) ∧ Below w.heap.size w w' := by
  have C : Hid (∀ _ : Unit, _) := fun _ => hthere_nil w
  go_enter Try.func30, Try.ntmps30
  go_wp2_with fail
  refine (C.out ()).mono ?_
  rintro e w1 ⟨z, rfl, k1, b1⟩
  have B1 : Hid (Below w.heap.size w w1) := b1
  clear k1 b1
  go_wp2
  go_ret2
  exact ⟨rfl, B1.out⟩
theorem hplan_nil (k : Int) (w : World) : Calls Try.prog 22 #[.pointer none, .int .i64 k] w fun e w' => e = .returned (.int .i64 1) ∧ w' = w := by
  go_enter Try.func22, Try.ntmps22
  go_wp2
  go_ret
  exact ⟨rfl, rfl⟩
theorem hbegin_nil (up : Bool) (c y : Int) (w : World) : Calls Try.prog 24 #[.pointer none, .bool up, .int .i64 c, .int .i64 y] w fun e w' => e = .returned (.int .i64 1) ∧ w' = w := by
  go_enter Try.func24, Try.ntmps24
  go_wp2
  go_ret
  exact ⟨rfl, rfl⟩
end Go.Proofs.Ytaaikbehdfkhlaa
