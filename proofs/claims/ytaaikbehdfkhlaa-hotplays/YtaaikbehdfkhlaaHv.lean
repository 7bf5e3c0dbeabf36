/- The document's desk as it lies in memory (davitref22); what its Fails, Begin, Over, may, Done and End answer and leave, for every one. -/
import Derived.Test.YtaaikbehdfkhlaaRb
import Derived.Test.YtaaikbehdfkhlaaHp
import Derived.Test.YtaaikbehdfkhlaaHw
import Derived.Test.YtaaikbehdfkhlaaFd
namespace Go.Proofs.Ytaaikbehdfkhlaa
open Go.ChangeShapes Go.WideShapes Go.ChangeAt Go.RowKit
open Rm Hp

/-- The document's request, in blocks of Y. -/
def DN (w : World) (Y : List Nat) (nv : Value) (t : Bool) : Option Rq → Prop
  | none => nv = .pointer none
  | some r => ∃ x l, nv = .pointer (some ⟨x, 0, none⟩) ∧ RD w x l (nn r.up) r.d r.bk ∧ x ∈ Y ∧ l ∈ Y ∧ Tel r t
/-- The document's desk at block r, all that it has in blocks of Y; planned are those of L. -/
structure DD1 (w : World) (r : Nat) (Y : List Nat) (nv : Value) (t : Bool) (v : Value) (L : List Int) (R : Option Rq) (P : Int → Bool) (N : Nat) : Prop where
  sb : Blk w r [nv, .bool (ups R), .int .i64 (cps R), .int .i64 (cos R), .bool t, v] 47
  dn : DN w Y nv t R
  lv : Lv w v L
  pl : ∀ j, P j = decide (j ∈ L)
  ln : L.length ≤ N
  vy : ∀ g ∈ vb v, g ∈ Y
  ry : r ∈ Y
  lt : ∀ k ∈ Y, k < w.heap.size
def DD (w : World) (r : Nat) (Y : List Nat) (R : Option Rq) (P : Int → Bool) (N : Nat) : Prop := ∃ nv t v L, DD1 w r Y nv t v L R P N
/-- What a call leaves as it was, and where its blocks are from then on. -/
def My (w w' : World) (Z Z' : List Nat) : Prop := Fr w.heap.size Z w w' ∧ ∀ k ∈ Z', k ∈ Z ∨ w.heap.size ≤ k

section
variable {w w1 : World} {r : Nat} {Y : List Nat} {nv v : Value} {t : Bool} {L : List Int} {R : Option Rq} {P : Int → Bool} {N : Nat}
theorem DN.keep {B : Nat} {S : List Nat} (h : DN w Y nv t R) (f : Fr B S w w1) (hz : ∀ k ∈ Y, k < B ∧ k ∉ S) : DN w1 Y nv t R := by
  cases R with
  | none => exact h
  | some r =>
    obtain ⟨x, l, e, k, h1, h2, h3⟩ := h
    exact ⟨x, l, e, k.keep f (hz x h1).1 (hz x h1).2 (hz l h2).1 (hz l h2).2, h1, h2, h3⟩
theorem DN.sub {Y2 : List Nat} (h : DN w Y nv t R) (hz : ∀ k ∈ Y, k ∈ Y2) : DN w Y2 nv t R := by
  cases R with
  | none => exact h
  | some r =>
    obtain ⟨x, l, e, k, h1, h2, h3⟩ := h
    exact ⟨x, l, e, k, hz x h1, hz l h2, h3⟩
/-- It stays where what turned is no run's block. -/
theorem DN.keepx {S : List Nat} (h : DN w Y nv t R) (f : Fr w.heap.size S w w1) (hx : ∀ q cs, Blk w q cs 67 → q ∉ S) (hx2 : ∀ b cs, Blk w b cs 4 → b ∉ S) : DN w1 Y nv t R := by
  cases R with
  | none => exact h
  | some r =>
    obtain ⟨x, l, e, k, h1, h2, h3⟩ := h
    exact ⟨x, l, e, k.keep f k.sb.lt (hx _ _ k.sb) k.sl.lt (hx2 _ _ k.sl), h1, h2, h3⟩
theorem DD1.keep {B : Nat} {S : List Nat} (h : DD1 w r Y nv t v L R P N) (f : Fr B S w w1) (hB : w.heap.size ≤ B) (hz : ∀ k ∈ Y, k ∉ S) : DD1 w1 r Y nv t v L R P N :=
  ⟨h.sb.keep f (Nat.lt_of_lt_of_le (h.lt r h.ry) hB) (hz r h.ry), h.dn.keep f (fun k hk => ⟨Nat.lt_of_lt_of_le (h.lt k hk) hB, hz k hk⟩), h.lv.keep f hB (fun g hg => hz g (h.vy g hg)), h.pl, h.ln, h.vy, h.ry, fun k hk => Nat.lt_of_lt_of_le (h.lt k hk) f.size⟩
theorem DD.keep {B : Nat} {S : List Nat} (h : DD w r Y R P N) (f : Fr B S w w1) (hB : w.heap.size ≤ B) (hz : ∀ k ∈ Y, k ∉ S) : DD w1 r Y R P N := by
  obtain ⟨nv, t, v, L, h⟩ := h
  exact ⟨nv, t, v, L, h.keep f hB hz⟩
theorem DD.below (h : DD w r Y R P N) (f : Below w.heap.size w w1) : DD w1 r Y R P N := h.keep (Fr.of_below f) (Nat.le_refl _) (by simp)
theorem DD.up {N2 : Nat} (h : DD w r Y R P N) (hn : N ≤ N2) : DD w r Y R P N2 := by
  obtain ⟨nv, t, v, L, h⟩ := h
  exact ⟨nv, t, v, L, h.sb, h.dn, h.lv, h.pl, Nat.le_trans h.ln hn, h.vy, h.ry, h.lt⟩
theorem DD1.c0 (h : DD1 w r Y nv t v L R P N) : w.cell? ⟨r, 0, none⟩ = some nv := h.sb.cell 0
theorem DD1.c1 (h : DD1 w r Y nv t v L R P N) : w.cell? ⟨r, 1, none⟩ = some (.bool (ups R)) := h.sb.cell 1
theorem DD1.c2 (h : DD1 w r Y nv t v L R P N) : w.cell? ⟨r, 2, none⟩ = some (.int .i64 (cps R)) := h.sb.cell 2
theorem DD1.c3 (h : DD1 w r Y nv t v L R P N) : w.cell? ⟨r, 3, none⟩ = some (.int .i64 (cos R)) := h.sb.cell 3
theorem DD1.c4 (h : DD1 w r Y nv t v L R P N) : w.cell? ⟨r, 4, none⟩ = some (.bool t) := h.sb.cell 4
theorem DD1.c5 (h : DD1 w r Y nv t v L R P N) : w.cell? ⟨r, 5, none⟩ = some v := h.sb.cell 5
theorem DD1.f (h : DD1 w r Y nv t v L R P N) (i : Nat) : w.frozen? ⟨r, i, none⟩ = false := h.sb.free i
theorem My.refl (w : World) (Y : List Nat) : My w w Y Y := ⟨Fr.refl _ _ _, fun _ h => Or.inl h⟩
theorem fry {w2 : World} {x : Nat} (f : Fr w1.heap.size [x] w1 w2) (hw : w.heap.size ≤ w1.heap.size) (hx : x ∈ Y) : Fr w.heap.size Y w1 w2 := f.mono hw fun k _ hk hm => hk (by simp at hm; subst hm; exact hx)
/-- The list of what is planned has turned: v' and its block are at hand already. -/
theorem dd_list {X : World} {v' : Value} {L' : List Int} {P' : Int → Bool} {N' : Nat} {S : List Nat} (h : DD1 w r Y nv t v L R P N) (f : Fr w.heap.size S w X) (hS : ∀ g ∈ S, g ∈ vb v) (lv : Lv X v' L') (new : ∀ g ∈ vb v', g ∈ vb v ∨ w.heap.size ≤ g) (pl : ∀ j, P' j = decide (j ∈ L')) (ln : L'.length ≤ N') :
    X.cell? ⟨r, 5, none⟩ = some v ∧ X.frozen? ⟨r, 5, none⟩ = false ∧ DD1 (X.setCell ⟨r, 5, none⟩ v') r (vb v' ++ Y) nv t v' L' R P' N' ∧ My w (X.setCell ⟨r, 5, none⟩ v') Y (vb v' ++ Y) := by
  have nr : r ∉ S := fun e => h.lv.not h.sb (by decide) (hS r e)
  have sb := h.sb.keep f h.sb.lt nr
  have dn := h.dn.keepx f (fun q cs k e => h.lv.not k (by decide) (hS q e)) (fun q cs k e => h.lv.not k (by decide) (hS q e))
  have f2 : Fr X.heap.size [r] X (X.setCell ⟨r, 5, none⟩ v') := (Fr.refl _ _ _).setCell (Or.inr (by simp)) _
  have nv' : r ∉ vb v' := lv.not sb (by decide)
  have z2 := f2.size
  have z1 := f.size
  refine ⟨sb.cell 5, sb.free 5, ⟨sb.set 5 _, ?_, lv.keep f2 (Nat.le_refl _) (fun g hg e => nv' (by simp at e; exact e ▸ hg)), pl, ln, fun g hg => List.mem_append_left _ hg, List.mem_append_right _ h.ry, fun k hk => ?_⟩, ?_, fun k hk => ?_⟩
  · exact (dn.keepx f2 (fun q cs k e => k.ne sb (by decide) (by simpa using e)) (fun q cs k e => k.ne sb (by decide) (by simpa using e))).sub (fun k hk => List.mem_append_right _ hk)
  · rcases List.mem_append.1 hk with e | e
    · have := lv.lt k e
      omega
    · have := h.lt k e
      omega
  · exact (f.mono (Nat.le_refl _) fun k _ hk hm => hk (h.vy k (hS k hm))).trans (fry f2 z1 h.ry)
  · rcases List.mem_append.1 hk with e | e
    · rcases new k e with e | e
      · exact Or.inl (h.vy k e)
      · exact Or.inr e
    · exact Or.inl e
/-- Whether the next stage was told has turned. -/
theorem dd_told {x : Bool} {R' : Option Rq} (h : DD1 w r Y nv t v L R P N) (dn : DN (w.setCell ⟨r, 4, none⟩ (.bool x)) Y nv x R') (e : ups R' = ups R ∧ cps R' = cps R ∧ cos R' = cos R) : DD1 (w.setCell ⟨r, 4, none⟩ (.bool x)) r Y nv x v L R' P N ∧ Fr w.heap.size Y w (w.setCell ⟨r, 4, none⟩ (.bool x)) := by
  have f2 : Fr w.heap.size [r] w (w.setCell ⟨r, 4, none⟩ (.bool x)) := (Fr.refl _ _ _).setCell (Or.inr (by simp)) _
  have nr : r ∉ vb v := h.lv.not h.sb (by decide)
  refine ⟨⟨?_, dn, h.lv.keep f2 (Nat.le_refl _) (fun g hg e => nr (by simp at e; exact e ▸ hg)), h.pl, h.ln, h.vy, h.ry, fun k hk => Nat.lt_of_lt_of_le (h.lt k hk) f2.size⟩, fry f2 (Nat.le_refl _) h.ry⟩
  obtain ⟨e1, e2, e3⟩ := e
  rw [e1, e2, e3]
  exact h.sb.set 4 _
/-- The run has turned. -/
theorem dd_run {x l : Nat} {R' : Option Rq} (h : DD1 w r Y nv t v L R P N) (f : Fr w.heap.size [x, l] w w1) (hx : x ∈ Y) (hl : l ∈ Y) (nx : r ≠ x) (nl : r ≠ l) (vx : x ∉ vb v) (vl : l ∉ vb v) (dn : DN w1 Y nv t R') (e : ups R' = ups R ∧ cps R' = cps R ∧ cos R' = cos R) : DD1 w1 r Y nv t v L R' P N ∧ Fr w.heap.size Y w w1 := by
  refine ⟨⟨?_, dn, h.lv.keep f (Nat.le_refl _) (fun g hg e => ?_), h.pl, h.ln, h.vy, h.ry, fun k hk => Nat.lt_of_lt_of_le (h.lt k hk) f.size⟩, f.mono (Nat.le_refl _) fun k _ hk hm => hk ?_⟩
  · obtain ⟨e1, e2, e3⟩ := e
    rw [e1, e2, e3]
    exact h.sb.keep f h.sb.lt (by simp; exact ⟨nx, nl⟩)
  · simp at e
    rcases e with e | e
    · exact vx (e ▸ hg)
    · exact vl (e ▸ hg)
  · simp at hm
    rcases hm with e | e
    · exact e ▸ hx
    · exact e ▸ hl
end

theorem wpList_runh {P : Program} {w w' : World} {ops : Array Oper} {rest : List Oper} {o : Oper} {a : Act} {Q : Exit → Act → World → Prop} {v u v' : Value}
    (hg : o.guard = none) (s x : Operand) (t : TypeId) (hop : o.op = Op.call { callee := Callee.builtin Builtin.append, args := #[s, x], argTypes := #[t, t] }) (hs : a.eval s = v) (hx : a.eval x = u)
    (hrun : (Builtin.append_ #[t, t] o.type #[v, u]).run P w = .ok v' w') (hK : wpList P ops Q rest (a.put o.dst v') w') : wpList P ops Q (o :: rest) a w := by
  refine wpList_plain hg fun K hK' => ?_
  unfold Oper.wp
  simp [execOp, hop, resolve, invoke, builtin, hs, hx, hrun, Result.andThen]
  exact hK' _ _ hK
theorem pl_in {P : Int → Bool} {L : List Int} {k : Int} (h : ∀ j, P j = decide (j ∈ L)) (hk : k ∈ L) : (fun j => decide (j = k) || P j) = P := by
  funext j
  by_cases e : j = k
  · subst e
    simp [h, hk]
  · simp [e]
theorem pl_add {P : Int → Bool} {L : List Int} {k : Int} (h : ∀ j, P j = decide (j ∈ L)) (j : Int) : (decide (j = k) || P j) = decide (j ∈ L ++ [k]) := by
  rw [h]
  by_cases e : j = k
  · simp [e]
  · simp [e]
theorem pl_del {P : Int → Bool} {L : List Int} {k : Int} (h : ∀ j, P j = decide (j ∈ L)) (j : Int) : (!decide (j = k) && P j) = decide (j ∈ Fm.wo L k) := by
  rw [h]
  unfold Fm.wo
  by_cases e : j = k
  · simp [e]
  · simp [e]

set_option maxRecDepth 100000 in
set_option maxHeartbeats 1000000 in
theorem rfails_any {r : Nat} {Y : List Nat} {R : Option Rq} {P : Int → Bool} {N : Nat} (k : Int) (w : World) (h : DD w r Y R P N) (hn : N ≤ 900) :
    Calls Try.prog 23 #[.pointer (some ⟨r, 0, none⟩), .int .i64 k] w fun e w' => e = .returned (.int .i64 (plE k)) ∧ ∃ Y', DD w' r Y' R (plP P k) (N + 1) ∧ My w w' Y Y' := by
  by_cases c : k < 0 ∨ 10 ≤ k
  · rw [plE_no c, plP_no c]
    have H : Hid (DD w r Y R P (N + 1)) := h.up (by omega)
    clear h
    rcases c with c | c
    all_goals (
      try (have c2 : ¬ k < 0 := by omega)
      go_enter Try.func23, Try.ntmps23
      go_wp2
      go_ret
      exact ⟨rfl, Y, H.out, My.refl _ _⟩)
  · have k0 : 0 ≤ k := by omega
    have k1 : k < 10 := by omega
    rw [plE_yes k0 k1, plP_yes k0 k1]
    have H : Hid (DD w r Y R P N) := h
    obtain ⟨nv, t, v, L, h⟩ := h
    have C : Hid (∀ _ : Unit, _) := fun _ => rhas_any L v k w (by have := h.ln; omega) h.lv.row
    have c5 := h.c5
    have f5 := h.f 5
    clear c
    by_cases m : k ∈ L
    · rw [decide_eq_true m] at C
      rw [pl_in h.pl m]
      clear h m
      go_enter Try.func23, Try.ntmps23
      go_wp2_with fail
      refine (C.out ()).mono ?_
      rintro e w1 ⟨rfl, rfl⟩
      go_wp2
      go_ret
      exact ⟨rfl, Y, H.out.up (by omega), My.refl _ _⟩
    · rw [decide_eq_false m] at C
      have fa : Fr w.heap.size [] w (w.alloc (.cells #[.int .i64 k] 3)) := (Fr.refl _ _ _).alloc (Nat.le_refl _) _
      have h1 := h.keep fa (Nat.le_refl _) (by simp)
      obtain ⟨v2, w2, r2, hA⟩ := run_app (w.alloc (.cells #[.int .i64 k] 3)) 45 k h1.lv (by have := h.ln; omega) ⟨w.heap.size, 0, none⟩ 1 ((Blk.new w [.int .i64 k] 3).cell 0)
      obtain ⟨p, cap, rfl⟩ := app_shape hA
      obtain ⟨af, an⟩ := app_fr hA
      obtain ⟨g1, g2, g3, g4⟩ := dd_list (N' := N + 1) h1 af (fun _ h => h) (app_self h1.lv hA) an (pl_add (k := k) h.pl) (by have := h.ln; simp; omega)
      have G : Hid (∃ Y', DD (w2.setCell ⟨r, 5, none⟩ (.slice p (L.length + 1) cap)) r Y' R (fun j => decide (j = k) || P j) (N + 1) ∧ My w (w2.setCell ⟨r, 5, none⟩ (.slice p (L.length + 1) cap)) Y Y') := by
        refine ⟨_, ⟨_, _, _, _, g3⟩, (fa.mono (Nat.le_refl _) (by simp)).trans (g4.1.less fa.size), fun j hj => ?_⟩
        rcases g4.2 j hj with e | e
        · exact Or.inl e
        · have := fa.size
          exact Or.inr (by omega)
      have y5 := h1.c5
      obtain ⟨a, cap0, ev⟩ := h.lv.shape
      subst ev
      have R2 : Hid _ := r2
      clear h h1 m fa hA af an g3 g4 H r2
      go_enter Try.func23, Try.ntmps23
      go_wp2_with fail
      refine (C.out ()).mono ?_
      rintro e w1 ⟨rfl, rfl⟩
      go_wp2_with (at_builtin; refine wpList_runh rfl (.tmp 22) (.tmp 24) 45 rfl rfl rfl R2.out ?_)
      go_ret
      exact ⟨rfl, G.out⟩
set_option maxHeartbeats 400000 in
theorem rover_any {r : Nat} {Y : List Nat} {R : Option Rq} {P : Int → Bool} {N : Nat} (w : World) (h : DD w r Y R P N) :
    Calls Try.prog 37 #[.pointer (some ⟨r, 0, none⟩)] w fun e w' => e = .returned (.bool (rov R)) ∧ w' = w := by
  obtain ⟨nv, t, v, L, h⟩ := h
  have c0 := h.c0
  have dn := h.dn
  cases R with
  | none =>
    obtain rfl : nv = .pointer none := dn
    show Calls _ _ _ _ fun e w' => e = .returned (.bool false) ∧ _
    clear h
    go_enter Try.func37, Try.ntmps37
    go_wp2
    go_ret
    exact ⟨rfl, rfl⟩
  | some q =>
    obtain ⟨x, l, rfl, k, _⟩ := dn
    have A : Hid (∀ _ : Unit, _) := fun _ => dat_any w k
    show Calls _ _ _ _ fun e w' => e = .returned (.bool (ov (nn q.up) q.d q.bk)) ∧ _
    generalize ov (nn q.up) q.d q.bk = y at *
    generalize atK (nn q.up) q.d q.bk = z at *
    clear h k
    go_enter Try.func37, Try.ntmps37
    go_wp2_with fail
    refine (A.out ()).mono ?_
    rintro e w1 ⟨rfl, rfl⟩
    go_wp2
    go_ret
    exact ⟨rfl, rfl⟩
set_option maxHeartbeats 400000 in
theorem rmay_any {r : Nat} {Y : List Nat} {R : Option Rq} {P : Int → Bool} {N : Nat} (w : World) (h : DD w r Y R P N) :
    Calls Try.prog 43 #[.pointer (some ⟨r, 0, none⟩)] w fun e w' => e = .returned (.int .i64 (nxE R)) ∧ w' = w := by
  have V : Hid (∀ _ : Unit, _) := fun _ => rover_any w h
  obtain ⟨nv, t, v, L, h⟩ := h
  have c0 := h.c0
  have dn := h.dn
  cases R with
  | none =>
    obtain rfl : nv = .pointer none := dn
    show Calls _ _ _ _ fun e w' => e = .returned (.int .i64 12) ∧ _
    clear h V
    go_enter Try.func43, Try.ntmps43
    go_wp2
    go_ret
    exact ⟨rfl, rfl⟩
  | some q =>
    obtain ⟨x, l, rfl, k, _⟩ := dn
    unfold rov at V
    unfold nxE
    dsimp only at V ⊢
    clear h k
    cases e : ov (nn q.up) q.d q.bk
    · rw [e] at V
      rw [if_neg (by simp)]
      clear e
      go_enter Try.func43, Try.ntmps43
      go_wp2_with fail
      refine (V.out ()).mono ?_
      rintro e w1 ⟨rfl, rfl⟩
      go_wp2
      go_ret
      exact ⟨rfl, rfl⟩
    · rw [e] at V
      rw [if_pos rfl]
      clear e
      go_enter Try.func43, Try.ntmps43
      go_wp2_with fail
      refine (V.out ()).mono ?_
      rintro e w1 ⟨rfl, rfl⟩
      go_wp2
      go_ret
      exact ⟨rfl, rfl⟩
theorem isC_no {c : Int} (h : isC c = false) : c < 0 ∨ 63 < c := by
  unfold isC at h
  by_cases h1 : 0 ≤ c
  · simp [h1] at h
    omega
  · omega
theorem isC_yes {c : Int} (h : isC c = true) : 0 ≤ c ∧ c ≤ 63 := by
  unfold isC at h
  simp at h
  omega
set_option maxRecDepth 100000 in
set_option maxHeartbeats 1000000 in
theorem rbegin_any {r : Nat} {Y : List Nat} {R : Option Rq} {P : Int → Bool} {N : Nat} (up : Bool) (c y : Int) (w : World) (h : DD w r Y R P N) :
    Calls Try.prog 25 #[.pointer (some ⟨r, 0, none⟩), .bool up, .int .i64 c, .int .i64 y] w fun e w' => e = .returned (.int .i64 (beE R c y)) ∧ ∃ Y', DD w' r Y' (beR R up c y) P N ∧ My w w' Y Y' := by
  have H : Hid (DD w r Y R P N) := h
  obtain ⟨nv, t, v, L, h⟩ := h
  have c0 := h.c0
  have dn := h.dn
  cases R with
  | some q =>
    obtain ⟨x, l, rfl, _⟩ := dn
    rw [show beE (some q) c y = 7 from rfl, show beR (some q) up c y = some q from rfl]
    clear h
    go_enter Try.func25, Try.ntmps25
    go_wp2
    go_ret
    exact ⟨rfl, Y, H.out, My.refl _ _⟩
  | none =>
    obtain rfl : nv = .pointer none := dn
    cases i1 : isC c
    · rw [show beE none c y = 3 by simp [beE, i1], show beR none up c y = none by simp [beR, beE, i1]]
      clear h
      rcases isC_no i1 with b | b
      all_goals (
        try (have b2 : ¬ c < 0 := by omega)
        clear i1
        go_enter Try.func25, Try.ntmps25
        go_wp2
        go_ret
        exact ⟨rfl, Y, H.out, My.refl _ _⟩)
    · obtain ⟨b1, b2⟩ := isC_yes i1
      have b3 : ¬ c < 0 := by omega
      have b4 : ¬ 63 < c := by omega
      cases i2 : isC y
      · rw [show beE none c y = 3 by simp [beE, i2], show beR none up c y = none by simp [beR, beE, i2]]
        clear h i1
        rcases isC_no i2 with b | b
        all_goals (
          try (have b5 : ¬ y < 0 := by omega)
          clear i2
          go_enter Try.func25, Try.ntmps25
          go_wp2
          go_ret
          exact ⟨rfl, Y, H.out, My.refl _ _⟩)
      · obtain ⟨b5, b6⟩ := isC_yes i2
        have b7 : ¬ y < 0 := by omega
        have b8 : ¬ 63 < y := by omega
        by_cases e : c = y
        · rw [show beE none c y = 2 by simp [beE, i2, e], show beR none up c y = none by simp [beR, beE, i2, e]]
          have ec : (c == y) = true := by simpa using e
          clear h i1 i2 e
          go_enter Try.func25, Try.ntmps25
          go_wp2
          go_ret
          exact ⟨rfl, Y, H.out, My.refl _ _⟩
        · rw [show beE none c y = 0 by simp [beE, i1, i2, e], show beR none up c y = some ⟨up, c, y, 0, false, false⟩ by simp [beR, beE, i1, i2, e]]
          have ec : (c == y) = false := by simpa using e
          have nl := nn_le up
          have C4 : Hid (∀ _ : Unit, _) := fun _ => dnew_any (nn up) w (by omega) (by omega)
          have HH : Hid (∀ w1, RD w1 (w.heap.size + 1) w.heap.size (nn up) 0 false → Below w.heap.size w w1 → w1.cell? ⟨r, 0, none⟩ = some (.pointer none) ∧ w1.cell? ⟨r, 1, none⟩ = some (.bool false) ∧ w1.cell? ⟨r, 2, none⟩ = some (.int .i64 0) ∧ w1.cell? ⟨r, 3, none⟩ = some (.int .i64 0) ∧ w1.cell? ⟨r, 4, none⟩ = some (.bool t) ∧ (∀ i, w1.frozen? ⟨r, i, none⟩ = false) ∧ ∃ Y', DD (((((w1.setCell ⟨r, 0, none⟩ (.pointer (some ⟨w.heap.size + 1, 0, none⟩))).setCell ⟨r, 1, none⟩ (.bool up)).setCell ⟨r, 2, none⟩ (.int .i64 c)).setCell ⟨r, 3, none⟩ (.int .i64 y)).setCell ⟨r, 4, none⟩ (.bool false)) r Y' (some ⟨up, c, y, 0, false, false⟩) P N ∧ My w (((((w1.setCell ⟨r, 0, none⟩ (.pointer (some ⟨w.heap.size + 1, 0, none⟩))).setCell ⟨r, 1, none⟩ (.bool up)).setCell ⟨r, 2, none⟩ (.int .i64 c)).setCell ⟨r, 3, none⟩ (.int .i64 y)).setCell ⟨r, 4, none⟩ (.bool false)) Y Y') := fun w1 rn b1 => by
            have h1 := h.keep (Fr.of_below b1) (Nat.le_refl _) (by simp)
            refine ⟨h1.c0, h1.c1, h1.c2, h1.c3, h1.c4, h1.f, ?_⟩
            have f5 : Fr w1.heap.size [r] w1 (((((w1.setCell ⟨r, 0, none⟩ (.pointer (some ⟨w.heap.size + 1, 0, none⟩))).setCell ⟨r, 1, none⟩ (.bool up)).setCell ⟨r, 2, none⟩ (.int .i64 c)).setCell ⟨r, 3, none⟩ (.int .i64 y)).setCell ⟨r, 4, none⟩ (.bool false)) :=
              (((((Fr.refl w1.heap.size [r] w1).setCell (p := ⟨r, 0, none⟩) (Or.inr (by simp)) _).setCell (p := ⟨r, 1, none⟩) (Or.inr (by simp)) _).setCell (p := ⟨r, 2, none⟩) (Or.inr (by simp)) _).setCell (p := ⟨r, 3, none⟩) (Or.inr (by simp)) _).setCell (p := ⟨r, 4, none⟩) (Or.inr (by simp)) _
            have sb := ((((h1.sb.set 0 (.pointer (some ⟨w.heap.size + 1, 0, none⟩))).set 1 (.bool up)).set 2 (.int .i64 c)).set 3 (.int .i64 y)).set 4 (.bool false)
            obtain ⟨w2, ew2⟩ : ∃ w2, w2 = (((((w1.setCell ⟨r, 0, none⟩ (.pointer (some ⟨w.heap.size + 1, 0, none⟩))).setCell ⟨r, 1, none⟩ (.bool up)).setCell ⟨r, 2, none⟩ (.int .i64 c)).setCell ⟨r, 3, none⟩ (.int .i64 y)).setCell ⟨r, 4, none⟩ (.bool false)) := ⟨_, rfl⟩
            rw [← ew2] at f5 sb ⊢
            have n1 : w.heap.size + 1 ≠ r := by have := h.sb.lt; omega
            have n2 : w.heap.size ≠ r := by have := h.sb.lt; omega
            have nr : r ∉ vb v := h1.lv.not h1.sb (by decide)
            have z1 := b1.size
            have z2 := f5.size
            have z3 := rn.sb.lt
            refine ⟨(w.heap.size + 1) :: w.heap.size :: Y, ⟨_, false, v, L, sb, ⟨w.heap.size + 1, w.heap.size, rfl, rn.keep f5 rn.sb.lt (by simp; exact n1) rn.sl.lt (by simp; exact n2), by simp, by simp, fun _ _ => rfl⟩, h1.lv.keep f5 (Nat.le_refl _) (fun g hg e => nr (by simp at e; exact e ▸ hg)), h.pl, h.ln, fun g hg => by simp [h.vy g hg], by simp [h.ry], fun j hj => ?_⟩, ?_, fun j hj => ?_⟩
            · rcases List.mem_cons.1 hj with e | e
              · omega
              · rcases List.mem_cons.1 e with e | e
                · omega
                · have := h1.lt j e
                  omega
            · exact ((Fr.of_below b1).mono (Nat.le_refl _) (by simp)).trans (fry f5 z1 h.ry)
            · rcases List.mem_cons.1 hj with e | e
              · exact Or.inr (by omega)
              · rcases List.mem_cons.1 e with e | e
                · exact Or.inr (by omega)
                · exact Or.inl e
          clear h i1 i2 e nl H
          cases up
          all_goals (
            first | rw [show ((nn false : Nat) : Int) = 10 from rfl] at C4 | rw [show ((nn true : Nat) : Int) = 4 from rfl] at C4
            go_enter Try.func25, Try.ntmps25
            go_wp2_with fail
            refine (C4.out ()).mono ?_
            rintro e w2 ⟨rfl, q2, b2⟩
            obtain ⟨g0, g1, g2, g3, g4, gf, gg⟩ := HH.out w2 q2 b2
            have k0 := gf 0
            have k1 := gf 1
            have k2 := gf 2
            have k3 := gf 3
            have k4 := gf 4
            have G : Hid _ := gg
            clear q2 b2 gg HH gf C4
            go_wp2
            go_ret
            exact ⟨rfl, G.out⟩)
set_option maxRecDepth 100000 in
set_option maxHeartbeats 1000000 in
theorem rdone_any {r : Nat} {Y : List Nat} {R : Option Rq} {P : Int → Bool} {N : Nat} (w : World) (h : DD w r Y R P N) :
    Calls Try.prog 29 #[.pointer (some ⟨r, 0, none⟩)] w fun e w' => e = .returned (.int .i64 (doE R)) ∧ ∃ Y', DD w' r Y' (doR R) P N ∧ My w w' Y Y' := by
  have H : Hid (DD w r Y R P N) := h
  have V : Hid (∀ _ : Unit, _) := fun _ => rmay_any w h
  obtain ⟨nv, t, v, L, h⟩ := h
  have dn := h.dn
  cases R with
  | none =>
    obtain rfl : nv = .pointer none := dn
    show Calls _ _ _ _ fun e w' => e = .returned (.int .i64 12) ∧ ∃ Y', DD w' r Y' none P N ∧ My w w' Y Y'
    rw [show nxE none = 12 from rfl] at V
    clear h
    go_enter Try.func29, Try.ntmps29
    go_wp2_with fail
    refine (V.out ()).mono ?_
    rintro e w1 ⟨rfl, rfl⟩
    go_wp2
    go_ret
    exact ⟨rfl, Y, H.out, My.refl _ _⟩
  | some q =>
    obtain ⟨x, l, rfl, k, hx, hl, tel⟩ := dn
    unfold nxE at V
    unfold doE doR
    dsimp only at V ⊢
    cases e : ov (nn q.up) q.d q.bk
    · rw [e, if_neg (by simp)] at V
      have n1 : r ≠ x := h.sb.ne k.sb (by decide)
      have n2 : r ≠ l := h.sb.ne k.sl (by decide)
      have n3 : x ∉ vb v := h.lv.not k.sb (by decide)
      have n4 : l ∉ vb v := h.lv.not k.sl (by decide)
      have fs : Fr w.heap.size [r] w (w.setCell ⟨r, 4, none⟩ (.bool false)) := (Fr.refl _ _ _).setCell (Or.inr (by simp)) _
      have k2 := k.keep fs k.sb.lt (by simp; exact fun e => n1 e.symm) k.sl.lt (by simp; exact fun e => n2 e.symm)
      obtain ⟨h2, f2⟩ := dd_told (x := false) (R' := some ⟨q.up, q.cpu, q.co, q.d, q.bk, false⟩) h ⟨x, l, rfl, k2, hx, hl, fun _ _ => rfl⟩ ⟨rfl, rfl, rfl⟩
      have A : Hid (∀ _ : Unit, _) := fun _ => ddone_any _ k2
      have E : Hid (∀ w', RD w' x l (nn q.up) (dnD (nn q.up) q.d q.bk) q.bk → Fr (w.setCell ⟨r, 4, none⟩ (.bool false)).heap.size [x, l] (w.setCell ⟨r, 4, none⟩ (.bool false)) w' → ∃ Y', DD w' r Y' (some ⟨q.up, q.cpu, q.co, dnD (nn q.up) q.d q.bk, q.bk, false⟩) P N ∧ My w w' Y Y') := fun w' rn f => by
        obtain ⟨h3, f3⟩ := dd_run (R' := some ⟨q.up, q.cpu, q.co, dnD (nn q.up) q.d q.bk, q.bk, false⟩) h2 f hx hl n1 n2 n3 n4 ⟨x, l, rfl, rn, hx, hl, fun _ _ => rfl⟩ ⟨rfl, rfl, rfl⟩
        exact ⟨Y, ⟨_, _, _, _, h3⟩, f2.trans (f3.less f2.size), fun _ h => Or.inl h⟩
      have c4 := h.c4
      have e4 := h.f 4
      have g0 := h2.c0
      generalize dnE (nn q.up) q.d q.bk = ee at *
      generalize dnD (nn q.up) q.d q.bk = dd at *
      clear h k fs k2 h2 f2 H e
      go_enter Try.func29, Try.ntmps29
      go_wp2_with fail
      refine (V.out ()).mono ?_
      rintro e w1 ⟨rfl, rfl⟩
      go_wp2_with fail
      refine (A.out ()).mono ?_
      rintro e w2 ⟨rfl, q2, f2⟩
      have G2 : Hid _ := E.out w2 q2 f2
      clear q2 f2 A E
      go_wp2
      go_ret
      exact ⟨rfl, G2.out⟩
    · rw [e, if_pos rfl] at V
      have HT : Hid (DD w r Y (some ⟨q.up, q.cpu, q.co, q.d, q.bk, false⟩) P N) := by
        refine ⟨_, t, v, L, h.sb, ⟨x, l, rfl, k, hx, hl, fun eb ed => ?_⟩, h.lv, h.pl, h.ln, h.vy, h.ry, h.lt⟩
        dsimp only at eb ed
        rw [eb, ov_f ed] at e
        cases e
      rw [show dnE (nn q.up) q.d q.bk = 6 by simp [dnE, e], show dnD (nn q.up) q.d q.bk = q.d by simp [dnD, e]]
      clear h k e H
      go_enter Try.func29, Try.ntmps29
      go_wp2_with fail
      refine (V.out ()).mono ?_
      rintro e w1 ⟨rfl, rfl⟩
      go_wp2
      go_ret
      exact ⟨rfl, Y, HT.out, My.refl _ _⟩
set_option maxRecDepth 100000 in
set_option maxHeartbeats 1000000 in
theorem rend_any {r : Nat} {Y : List Nat} {R : Option Rq} {P : Int → Bool} {N : Nat} (w : World) (h : DD w r Y R P N) :
    Calls Try.prog 31 #[.pointer (some ⟨r, 0, none⟩)] w fun e w' => e = .returned (.tuple #[.int .i64 (enW R), .int .i64 (enE R)]) ∧ ∃ Y', DD w' r Y' (enR R) P N ∧ My w w' Y Y' := by
  have H : Hid (DD w r Y R P N) := h
  have V : Hid (∀ _ : Unit, _) := fun _ => rover_any w h
  obtain ⟨nv, t, v, L, h⟩ := h
  have c0 := h.c0
  have dn := h.dn
  cases R with
  | none =>
    obtain rfl : nv = .pointer none := dn
    show Calls _ _ _ _ fun e w' => e = .returned (.tuple #[.int .i64 0, .int .i64 12]) ∧ ∃ Y', DD w' r Y' none P N ∧ My w w' Y Y'
    clear h V
    go_enter Try.func31, Try.ntmps31
    go_wp2
    go_ret2
    exact ⟨rfl, Y, H.out, My.refl _ _⟩
  | some q =>
    obtain ⟨x, l, rfl, k, hx, hl, tel⟩ := dn
    unfold rov at V
    unfold enW enE enR
    dsimp only at V ⊢
    cases e : ov (nn q.up) q.d q.bk
    · rw [e] at V
      rw [if_neg (by simp), if_neg (by simp), if_neg (by simp)]
      clear h k e
      go_enter Try.func31, Try.ntmps31
      go_wp2_with fail
      refine (V.out ()).mono ?_
      rintro e w1 ⟨rfl, rfl⟩
      go_wp2
      go_ret2
      exact ⟨rfl, Y, H.out, My.refl _ _⟩
    · rw [e] at V
      rw [if_pos rfl, if_pos rfl, if_pos rfl]
      have A : Hid (∀ _ : Unit, _) := fun _ => dwhy_any w k
      rw [show whE (nn q.up) q.d q.bk = if q.bk then 11 else 0 by unfold whE; rw [if_pos e]] at A
      have G : Hid (∃ Y', DD ((((w.setCell ⟨r, 0, none⟩ (.pointer none)).setCell ⟨r, 1, none⟩ (.bool false)).setCell ⟨r, 2, none⟩ (.int .i64 0)).setCell ⟨r, 3, none⟩ (.int .i64 0)) r Y' none P N ∧ My w ((((w.setCell ⟨r, 0, none⟩ (.pointer none)).setCell ⟨r, 1, none⟩ (.bool false)).setCell ⟨r, 2, none⟩ (.int .i64 0)).setCell ⟨r, 3, none⟩ (.int .i64 0)) Y Y') := by
        have f5 : Fr w.heap.size [r] w ((((w.setCell ⟨r, 0, none⟩ (.pointer none)).setCell ⟨r, 1, none⟩ (.bool false)).setCell ⟨r, 2, none⟩ (.int .i64 0)).setCell ⟨r, 3, none⟩ (.int .i64 0)) :=
          ((((Fr.refl w.heap.size [r] w).setCell (p := ⟨r, 0, none⟩) (Or.inr (by simp)) _).setCell (p := ⟨r, 1, none⟩) (Or.inr (by simp)) _).setCell (p := ⟨r, 2, none⟩) (Or.inr (by simp)) _).setCell (p := ⟨r, 3, none⟩) (Or.inr (by simp)) _
        have sb := (((h.sb.set 0 (.pointer none)).set 1 (.bool false)).set 2 (.int .i64 0)).set 3 (.int .i64 0)
        have nr : r ∉ vb v := h.lv.not h.sb (by decide)
        exact ⟨Y, ⟨_, t, v, L, sb, rfl, h.lv.keep f5 (Nat.le_refl _) (fun g hg e => nr (by simp at e; exact e ▸ hg)), h.pl, h.ln, h.vy, h.ry, fun j hj => Nat.lt_of_lt_of_le (h.lt j hj) f5.size⟩, fry f5 (Nat.le_refl _) h.ry, fun _ h => Or.inl h⟩
      have c1 := h.c1
      have c2 := h.c2
      have c3 := h.c3
      have k0 := h.f 0
      have k1 := h.f 1
      have k2 := h.f 2
      have k3 := h.f 3
      generalize (if q.bk = true then (11 : Int) else 0) = ee at *
      clear h k e H
      go_enter Try.func31, Try.ntmps31
      go_wp2_with fail
      refine (V.out ()).mono ?_
      rintro e w1 ⟨rfl, rfl⟩
      go_wp2_with fail
      refine (A.out ()).mono ?_
      rintro e w1 ⟨rfl, rfl⟩
      go_wp2
      go_ret2
      exact ⟨rfl, G.out⟩
end Go.Proofs.Ytaaikbehdfkhlaa
