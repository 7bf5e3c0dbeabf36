/- A model's state as a value; copies of its lists, and whether two lists are alike. -/
import Derived.Test.YtaebebgoijgolaaGreatRows
import Derived.Test.YtaebebgoijgolaaGreatFg
import Derived.Test.YtaebebgoijgolaaGreatFj
import Derived.Test.YtaebebgoijgolaaGreatOro
import Derived.WalkKit
import Derived.ProofKit
import Derived.OpenShut
import Derived.BigQuiet
import Derived.WalkSpells
import Derived.Deep.RegionHeld3
namespace Go.Proofs.YtaebebgoijgolaaGreat
open Go.ChangeShapes Go.WideShapes Go.ChangeAt Go.RowKit
set_option linter.unusedVariables false
set_option linter.unusedSimpArgs false
set_option maxRecDepth 100000

abbrev iv : Int → Value := Value.int .i64
def SL (w : World) (v : Value) (xs : List Int) : Prop := ORow iv w v xs ∧ ∀ a cap, v = .slice a 0 cap → a = none → cap = 0

theorem OG.sl {w wr : World} {v : Value} {xs : List Int} (g : OG iv 3 w wr v xs) : SL wr v xs := by
  refine ⟨g.row, fun a cap e ha => ?_⟩
  subst e; subst ha
  rcases g.own.2 with ⟨h, _⟩ | ⟨b, cap', cur, h, _⟩
  · cases h; rfl
  · cases h
theorem sl_nil (w : World) : SL w (.slice none 0 0) [] := ⟨Or.inl ⟨rfl, none, 0, rfl⟩, fun a cap e _ => by cases e; rfl⟩

theorem clone_t (w : World) : Calls Tryz.prog 16 #[.slice none 0 0] w fun e w' => e = .returned (.slice none 0 0) ∧ w' = w := by
  have hq : ∀ v : World, (binOp .eql 28 (.slice none 0 0) (.slice none 0 0)).run Tryz.prog v = .ok (.bool true) v := fun v => run_eql_nil_slice v 28 49 none 0 0 0 0 Tryz.underlying28
  go_enter Tryz.func16, Tryz.ntmps16
  go_wp2
  go_ret
  exact ⟨rfl, rfl⟩
theorem clone_m (w : World) : Calls Tryz.prog 17 #[.slice none 0 0] w fun e w' => e = .returned (.slice none 0 0) ∧ w' = w := by
  have hq : ∀ v : World, (binOp .eql 29 (.slice none 0 0) (.slice none 0 0)).run Tryz.prog v = .ok (.bool true) v := fun v => run_eql_nil_slice v 29 52 none 0 0 0 0 Tryz.underlying29
  go_enter Tryz.func17, Tryz.ntmps17
  go_wp2
  go_ret
  exact ⟨rfl, rfl⟩
theorem clone_q (w : World) : Calls Tryz.prog 18 #[.slice none 0 0] w fun e w' => e = .returned (.slice none 0 0) ∧ w' = w := by
  have hq : ∀ v : World, (binOp .eql 30 (.slice none 0 0) (.slice none 0 0)).run Tryz.prog v = .ok (.bool true) v := fun v => run_eql_nil_slice v 30 55 none 0 0 0 0 Tryz.underlying30
  go_enter Tryz.func18, Tryz.ntmps18
  go_wp2
  go_ret
  exact ⟨rfl, rfl⟩
theorem clone_nil (w : World) : Calls Tryz.prog 19 #[.slice none 0 0] w fun e w' => e = .returned (.slice none 0 0) ∧ w' = w := by
  have hq : ∀ v : World, (binOp .eql 27 (.slice none 0 0) (.slice none 0 0)).run Tryz.prog v = .ok (.bool true) v := fun v => run_eql_nil_slice v 27 3 none 0 0 0 0 Tryz.underlying27
  go_enter Tryz.func19, Tryz.ntmps19
  go_wp2
  go_ret
  exact ⟨rfl, rfl⟩
theorem equal_t (w : World) : Calls Tryz.prog 11 #[.slice none 0 0, .slice none 0 0] w fun e w' => e = .returned (.bool true) ∧ w' = w := by
  go_enter Tryz.func11, Tryz.ntmps11
  go_wp2
  refine wp_loop_rounds 1 ?_
  rw [rounds_succ]
  go_wp2
  go_ret
  exact ⟨rfl, rfl⟩
theorem equal_m (w : World) : Calls Tryz.prog 12 #[.slice none 0 0, .slice none 0 0] w fun e w' => e = .returned (.bool true) ∧ w' = w := by
  go_enter Tryz.func12, Tryz.ntmps12
  go_wp2
  refine wp_loop_rounds 1 ?_
  rw [rounds_succ]
  go_wp2
  go_ret
  exact ⟨rfl, rfl⟩
theorem equal_q (w : World) : Calls Tryz.prog 13 #[.slice none 0 0, .slice none 0 0] w fun e w' => e = .returned (.bool true) ∧ w' = w := by
  go_enter Tryz.func13, Tryz.ntmps13
  go_wp2
  refine wp_loop_rounds 1 ?_
  rw [rounds_succ]
  go_wp2
  go_ret
  exact ⟨rfl, rfl⟩

theorem wpList_runh {P : Program} {w w' : World} {ops : Array Oper} {rest : List Oper} {o : Oper} {a : Act} {Q : Exit → Act → World → Prop} {v u v' : Value}
    (hg : o.guard = none) (s x : Operand) (t : TypeId) (hop : o.op = Op.call { callee := Callee.builtin Builtin.append, args := #[s, x], argTypes := #[t, t] }) (hs : a.eval s = v) (hx : a.eval x = u)
    (hrun : (Builtin.append_ #[t, t] o.type #[v, u]).run P w = .ok v' w') (hK : wpList P ops Q rest (a.put o.dst v') w') : wpList P ops Q (o :: rest) a w := by
  refine wpList_plain hg fun K hK' => ?_
  unfold Oper.wp
  simp [execOp, hop, resolve, invoke, builtin, hs, hx, hrun, Result.andThen]
  exact hK' _ _ hK

theorem app_any {w wr wb : World} {v u : Value} {xs ys : List Int} (g : OG iv 3 w wr v xs) (e : Below wr.heap.size wr wb) (r : SL wb u ys) (hl : xs.length + ys.length ≤ 2000) :
    ∃ v' w2, (Builtin.append_ #[27, 27] 27 #[v, u]).run Tryz.prog wb = .ok v' w2 ∧ OG iv 3 w w2 v' (xs ++ ys) := by
  obtain ⟨i0, hi, hz⟩ := Option.map_eq_some_iff.1 Tryz.info3
  simp only [Prod.mk.injEq] at hz
  obtain ⟨hz0, hz1, hz2⟩ := hz
  exact og_app 3 27 27 i0 (.int .i64 0) 8 Tryz.underlying27 hi hz0 hz1 hz2 rfl (fun _ => rfl) g e r.1 r.2 (by simp only [maxLen]; omega) (by omega)

/-- A list of no number, in memory of its own. -/
theorem og_zero (w : World) : OG iv 3 w (w.alloc (.cells #[] 3)) (.slice (some ⟨w.heap.size, 0, none⟩) 0 0) [] :=
  ⟨⟨rfl, Or.inr ⟨w.heap.size, 0, #[], rfl, Nat.le_refl _, heap_alloc_new w _, by simp, by simp, by simp [maxLen], by simp⟩⟩, (Below.refl _ _).alloc (Nat.le_refl _) _⟩

set_option maxHeartbeats 1000000 in
theorem clone_any {w : World} {v : Value} {xs : List Int} (h : SL w v xs) (hl : xs.length ≤ 1000) :
    Calls Tryz.prog 19 #[v] w fun e w' => ∃ u, e = .returned u ∧ OG iv 3 w w' u xs ∧ (v = .slice none 0 0 → u = .slice none 0 0) := by
  obtain ⟨a, cap, rfl⟩ := h.1.shape
  cases a with
  | none =>
    have hx : xs = [] := by
      rcases h.1 with ⟨e, _⟩ | ⟨b, off, c, e, _⟩
      · exact e
      · cases e
    subst hx
    obtain rfl := h.2 _ _ rfl rfl
    have G : Hid (OG iv 3 w w (.slice none 0 0) []) := og_start _ _ _
    have hq : ∀ v : World, (binOp .eql 27 (.slice none 0 0) (.slice none 0 0)).run Tryz.prog v = .ok (.bool true) v := fun v => run_eql_nil_slice v 27 3 none 0 0 0 0 Tryz.underlying27
    clear h
    go_enter Tryz.func19, Tryz.ntmps19
    go_wp2
    go_ret
    exact ⟨_, rfl, G.out, fun _ => rfl⟩
  | some p =>
    obtain ⟨u, w2, R, G⟩ := app_any (og_zero w) (Below.refl _ _) (u := .slice (some p) xs.length cap) (ys := xs) ⟨h.1.below ((Below.refl _ _).alloc (Nat.le_refl _) _), fun a c e ha => by subst ha; cases e⟩ (by simp; omega)
    rw [List.nil_append] at G
    have R1 : Hid (_ = _) := R
    have G1 : Hid (OG iv 3 w w2 u xs) := G
    have hq : ∀ v : World, (binOp .eql 27 (.slice (some p) xs.length cap) (.slice none 0 0)).run Tryz.prog v = .ok (.bool false) v := fun v => Lib.run_eql_slice_nil v 27 3 (some p) xs.length cap 0 0 Tryz.underlying27
    clear R G h
    go_enter Tryz.func19, Tryz.ntmps19
    go_wp2_with (at_builtin; refine wpList_runh rfl (.tmp 5) (.tmp 6) 27 rfl rfl rfl R1.out ?_)
    go_ret
    exact ⟨_, rfl, G1.out, fun h => by cases h⟩

set_option maxHeartbeats 1000000 in
theorem equal_any {w : World} {v u : Value} {xs : List Int} (h : ORow iv w v xs) (k : ORow iv w u xs) (hl : xs.length ≤ 1000) :
    Calls Tryz.prog 14 #[v, u] w fun e w' => e = .returned (.bool true) ∧ Below w.heap.size w w' := by
  have CE : Hid (∀ (wr : World) (i : Nat), Sm wr w → i < xs.length → ∃ g o g' o' c c' x, v = .slice (some ⟨g, o, none⟩) xs.length c ∧ u = .slice (some ⟨g', o', none⟩) xs.length c' ∧ wr.cell? ⟨g, o + i, none⟩ = some (.int .i64 x) ∧ wr.cell? ⟨g', o' + i, none⟩ = some (.int .i64 x)) := fun wr i hS hi => by
    have hx := List.getElem?_eq_getElem hi
    rcases h with ⟨e, _⟩ | ⟨g, o, c, rfl, _, hc⟩
    · subst e; simp at hi
    rcases k with ⟨e, _⟩ | ⟨g', o', c', rfl, _, hc'⟩
    · subst e; simp at hi
    refine ⟨g, o, g', o', c, c', xs[i], rfl, rfl, ?_, ?_⟩
    · rw [World.cell?_of_block (w := w) (by rw [hS.1])]; rw [hc i hi, hx]; rfl
    · rw [World.cell?_of_block (w := w) (by rw [hS.1])]; rw [hc' i hi, hx]; rfl
  obtain ⟨a, cap, rfl⟩ := h.shape
  obtain ⟨a', cap', rfl⟩ := k.shape
  obtain ⟨n, hn⟩ : ∃ n, xs.length = n := ⟨_, rfl⟩
  rw [hn] at CE hl ⊢
  have z1 : (n : Int) ≤ 1000 := by omega
  clear h k hn hl
  go_enter Tryz.func14, Tryz.ntmps14
  go_wp2
  go_loopw [13] (fun s wr => ∃ i : Nat, s = .int .i64 i ∧ (i : Int) ≤ n ∧ Hid (Sm wr w)) (fun s _ => n - (intOf s).toNat)
  case atStart => exact ⟨0, rfl, by omega, ⟨rfl, rfl, rfl, rfl⟩⟩
  case round =>
    obtain ⟨i, rfl, h1, B⟩ := hrel
    by_cases hlt : (i : Int) < n
    · obtain ⟨g, o, g', o', c, c', x, e1, e2, k1, k2⟩ := CE.out wr i B.out (by omega)
      cases e1
      cases e2
      go_wp2
      go_region
      go_wp2
      go_roundw
      case rel => exact ⟨i + 1, by go_num, by omega, B.out⟩
      case measure => simp [intOf]; omega
    · go_wp2
      go_ret
      exact ⟨rfl, B.out.below (Below.refl _ _)⟩
end Go.Proofs.YtaebebgoijgolaaGreat
