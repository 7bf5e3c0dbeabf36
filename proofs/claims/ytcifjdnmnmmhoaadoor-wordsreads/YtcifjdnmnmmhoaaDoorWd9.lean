/- Events as lines: the event whose line it is; what is handed up is caught at the face. -/
import Derived.Test.YtcifjdnmnmmhoaaDoorRows
import Derived.Test.YtcifjdnmnmmhoaaDoorWd8
import Derived.WalkKit
import Derived.ProofKit
import Derived.OpenShut
import Derived.BigQuiet
import Derived.Defers
import Derived.Recover
import Derived.Laws.EntriesVeiled
import Derived.WalkSmall
import Derived.WalkSpells
namespace Go.Proofs.YtcifjdnmnmmhoaaDoor
open Go.ChangeShapes Go.WideShapes Go.ChangeAt Go.RowKit
open Wd Mm
set_option linter.unusedVariables false
set_option linter.unusedSimpArgs false
set_option maxRecDepth 100000

theorem catch_idle (p q : Addr) (w : World) :
    CallsD Tryd.prog 24 #[.pointer (some p), .pointer (some q)] .returning w fun e u' w' => e = .returned (.tuple #[]) ∧ u' = .returning ∧ w' = w := by
  refine callsD_of_wpS Tryd.func24 rfl fun c₀ cs hu => ?_
  apply wpS_seq
  apply wpS_region
  simp [wpOpsS, go_sem, recoverD, hu, Tryd.ntmps24, Exit.thenS]
  refine wpS_cond (t := false) (by simp [Act.eval, Array.replicate]) ?_
  simp only [Bool.false_eq_true, if_false]
  refine wpS_of_wp (wp_skip ?_)
  cases c₀
  simp_all [bodyPostS, results, Tryd.results24]

/-- Five cells are laid. -/
theorem five {w : World} {a : Nat} {cs : List Value} {t : TypeId} (h : Blk w a cs t) (hl : cs.length = 5) (v0 v1 v2 v3 v4 : Value) : Blk (((((w.setCell ⟨a, 0, none⟩ v0).setCell ⟨a, 1, none⟩ v1).setCell ⟨a, 2, none⟩ v2).setCell ⟨a, 3, none⟩ v3).setCell ⟨a, 4, none⟩ v4) a [v0, v1, v2, v3, v4] t := by
  match cs, hl with
  | [_, _, _, _, _], _ => exact ((((h.set 0 v0).set 1 v1).set 2 v2).set 3 v3).set 4 v4
theorem oth5 {w : World} {b g : Nat} {cs : List Value} {t : TypeId} (h : Blk w b cs t) (ne : b ≠ g) (v0 v1 v2 v3 v4 : Value) : Blk (((((w.setCell ⟨g, 0, none⟩ v0).setCell ⟨g, 1, none⟩ v1).setCell ⟨g, 2, none⟩ v2).setCell ⟨g, 3, none⟩ v3).setCell ⟨g, 4, none⟩ v4) b cs t := by
  have q : ∀ {w : World} (i : Nat) (x : Value), Blk w b cs t → Blk (w.setCell ⟨g, i, none⟩ x) b cs t := fun i x h => h.other (p := ⟨g, i, none⟩) ne x
  exact q _ _ (q _ _ (q _ _ (q _ _ (q _ _ h))))
theorem fr5 {a w : World} {B : Nat} {S : List Nat} {g : Nat} (h : Fr B S a w) (hg : g ∈ S) (v0 v1 v2 v3 v4 : Value) : Fr B S a (((((w.setCell ⟨g, 0, none⟩ v0).setCell ⟨g, 1, none⟩ v1).setCell ⟨g, 2, none⟩ v2).setCell ⟨g, 3, none⟩ v3).setCell ⟨g, 4, none⟩ v4) :=
  ((((h.st g 0 v0 hg).st g 1 v1 hg).st g 2 v2 hg).st g 3 v3 hg).st g 4 v4 hg

set_option maxHeartbeats 1000000 in
theorem catch_pan (a b : Nat) (cs : List Value) (y : Value) (ne : a ≠ b) (u : TypeId) (pv : Value) (older : List PanicEntry) (w : World) (ha : Blk w a cs 24) (hl : cs.length = 5) (hb : Blk w b [y] 25) :
    CallsD Tryd.prog 24 #[.pointer (some ⟨a, 0, none⟩), .pointer (some ⟨b, 0, none⟩)] (.panicking ({ v := .iface u pv, recovered := false } :: older)) w fun e u' w' =>
      e = .returned (.tuple #[]) ∧ u' = .panicking ({ v := .iface u pv, recovered := true } :: older) ∧ Blk w' a (V.vals V.z) 24 ∧ Blk w' b [.int .i64 13] 25 ∧ Fr w.heap.size [a, b] w w' := by
  obtain ⟨x0, x1, x2, x3, x4, rfl⟩ : ∃ x0 x1 x2 x3 x4, cs = [x0, x1, x2, x3, x4] := by
    match cs, hl with
    | [_, _, _, _, _], _ => exact ⟨_, _, _, _, _, rfl⟩
  have c0 : w.cell? ⟨a, 0, none⟩ = some x0 := ha.cell 0
  have f0 : w.frozen? ⟨a, 0, none⟩ = false := ha.free 0
  have c1 : w.cell? ⟨a, 1, none⟩ = some x1 := ha.cell 1
  have f1 : w.frozen? ⟨a, 1, none⟩ = false := ha.free 1
  have c2 : w.cell? ⟨a, 2, none⟩ = some x2 := ha.cell 2
  have f2 : w.frozen? ⟨a, 2, none⟩ = false := ha.free 2
  have c3 : w.cell? ⟨a, 3, none⟩ = some x3 := ha.cell 3
  have f3 : w.frozen? ⟨a, 3, none⟩ = false := ha.free 3
  have c4 : w.cell? ⟨a, 4, none⟩ = some x4 := ha.cell 4
  have f4 : w.frozen? ⟨a, 4, none⟩ = false := ha.free 4
  have cb : w.cell? ⟨b, 0, none⟩ = some y := hb.cell 0
  have fb : w.frozen? ⟨b, 0, none⟩ = false := hb.free 0
  have nb : ¬ b = a := fun h => ne h.symm
  have ka := five ha rfl (.int .i64 0) (.int .i64 0) (.int .i64 0) (.int .u64 0) (.int .i64 0)
  refine callsD_of_wpS Tryd.func24 rfl fun c₀ cs hu => ?_
  apply wpS_seq
  apply wpS_region
  simp [wpOpsS, go_sem, recoverD, hu, Tryd.ntmps24, Exit.thenS]
  refine wpS_cond (t := true) (by simp [Act.eval, Array.replicate]) ?_
  simp only [if_true]
  apply wpS_region
  simp [wpOpsS, go_sem, c0, f0, c1, f1, c2, f2, c3, f3, c4, f4, cb, fb, nb, ne, bodyPostS, results, Tryd.results24]
  exact ⟨ka.other (p := ⟨b, 0, none⟩) ne _, (oth5 hb nb _ _ _ _ _).set 0 _, (fr5 (Fr.refl _ _ _) (by simp) _ _ _ _ _).st b 0 _ (by simp)⟩

theorem pr_ret {w : World} {a b : Nat} {e : V} {y : Int} {tmps : Array Value} (ha : Blk w a (V.vals e) 24) (hb : Blk w b [.int .i64 y] 25) (h1 : tmps.getD 2 undef = .pointer (some ⟨a, 0, none⟩)) (h2 : tmps.getD 3 undef = .pointer (some ⟨b, 0, none⟩)) :
    (results Tryd.f12 tmps).run Tryd.prog w = .ok (.tuple #[.agg (V.vals e).toArray, .int .i64 y]) w := by
  have cb : w.cell? ⟨b, 0, none⟩ = some (.int .i64 y) := hb.cell 0
  have h1' : tmps[2]?.getD undef = .pointer (some ⟨a, 0, none⟩) := by simpa using h1
  have h2' : tmps[3]?.getD undef = .pointer (some ⟨b, 0, none⟩) := by simpa using h2
  have L1 := run_loadVar_row (P := Tryd.prog) w a 24 24 (V.vals e).toArray (0, 0) _ ha Tryd.underlying24 rfl (by rw [size_ev]; rfl)
  have L2 : (loadVar 25 ⟨b, 0, none⟩).run Tryd.prog w = .ok (.int .i64 y) w := by simp [go_sem, cb]
  simp [results, Tryd.results12, h1', h2', asAddr, L1, L2, Result.andThen, Sem.run_bind]

/-- What a line is read as. -/
def parR (l : List UInt8) : Value := if 300 < l.length then .tuple #[.agg (V.vals V.z).toArray, .int .i64 15] else match evOf l with
  | some e => .tuple #[.agg (V.vals e).toArray, .int .i64 0]
  | none => .tuple #[.agg (V.vals V.z).toArray, .int .i64 13]

/-- The world in which a line is read: both results in cells. -/
structure N2 (w u : World) (y : Int) : Prop where
  a : Blk u w.heap.size (V.vals V.z) 24
  b : Blk u (w.heap.size + 1) [.int .i64 y] 25
  be : Below w.heap.size w u
  sz : w.heap.size + 1 + 1 ≤ u.heap.size
theorem n2_is (w : World) (y : Int) : N2 w ((w.alloc (.cells (V.vals V.z).toArray 24)).alloc (.cells #[.int .i64 y] 25)) y := by
  have e1 : (w.alloc (.cells (V.vals V.z).toArray 24)).heap.size = w.heap.size + 1 := World.size_alloc _ _
  refine ⟨(Blk.new w _ _).alloc _, ?_, below_two w _ _, by rw [World.size_alloc, e1]; exact Nat.le_refl _⟩
  have := Blk.new (w.alloc (.cells (V.vals V.z).toArray 24)) [.int .i64 y] 25
  rwa [e1] at this
theorem N2.below {w u u' : World} {y : Int} (h : N2 w u y) (f : Below u.heap.size u u') : N2 w u' y :=
  ⟨h.a.keep (Fr.of_below f) h.a.lt (by simp), h.b.keep (Fr.of_below f) h.b.lt (by simp), h.be.trans (f.mono h.be.size), Nat.le_trans h.sz f.size⟩

set_option maxHeartbeats 4000000 in
theorem parse_any (l : List UInt8) (w : World) (g : GW w) :
    Calls Tryd.prog 12 #[.string (sb l)] w fun r w' => r = .returned (parR l) ∧ Below w.heap.size w w' := by
  have hmf : ∀ (fn : Fn) (first cap : Array Value) (w : World), (Instr.makeFunc fn first cap).run Tryd.prog w = .ok (.func fn first cap) w := fun _ _ _ _ => rfl
  by_cases hl : 300 < l.length
  · have PR : parR l = .tuple #[.agg (V.vals V.z).toArray, .int .i64 15] := if_pos hl
    rw [PR]
    have hl2 : (300 : Int) < (l.length : Int) := by omega
    have H1 : Hid (N2 w _ 15) := n2_is w 15
    clear PR hl g
    rw [zz_vals] at *
    go_enter_defers Tryd.func12, Tryd.ntmps12
    go_wp2
    exact ⟨_, pr_ret (e := V.z) H1.out.a H1.out.b rfl rfl, rfl, H1.out.be⟩
  · have hl2 : ¬ (300 : Int) < (l.length : Int) := by omega
    have hl3 : decide ((300 : Int) < (l.length : Int)) = false := decide_eq_false hl2
    have hl4 : (l.length : Int) ≤ 300 := by omega
    have NN := n2_is w 0
    have CS := split_any 32 l _ (g.below NN.be) (by omega)
    obtain ⟨U, hU⟩ : ∃ U, U = ((w.alloc (.cells (V.vals V.z).toArray 24)).alloc (.cells #[.int .i64 0] 25)) := ⟨_, rfl⟩
    have H0 := NN.be
    rw [← hU] at NN CS H0
    have HU : Hid (((w.alloc (.cells (V.vals V.z).toArray 24)).alloc (.cells #[.int .i64 0] 25)) = U) := hU.symm
    obtain ⟨U1, hU1⟩ : ∃ U1, U1 = U.alloc (.cells ((parts 32 l).map str).toArray 9) := ⟨_, rfl⟩
    rw [← hU1] at CS
    have R1 : ORow str U1 (.slice (some ⟨U.heap.size, 0, none⟩) (parts 32 l).length (parts 32 l).length) (parts 32 l) := by rw [hU1]; exact orow_new (c := str) U (parts 32 l) 9 _ _ rfl
    have b1 : Below U.heap.size U U1 := by rw [hU1]; exact (Below.refl _ _).alloc (Nat.le_refl _) _
    have N1 := NN.below b1
    have hP : (parts 32 l).length ≤ 1000 := by
      rw [parts_length]
      have := List.count_le_length (a := (32 : UInt8)) (l := l)
      omega
    have CE := event_any (parts 32 l) (parts_ne _ _) (fun x hx => by have := parts_le 32 l x hx; omega) U.heap.size U1 (g.below N1.be) R1 hP
    rw [← evOf_w] at CE
    have HS : Hid (∀ _ : Unit, _) := fun _ => CS
    have HE : Hid (∀ _ : Unit, _) := fun _ => CE
    have HN : Hid (N2 w U1 0) := N1
    obtain ⟨R, hR⟩ : ∃ R, parR l = R := ⟨_, rfl⟩
    have PS : Hid ((∀ e, evOf l = some e → R = .tuple #[.agg (V.vals e).toArray, .int .i64 0]) ∧ (evOf l = none → R = .tuple #[.agg (V.vals V.z).toArray, .int .i64 13])) := by
      show _ ∧ _
      rw [← hR]
      unfold parR
      rw [if_neg hl]
      exact ⟨fun e h => by rw [h], fun h => by rw [h]⟩
    rw [hR]
    generalize (parts 32 l).length = N at *
    generalize evOf l = O at *
    clear hR CE CS N1 NN H0 R1 b1 hP hU hU1 hl g hl4
    rw [zz_vals] at HU
    go_enter_defers Tryd.func12, Tryd.ntmps12
    go_wp2_with fail
    rw [HU.out]
    refine (HS.out ()).mono ?_
    rintro e w1 ⟨rfl, rfl⟩
    clear HS HU
    go_wp2_with fail
    refine (HE.out ()).mono ?_
    cases O with
    | some E =>
      rintro e u ⟨rfl, bu⟩
      have M := HN.out.below bu
      obtain rfl := PS.out.1 E rfl
      have c0 : u.cell? ⟨w.heap.size, 0, none⟩ = some (.int .i64 0) := M.a.cell 0
      have f0 : u.frozen? ⟨w.heap.size, 0, none⟩ = false := M.a.free 0
      have c1 : u.cell? ⟨w.heap.size, 1, none⟩ = some (.int .i64 0) := M.a.cell 1
      have f1 : u.frozen? ⟨w.heap.size, 1, none⟩ = false := M.a.free 1
      have c2 : u.cell? ⟨w.heap.size, 2, none⟩ = some (.int .i64 0) := M.a.cell 2
      have f2 : u.frozen? ⟨w.heap.size, 2, none⟩ = false := M.a.free 2
      have c3 : u.cell? ⟨w.heap.size, 3, none⟩ = some (.int .u64 0) := M.a.cell 3
      have f3 : u.frozen? ⟨w.heap.size, 3, none⟩ = false := M.a.free 3
      have c4 : u.cell? ⟨w.heap.size, 4, none⟩ = some (.int .i64 0) := M.a.cell 4
      have f4 : u.frozen? ⟨w.heap.size, 4, none⟩ = false := M.a.free 4
      have cb : u.cell? ⟨w.heap.size + 1, 0, none⟩ = some (.int .i64 0) := M.b.cell 0
      have fb : u.frozen? ⟨w.heap.size + 1, 0, none⟩ = false := M.b.free 0
      have HM : Hid (N2 w u 0) := M
      clear M HE HN bu PS
      dsimp only [V.vals]
      go_wp2
      refine leaves_cons (f := 24) (args := #[.pointer (some ⟨w.heap.size, 0, none⟩), .pointer (some ⟨w.heap.size + 1, 0, none⟩)]) (by simp) (by simp [go_sem]) ?_
      refine (catch_idle ⟨w.heap.size, 0, none⟩ ⟨w.heap.size + 1, 0, none⟩ _).mono ?_
      rintro e u' w'' ⟨rfl, rfl, rfl⟩
      exact ⟨_, pr_ret (e := E) ((five HM.out.a rfl _ _ _ _ _).other (by simp) _) ((oth5 HM.out.b (by simp) _ _ _ _ _).set 0 _) rfl rfl, rfl, ((fr5 ((Fr.of_below HM.out.be).mono (S' := [w.heap.size, w.heap.size + 1]) (Nat.le_refl _) (by simp)) (by simp) _ _ _ _ _).st _ 0 _ (by simp)).below (by simp)⟩
    | none =>
      rintro e u ⟨rfl, bu⟩
      have HM : Hid (N2 w u 0) := HN.out.below bu
      obtain rfl := PS.out.2 rfl
      clear HE HN bu PS
      go_wp2
      refine leaves_cons (f := 24) (args := #[.pointer (some ⟨w.heap.size, 0, none⟩), .pointer (some ⟨w.heap.size + 1, 0, none⟩)]) (by simp) (by simp [go_sem]) ?_
      refine (catch_pan w.heap.size (w.heap.size + 1) _ _ (by omega) _ _ [] _ HM.out.a rfl HM.out.b).mono ?_
      rintro e u' w'' ⟨rfl, rfl, k2, k3, f⟩
      exact ⟨_, pr_ret (e := V.z) k2 k3 rfl rfl, rfl, HM.out.be.trans ((f.less HM.out.be.size).below (by simp))⟩
end Go.Proofs.YtcifjdnmnmmhoaaDoor
