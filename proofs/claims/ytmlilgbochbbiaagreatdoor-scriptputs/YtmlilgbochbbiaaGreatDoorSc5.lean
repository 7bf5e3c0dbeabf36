/- Scripts and traces: one spawn of a new kernel of two cores; its record in a trace. -/
import Derived.Test.YtmlilgbochbbiaaGreatDoorRows
import Derived.Test.YtmlilgbochbbiaaGreatDoorZkc
import Derived.Test.YtmlilgbochbbiaaGreatDoorZkd
import Derived.WalkKit
import Derived.ProofKit
import Derived.OpenShut
import Derived.BigQuiet
import Derived.Deep.RegionHeld3
import Derived.Laws.AppendOwn
namespace Go.Proofs.YtmlilgbochbbiaaGreatDoor.Krn
open Go.ChangeShapes Go.WideShapes Go.ChangeAt Go.RowKit
open Mm
set_option linter.unusedVariables false
set_option linter.unusedSimpArgs false

section
variable {B : Nat} {w0 : World} {A : List (Nat × List Value × TypeId)} {a : KA} {m m' : Nat} {S S' : KS} {w w' : World}
set_option maxRecDepth 100000 in
set_option maxHeartbeats 4000000 in
theorem do_spawn (h : KX B w0 A a m S w) {ec ei : Int} {em : Nat} {en : Int} (ok : EvOk ⟨3, ec, ei, em, en⟩) (hm : m + 64 ≤ 1000000) : Calls Tryz.prog 29 #[.pointer (some ⟨a.k, 0, none⟩), .agg #[.int .i64 3, .int .i64 ec, .int .i64 ei, .int .u64 (em : Int), .int .i64 en]] w fun x w' => ∃ v X, x = .returned v ∧ KX B w0 (X ++ A) a (m + 64) (([ret (ofThreads a.n S ⟨3, ec, ei, em, en⟩).1 (ofThreads a.n S ⟨3, ec, ei, em, en⟩).2.1], (ofThreads a.n S ⟨3, ec, ei, em, en⟩).2.2)).2 w' ∧ Rr X v (([ret (ofThreads a.n S ⟨3, ec, ei, em, en⟩).1 (ofThreads a.n S ⟨3, ec, ei, em, en⟩).2.1], (ofThreads a.n S ⟨3, ec, ei, em, en⟩).2.2)).1 := by
  have h1 := h.new [.int .i64 3, .int .i64 ec, .int .i64 ei, .int .u64 (em : Int), .int .i64 en] 50
  have b0 : (w.alloc (.cells #[.int .i64 3, .int .i64 ec, .int .i64 ei, .int .u64 (em : Int), .int .i64 en] 50)).cell? ⟨w.heap.size, 0, none⟩ = some (.int .i64 3) := h1.blk.cell 0
  have b1 : (w.alloc (.cells #[.int .i64 3, .int .i64 ec, .int .i64 ei, .int .u64 (em : Int), .int .i64 en] 50)).cell? ⟨w.heap.size, 1, none⟩ = some (.int .i64 ec) := h1.blk.cell 1
  have b2 : (w.alloc (.cells #[.int .i64 3, .int .i64 ec, .int .i64 ei, .int .u64 (em : Int), .int .i64 en] 50)).cell? ⟨w.heap.size, 2, none⟩ = some (.int .i64 ei) := h1.blk.cell 2
  have b3 : (w.alloc (.cells #[.int .i64 3, .int .i64 ec, .int .i64 ei, .int .u64 (em : Int), .int .i64 en] 50)).cell? ⟨w.heap.size, 3, none⟩ = some (.int .u64 (em : Int)) := h1.blk.cell 3
  have b4 : (w.alloc (.cells #[.int .i64 3, .int .i64 ec, .int .i64 ei, .int .u64 (em : Int), .int .i64 en] 50)).cell? ⟨w.heap.size, 4, none⟩ = some (.int .i64 en) := h1.blk.cell 4
  have CT : Hid (∀ _ : Unit, _) := fun _ => ofThreads_3 h1 ok hm
  generalize ofThreads a.n S ⟨3, ec, ei, em, en⟩ = r at *
  obtain ⟨r1, r2, T⟩ := r
  simp only at *
  go_enter Tryz.func29, Tryz.ntmps29
  go_wp2_with fail
  refine (CT.out ()).mono ?_
  rintro e w2 ⟨v2, X2, rfl, h2, f, fs, cap, rfl, hf, hh⟩
  clear CT
  rcases hh with ⟨rfl, C⟩ | ⟨rfl, p, rfl, C⟩
  · go_wp2_with fail
    refine (record_c h2 f cap hf C).mono ?_
    rintro e w3 ⟨rfl, h3⟩
    have h4 := (h3.recd (ret r1 r2)).1
    have h5 := (h3.recd (ret r1 r2)).2
    go_wp2
    go_ret
    exact ⟨_, _, rfl, h4.sub (fun y hy => by rcases List.mem_append.1 hy with e | e; exact List.mem_append_left _ e; exact List.mem_append_right _ (List.mem_append_right _ (List.mem_cons_of_mem _ e))), h5⟩
  · go_wp2_with fail
    refine (record_b h2 f p hf C).mono ?_
    rintro e w3 ⟨rfl, h3⟩
    have h4 := (h3.recd (ret r1 r2)).1
    have h5 := (h3.recd (ret r1 r2)).2
    go_wp2
    go_ret
    exact ⟨_, _, rfl, h4.sub (fun y hy => by rcases List.mem_append.1 hy with e | e; exact List.mem_append_left _ e; exact List.mem_append_right _ (List.mem_append_right _ (List.mem_cons_of_mem _ e))), h5⟩
theorem k_Do3 (h : KX B w0 A a m S w) {ec ei : Int} {em : Nat} {en : Int} (ok : EvOk ⟨3, ec, ei, em, en⟩) (hm : m + 64 ≤ 1000000) : Calls Tryz.prog 29 #[.pointer (some ⟨a.k, 0, none⟩), .agg #[.int .i64 3, .int .i64 ec, .int .i64 ei, .int .u64 (em : Int), .int .i64 en]] w fun x w' => ∃ v X, x = .returned v ∧ KX B w0 (X ++ A) a (m + 64) (kdo a.n S ⟨3, ec, ei, em, en⟩).2 w' ∧ Rr X v (kdo a.n S ⟨3, ec, ei, em, en⟩).1 := by
  unfold kdo
  simp only [Int.reduceEq, false_and, if_false]
  exact do_spawn h ok hm
theorem same_one {b c n1 n2 : Nat} {x : Rec} (h1 : ∀ i, i < 5 → w.cell? ⟨b, i, none⟩ = (rc x)[i]?) (h2 : ∀ i, i < 5 → w.cell? ⟨c, i, none⟩ = (rc x)[i]?) : Calls Tryz.prog 18 #[.slice (some ⟨b, 0, none⟩) 1 n1, .slice (some ⟨c, 0, none⟩) 1 n2] w fun e w' => e = .returned (.bool true) ∧ Sm w' w := by
  have c0 : w.cell? ⟨b, 0, none⟩ = some (.int .i64 x.kind) := h1 0 (by omega)
  have c1 : w.cell? ⟨b, 1, none⟩ = some (.int .i64 x.cpu) := h1 1 (by omega)
  have c2 : w.cell? ⟨b, 2, none⟩ = some (.int .i64 x.id) := h1 2 (by omega)
  have c3 : w.cell? ⟨b, 3, none⟩ = some (.int .i64 x.n) := h1 3 (by omega)
  have c4 : w.cell? ⟨b, 4, none⟩ = some (.int .i64 x.why) := h1 4 (by omega)
  have d0 : w.cell? ⟨c, 0, none⟩ = some (.int .i64 x.kind) := h2 0 (by omega)
  have d1 : w.cell? ⟨c, 1, none⟩ = some (.int .i64 x.cpu) := h2 1 (by omega)
  have d2 : w.cell? ⟨c, 2, none⟩ = some (.int .i64 x.id) := h2 2 (by omega)
  have d3 : w.cell? ⟨c, 3, none⟩ = some (.int .i64 x.n) := h2 3 (by omega)
  have d4 : w.cell? ⟨c, 4, none⟩ = some (.int .i64 x.why) := h2 4 (by omega)
  clear h1 h2
  go_enter Tryz.func18, Tryz.ntmps18
  go_wp2
  go_loopw [5] (fun i wr => ∃ k q : Nat, (k : Int) ≤ 1 ∧ wr = w.drewN q ∧ i = .int .i64 k) (fun i _ => 1 - (intOf i).toNat)
  case atStart => exact ⟨0, 0, by omega, rfl, rfl⟩
  case round =>
    obtain ⟨k, q, hk, rfl, rfl⟩ := hrel
    by_cases h : (k : Int) < 1
    · obtain rfl : k = 0 := by omega
      go_wp2
      go_quiet (fail)
      go_wp2
      go_roundw
      case rel => exact ⟨1, _, by omega, rfl, by go_num⟩
      case measure => simp [intOf]
    · go_wp2
      go_ret
      exact ⟨rfl, rfl, rfl, rfl, rfl⟩
end
def kv31 : Ev := ⟨3, 0, 1, 3, 0⟩
theorem kr31 : (kdo 2 (new 2) kv31).1 = [⟨1, 0, 1, 0, 0⟩] := by kernel_rfl
theorem ok31 : EvOk kv31 := ⟨by unfold wf; kernel_rfl, by unfold wf; kernel_rfl, by unfold wf; kernel_rfl, by unfold wf; kernel_rfl, by decide⟩

theorem wpList_rungm {P : Program} {w w' : World} {ops : Array Oper} {rest : List Oper} {o : Oper} {a : Act} {Q : Exit → Act → World → Prop} {v u v' : Value}
    (hg : o.guard = none) (s x : Operand) (t t2 : TypeId) (hop : o.op = Op.call { callee := Callee.builtin Builtin.append, args := #[s, x], argTypes := #[t, t2] }) (hs : a.eval s = v) (hx : a.eval x = u)
    (hrun : (Builtin.append_ #[t, t2] o.type #[v, u]).run P w = .ok v' w') (hK : wpList P ops Q rest (a.put o.dst v') w') : wpList P ops Q (o :: rest) a w := by
  refine wpList_plain hg fun K hK' => ?_
  unfold Oper.wp
  simp [execOp, hop, resolve, invoke, builtin, hs, hx, hrun, Result.andThen]
  exact hK' _ _ hK
theorem Tryz.infoRec : (Tryz.prog.info? 52).map (fun i => (i.zero, i.size, i.bytes)) = some (some (.agg #[.int .i64 0, .int .i64 0, .int .i64 0, .int .i64 0, .int .i64 0]), 5, 40) := by kernel_rfl
theorem app_mixed (w : World) (ty : TypeId) (b : Nat) : (Builtin.append_ #[62, 42] ty #[.slice none 0 0, .slice (some ⟨b, 0, none⟩) 1 1]).run Tryz.prog w = (Builtin.append_ #[62, 62] ty #[.slice none 0 0, .slice (some ⟨b, 0, none⟩) 1 1]).run Tryz.prog w := by
  have h1 := run_underlying Tryz.underlying62
  have h2 := run_underlying Tryz.underlying42
  obtain ⟨i0, hi, hz0, hz1, hz2⟩ := info_parts Tryz.infoRec
  have h3 : ∀ w, (sizeOf 52).run Tryz.prog w = .ok 5 w := fun w => by simp [sizeOf, typeInfo, hi, hz1]
  unfold Builtin.append_
  simp only [Sem.run_bind, h1, h2, h3, Result.andThen, List.getElem?_toArray, List.getElem?_cons_zero, List.getElem?_cons_succ]

set_option maxRecDepth 100000 in
theorem tell_one {z b : Nat} {r : Rec} (w : World) (hz : Blk w z [.slice none 0 0] 62) (hb : Blk w b (rc r) 52) :
    Calls Tryz.prog 28 #[.pointer (some ⟨z, 0, none⟩), .slice (some ⟨b, 0, none⟩) 1 1] w fun e w' => (∃ y, e = .returned y) ∧ ∃ nb nc w1, w' = w1.setCell ⟨z, 0, none⟩ (.slice (some ⟨nb, 0, none⟩) 1 nc) ∧ Below w.heap.size w w1 ∧ w.heap.size ≤ nb ∧ (∀ i, i < 5 → w1.cell? ⟨nb, i, none⟩ = (rc r)[i]?) := by
  obtain ⟨i0, hi, hz0, hz1, hz2⟩ := info_parts Tryz.infoRec
  obtain ⟨v', w1, hrun, o, gr, -⟩ := run_append_own (P := Tryz.prog) w w.heap.size 62 62 52 i0 _ 5 40 Tryz.underlying62 hi hz0 hz1 hz2 rfl (by omega) (.slice none 0 0) 0 [] (World.ownsRow_nil _ _ _ _) ⟨b, 0, none⟩ 1 1 (rc r) rfl (fun j y hj => by
    rw [Addr.add_lit, Nat.zero_add, hb.cell j]; exact hj) (fun y hy => by
    simp only [rc, List.mem_cons, List.mem_nil_iff, or_false] at hy
    rcases hy with rfl | rfl | rfl | rfl | rfl <;> rfl) (by decide) (by decide) (Nat.le_refl _)
  have b1 : Below w.heap.size w w1 := (Below.refl _ _).grown gr (Nat.le_refl _) (fun j hj => by cases hj)
  obtain ⟨nb, nc, hv, hnb, hc⟩ : ∃ nb nc, v' = .slice (some ⟨nb, 0, none⟩) 1 nc ∧ w.heap.size ≤ nb ∧ ∀ i, i < 5 → w1.cell? ⟨nb, i, none⟩ = (rc r)[i]? := by
    rcases o.2 with ⟨hv, hn⟩ | ⟨nb, cap, cur, hv, hnb, hh, hn, hc, hz, ht⟩
    · omega
    · rw [hv] at o
      exact ⟨nb, cap, hv, hnb, fun i hi => o.cellAt _ (by omega)⟩
  subst hv
  have R2 : Hid ((Builtin.append_ #[62, 42] 62 #[.slice none 0 0, .slice (some ⟨b, 0, none⟩) 1 1]).run Tryz.prog w = .ok (.slice (some ⟨nb, 0, none⟩) 1 nc) w1) := (app_mixed w 62 b).trans hrun
  have B1 : Hid (Below w.heap.size w w1) := b1
  have NB : Hid (w.heap.size ≤ nb ∧ ∀ i, i < 5 → w1.cell? ⟨nb, i, none⟩ = (rc r)[i]?) := ⟨hnb, hc⟩
  have z0 : w.cell? ⟨z, 0, none⟩ = some (.slice none 0 0) := hz.cell 0
  have K1 : Blk w1 z [.slice none 0 0] 62 := hz.keep (Fr.of_below b1) hz.lt (by simp)
  have z1 : w1.cell? ⟨z, 0, none⟩ = some (.slice none 0 0) := K1.cell 0
  have f1 : w1.frozen? ⟨z, 0, none⟩ = false := K1.free 0
  clear hi hz0 hz1 hz2 hrun o gr b1 hnb hc hz hb K1
  go_enter Tryz.func28, Tryz.ntmps28
  go_wp2_with (at_builtin; refine wpList_rungm rfl (.tmp 7) (.tmp 8) 62 42 rfl rfl rfl R2.out ?_)
  go_end0
  exact ⟨⟨_, rfl⟩, nb, nc, w1, rfl, B1.out, NB.out.1, NB.out.2⟩
end Go.Proofs.YtmlilgbochbbiaaGreatDoor.Krn
