/- What the questions of audit's rules answer of one thing. -/
import Derived.Test.YtfdmcbcomknebaaGreatDoorRows
import Derived.Test.YtfdmcbcomknebaaGreatDoorAu1
import Derived.Test.YtfdmcbcomknebaaGreatDoorAu3
import Derived.WalkKit
import Derived.ProofKit
import Derived.OpenShut
import Derived.BigQuiet
import Derived.BigGuard
import Derived.Carry
namespace Go.Proofs.YtfdmcbcomknebaaGreatDoor.Aud
open Go.ChangeShapes Go.WideShapes Go.ChangeAt Go.RowKit
open Mm

theorem cell_lt {w : World} {q i : Nat} {v : Value} (h : w.cell? ⟨q, i, none⟩ = some v) : q < w.heap.size := World.block_lt_of_cell? w _ h
theorem below_cell {w u : World} (b : Below w.heap.size w u) {q i : Nat} {v : Value} (h : w.cell? ⟨q, i, none⟩ = some v) : u.cell? ⟨q, i, none⟩ = some v := by
  rw [(Fr.of_below b).cell (p := ⟨q, i, none⟩) (cell_lt h) (by simp)]
  exact h
theorem dn {a b : Int} (h : ¬ a = b) : decide (a = b) = false := decide_eq_false h
theorem rl2a_int (p : Pic) (x : Tr) : rl2a p x = if x.c = 0 then decide (((cn K1 p.qu x.a : Nat) : Int) = 1) && decide ((la K1 p.qu x.a).b = x.b) else decide (((cn K1 p.qu x.a : Nat) : Int) = 0) := by
  unfold rl2a
  rw [show decide (((cn K1 p.qu x.a : Nat) : Int) = 1) = decide (cn K1 p.qu x.a = 1) from decide_eq_decide.2 (by omega), show decide (((cn K1 p.qu x.a : Nat) : Int) = 0) = decide (cn K1 p.qu x.a = 0) from decide_eq_decide.2 (by omega)]
theorem rl3a_int (p : Pic) (x : Tr) : rl3a p x = (decide (x.c = 0) || (decide (((cn K1 p.ti x.c : Nat) : Int) = 1) && decide ((la K1 p.ti x.c).c = x.a))) := by
  unfold rl3a
  rw [show decide (((cn K1 p.ti x.c : Nat) : Int) = 1) = decide (cn K1 p.ti x.c = 1) from decide_eq_decide.2 (by omega)]
theorem rl2b_int (p : Pic) (x : Tr) : rl2b p x = decide ((0 : Int) < ((cn K1 p.th x.a : Nat) : Int)) := decide_eq_decide.2 (by omega)
theorem rl3b_int (p : Pic) (x : Tr) : rl3b p x = (decide (x.c ≤ 0) || decide ((0 : Int) < ((cn K2 p.th (x.c, x.a) : Nat) : Int))) := by
  unfold rl3b
  rw [show decide ((0 : Int) < ((cn K2 p.th (x.c, x.a) : Nat) : Int)) = decide (0 < cn K2 p.th (x.c, x.a)) from decide_eq_decide.2 (by omega)]

set_option maxRecDepth 100000 in
set_option maxHeartbeats 1000000 in
theorem wq1_any (p : Pic) (x : Tr) (q b : Nat) (w : World) (hq : w.cell? ⟨q, 0, none⟩ = some (.map (some b))) (M : BM TP K1 w b p.qu) (ox : Ok1 x) :
    Calls Tryz.prog 71 #[.agg #[.int .i64 x.a, .int .i64 x.b, .int .i64 x.c], .pointer (some ⟨q, 0, none⟩)] w fun e w' => e = .returned (.bool (rl2a p x)) ∧ Below w.heap.size w w' := by
  have b0 : Below w.heap.size w (w.alloc (.cells #[.int .i64 x.a, .int .i64 x.b, .int .i64 x.c] 49)) := (Below.refl _ _).alloc (Nat.le_refl _) _
  have hlk : (Instr.lookup 124 (.map (some b)) (.int .i64 x.a) false).run Tryz.prog (w.alloc (.cells #[.int .i64 x.a, .int .i64 x.b, .int .i64 x.c] 49)) = .ok (qv (cn K1 p.qu (x.a) : Nat) (la K1 p.qu (x.a))) (w.alloc (.cells #[.int .i64 x.a, .int .i64 x.b, .int .i64 x.c] 49)) := bm_look (M.below b0) (k := x.a) ox.1
  have q0 := below_cell b0 hq
  have QL : Hid (q < w.heap.size) := cell_lt hq
  have B : Hid (∀ o, Below w.heap.size w ((w.alloc (.cells #[.int .i64 x.a, .int .i64 x.b, .int .i64 x.c] 49)).alloc o)) := fun o => b0.alloc (by simp) o
  have B1 : Hid (Below w.heap.size w (w.alloc (.cells #[.int .i64 x.a, .int .i64 x.b, .int .i64 x.c] 49))) := b0
  unfold qv at hlk
  rw [rl2a_int]
  clear M ox b0
  generalize ((cn K1 p.qu (x.a) : Nat) : Int) = c at *
  generalize la K1 p.qu (x.a) = y at *
  generalize x.c = xc at *
  generalize x.b = xb at *
  generalize x.a = xa at *
  by_cases h0 : xc = 0
  · rw [if_pos h0]
    subst h0
    by_cases h1 : c = 1
    · subst h1
      go_enter Tryz.func71, Tryz.ntmps71
      go_wp2
      go_ret
      exact ⟨rfl, B.out _⟩
    · have e1 := dn h1
      rw [e1]
      go_enter Tryz.func71, Tryz.ntmps71
      go_wp2
      go_ret
      exact ⟨rfl, B.out _⟩
  · rw [if_neg h0]
    have e0 := dn h0
    go_enter Tryz.func71, Tryz.ntmps71
    go_wp2
    go_ret
    exact ⟨rfl, B.out _⟩
set_option maxRecDepth 100000 in
set_option maxHeartbeats 1000000 in
theorem wq2_any (p : Pic) (x : Tr) (q b : Nat) (w : World) (hq : w.cell? ⟨q, 0, none⟩ = some (.map (some b))) (M : BM TT K1 w b p.th) (ox : Ok1 x) :
    Calls Tryz.prog 73 #[.agg #[.int .i64 x.a, .int .i64 x.b, .int .i64 x.c], .pointer (some ⟨q, 0, none⟩)] w fun e w' => e = .returned (.bool (rl2b p x)) ∧ Below w.heap.size w w' := by
  have b0 : Below w.heap.size w (w.alloc (.cells #[.int .i64 x.a, .int .i64 x.b, .int .i64 x.c] 122)) := (Below.refl _ _).alloc (Nat.le_refl _) _
  have hlk : (Instr.lookup 127 (.map (some b)) (.int .i64 x.a) false).run Tryz.prog (w.alloc (.cells #[.int .i64 x.a, .int .i64 x.b, .int .i64 x.c] 122)) = .ok (qv (cn K1 p.th (x.a) : Nat) (la K1 p.th (x.a))) (w.alloc (.cells #[.int .i64 x.a, .int .i64 x.b, .int .i64 x.c] 122)) := bm_look (M.below b0) (k := x.a) ox.1
  have q0 := below_cell b0 hq
  have QL : Hid (q < w.heap.size) := cell_lt hq
  have B : Hid (∀ o, Below w.heap.size w ((w.alloc (.cells #[.int .i64 x.a, .int .i64 x.b, .int .i64 x.c] 122)).alloc o)) := fun o => b0.alloc (by simp) o
  have B1 : Hid (Below w.heap.size w (w.alloc (.cells #[.int .i64 x.a, .int .i64 x.b, .int .i64 x.c] 122))) := b0
  unfold qv at hlk
  rw [rl2b_int]
  clear M ox b0
  generalize ((cn K1 p.th (x.a) : Nat) : Int) = c at *
  generalize la K1 p.th (x.a) = y at *
  generalize x.c = xc at *
  generalize x.b = xb at *
  generalize x.a = xa at *
  go_enter Tryz.func73, Tryz.ntmps73
  go_wp2_with (guard_target =~ wpList _ _ _ (Oper.mk (some 8) _ _ _ _ _ :: _) _ _; refine wpList_field rfl (.tmp 7) 136 0 rfl rfl (fieldT c y _) ?_)
  go_ret
  exact ⟨rfl, B1.out⟩
set_option maxRecDepth 100000 in
set_option maxHeartbeats 1000000 in
theorem sh1_any (p : Pic) (x : Tr) (q b : Nat) (w : World) (hq : w.cell? ⟨q, 0, none⟩ = some (.map (some b))) (M : BM TP K1 w b p.ti) (ox : Ok1 x) :
    Calls Tryz.prog 76 #[.agg #[.int .i64 x.a, .int .i64 x.b, .int .i64 x.c], .pointer (some ⟨q, 0, none⟩)] w fun e w' => e = .returned (.bool (rl3a p x)) ∧ Below w.heap.size w w' := by
  have b0 : Below w.heap.size w (w.alloc (.cells #[.int .i64 x.a, .int .i64 x.b, .int .i64 x.c] 49)) := (Below.refl _ _).alloc (Nat.le_refl _) _
  have hlk : (Instr.lookup 124 (.map (some b)) (.int .i64 x.c) false).run Tryz.prog (w.alloc (.cells #[.int .i64 x.a, .int .i64 x.b, .int .i64 x.c] 49)) = .ok (qv (cn K1 p.ti (x.c) : Nat) (la K1 p.ti (x.c))) (w.alloc (.cells #[.int .i64 x.a, .int .i64 x.b, .int .i64 x.c] 49)) := bm_look (M.below b0) (k := x.c) ox.2.2
  have q0 := below_cell b0 hq
  have QL : Hid (q < w.heap.size) := cell_lt hq
  have B : Hid (∀ o, Below w.heap.size w ((w.alloc (.cells #[.int .i64 x.a, .int .i64 x.b, .int .i64 x.c] 49)).alloc o)) := fun o => b0.alloc (by simp) o
  have B1 : Hid (Below w.heap.size w (w.alloc (.cells #[.int .i64 x.a, .int .i64 x.b, .int .i64 x.c] 49))) := b0
  unfold qv at hlk
  rw [rl3a_int]
  clear M ox b0
  generalize ((cn K1 p.ti (x.c) : Nat) : Int) = c at *
  generalize la K1 p.ti (x.c) = y at *
  generalize x.c = xc at *
  generalize x.b = xb at *
  generalize x.a = xa at *
  by_cases h0 : xc = 0
  · subst h0
    go_enter Tryz.func76, Tryz.ntmps76
    go_wp2
    go_ret
    exact ⟨rfl, B.out _⟩
  · have e0 := dn h0
    rw [e0]
    by_cases h1 : c = 1
    · subst h1
      go_enter Tryz.func76, Tryz.ntmps76
      go_wp2
      go_ret
      exact ⟨congrArg (fun b => Ending.returned (.bool b)) (show (decide (xc = 0) || decide (y.c = xa)) = _ by rw [e0]; simp), B.out _⟩
    · have e1 := dn h1
      rw [e1]
      go_enter Tryz.func76, Tryz.ntmps76
      go_wp2
      go_ret
      exact ⟨congrArg (fun b => Ending.returned (.bool b)) (show decide (xc = 0) = _ by rw [e0]; simp), B.out _⟩
set_option maxRecDepth 100000 in
set_option maxHeartbeats 1000000 in
theorem sh2_any (p : Pic) (x : Tr) (q b : Nat) (w : World) (hq : w.cell? ⟨q, 0, none⟩ = some (.map (some b))) (M : BM TS K2 w b p.th) (ox : Ok1 x) :
    Calls Tryz.prog 77 #[.agg #[.int .i64 x.a, .int .i64 x.b, .int .i64 x.c], .pointer (some ⟨q, 0, none⟩)] w fun e w' => e = .returned (.bool (rl3b p x)) ∧ Below w.heap.size w w' := by
  have b0 : Below w.heap.size w (w.alloc (.cells #[.int .i64 x.a, .int .i64 x.b, .int .i64 x.c] 122)) := (Below.refl _ _).alloc (Nat.le_refl _) _
  have hlk : (Instr.lookup 138 (.map (some b)) (.agg #[.int .i64 x.c, .int .i64 x.a]) false).run Tryz.prog (w.alloc (.cells #[.int .i64 x.a, .int .i64 x.b, .int .i64 x.c] 122)) = .ok (qv (cn K2 p.th ((x.c, x.a)) : Nat) (la K2 p.th ((x.c, x.a)))) (w.alloc (.cells #[.int .i64 x.a, .int .i64 x.b, .int .i64 x.c] 122)) := bm_look (M.below b0) (k := (x.c, x.a)) ⟨ox.2.2, ox.1⟩
  have q0 := below_cell b0 hq
  have QL : Hid (q < w.heap.size) := cell_lt hq
  have B : Hid (∀ o, Below w.heap.size w ((w.alloc (.cells #[.int .i64 x.a, .int .i64 x.b, .int .i64 x.c] 122)).alloc o)) := fun o => b0.alloc (by simp) o
  have B1 : Hid (Below w.heap.size w (w.alloc (.cells #[.int .i64 x.a, .int .i64 x.b, .int .i64 x.c] 122))) := b0
  unfold qv at hlk
  rw [rl3b_int]
  clear M ox b0
  generalize ((cn K2 p.th ((x.c, x.a)) : Nat) : Int) = c at *
  generalize la K2 p.th ((x.c, x.a)) = y at *
  generalize x.c = xc at *
  generalize x.b = xb at *
  generalize x.a = xa at *
  by_cases h0 : xc ≤ 0
  · have e0 : decide (xc ≤ 0) = true := decide_eq_true h0
    rw [e0]
    go_enter Tryz.func77, Tryz.ntmps77
    go_wp2
    go_ret
    exact ⟨rfl, B1.out⟩
  · have e0 : decide (xc ≤ 0) = false := decide_eq_false h0
    rw [e0]
    have hfd : ∀ v, (Instr.field 136 (.agg #[.int .i64 c, .int .i64 y.a, .int .i64 y.b, .int .i64 y.c]) 0).run Tryz.prog v = .ok (.int .i64 c) v := fun v => fieldT c y v
    go_enter Tryz.func77, Tryz.ntmps77
    go_wp2
    go_ret
    exact ⟨by simp, B1.out⟩
set_option maxRecDepth 100000 in
set_option maxHeartbeats 1000000 in
theorem may_any (p : Pic) (v4 v5 v6 v7 v8 v9 v10 : Value) (x : Tr) (w : World) (hac : p.ac < 18446744073709551616) :
    Calls Tryz.prog 80 #[.agg #[.int .i64 p.cp, .int .u64 (p.on : Int), .int .u64 (p.ac : Int), .int .u64 (p.pw : Int), v4, v5, v6, v7, v8, v9, v10, .bool p.bu, .bool p.up, .int .i64 p.cc, .int .i64 p.by'], .agg #[.int .i64 x.a, .int .i64 x.b, .int .i64 x.c]] w fun e w' => e = .returned (.bool (mays p x)) ∧ Below w.heap.size w w' := by
  have B : Hid (Below w.heap.size w ((w.alloc (.cells #[.int .i64 p.cp, .int .u64 (p.on : Int), .int .u64 (p.ac : Int), .int .u64 (p.pw : Int), v4, v5, v6, v7, v8, v9, v10, .bool p.bu, .bool p.up, .int .i64 p.cc, .int .i64 p.by'] 33)).alloc (.cells #[.int .i64 x.a, .int .i64 x.b, .int .i64 x.c] 122))) := ((Below.refl _ _).alloc (Nat.le_refl _) _).alloc (by simp) _
  have C : Hid (∀ v, _) := fun v => khas_any p.ac x.b v hac
  unfold mays may
  clear hac
  generalize tb p.ac x.b = tt at *
  generalize x.c = xc at *
  generalize x.b = xb at *
  generalize x.a = xa at *
  obtain ⟨cp, on, ac, pw, th, qu, ti, ir, wo, ca, ke, bu, up, cc, by'⟩ := p
  dsimp only at *
  cases tt
  · cases bu
    · go_enter Tryz.func80, Tryz.ntmps80
      go_wp2_with fail
      refine (C.out _).mono ?_
      rintro e w1 ⟨rfl, rfl⟩
      go_wp2
      go_ret
      exact ⟨rfl, B.out⟩
    · cases up
      · go_enter Tryz.func80, Tryz.ntmps80
        go_wp2_with fail
        refine (C.out _).mono ?_
        rintro e w1 ⟨rfl, rfl⟩
        go_wp2
        go_ret
        exact ⟨rfl, B.out⟩
      · go_enter Tryz.func80, Tryz.ntmps80
        go_wp2_with fail
        refine (C.out _).mono ?_
        rintro e w1 ⟨rfl, rfl⟩
        go_wp2
        go_ret
        exact ⟨rfl, B.out⟩
  · go_enter Tryz.func80, Tryz.ntmps80
    go_wp2_with fail
    refine (C.out _).mono ?_
    rintro e w1 ⟨rfl, rfl⟩
    go_wp2
    go_ret
    exact ⟨rfl, B.out⟩

theorem fnc_may : Fnc 80 := fnc_of Tryz.func80 (by kernel_rfl) rfl
theorem app1 (a b : Value) : #[a] ++ #[b] ++ #[] = #[a, b] := rfl
theorem app2 (a b : Value) : #[] ++ #[a] ++ #[b] = #[a, b] := rfl
theorem app3 (a : Value) : #[] ++ #[a] ++ #[] = #[a] := rfl
theorem run_mkf (P : Program) (fn : Fn) (a b : Array Value) (w : World) : (Instr.makeFunc fn a b).run P w = .ok (.func fn a b) w := rfl
set_option maxRecDepth 100000 in
set_option maxHeartbeats 1000000 in
theorem pm1_any (p : Pic) (v4 v5 v6 v7 v8 v9 v10 : Value) (L : List Tr) (v : Value) (q : Nat) (w : World) (hac : p.ac < 18446744073709551616) (K : Blk w q [.int .i64 p.cp, .int .u64 (p.on : Int), .int .u64 (p.ac : Int), .int .u64 (p.pw : Int), v4, v5, v6, v7, v8, v9, v10, .bool p.bu, .bool p.up, .int .i64 p.cc, .int .i64 p.by'] 33) (h : LRow tr w v L) (hl : (L.length : Int) ≤ 1000) :
    Calls Tryz.prog 79 #[v, .pointer (some ⟨q, 0, none⟩)] w fun e w' => e = .returned (.bool (L.all (mays p))) ∧ Below w.heap.size w w' := by
  have C : Hid (Calls Tryz.prog _ _ w _) := evP_any L v 80 #[.agg #[.int .i64 p.cp, .int .u64 (p.on : Int), .int .u64 (p.ac : Int), .int .u64 (p.pw : Int), v4, v5, v6, v7, v8, v9, v10, .bool p.bu, .bool p.up, .int .i64 p.cc, .int .i64 p.by']] #[] (mays p) w h fnc_may hl (fun x _ u _ => by rw [app1]; exact may_any p v4 v5 v6 v7 v8 v9 v10 x u hac)
  have hmf := run_mkf Tryz.prog
  have c0 := K.cell 0
  have c1 := K.cell 1
  have c2 := K.cell 2
  have c3 := K.cell 3
  have c4 := K.cell 4
  have c5 := K.cell 5
  have c6 := K.cell 6
  have c7 := K.cell 7
  have c8 := K.cell 8
  have c9 := K.cell 9
  have c10 := K.cell 10
  have c11 := K.cell 11
  have c12 := K.cell 12
  have c13 := K.cell 13
  have c14 := K.cell 14
  simp only [List.getElem?_cons_zero, List.getElem?_cons_succ] at c0 c1 c2 c3 c4 c5 c6 c7 c8 c9 c10 c11 c12 c13 c14
  clear K h hl hac
  generalize L.all (mays p) = R at *
  go_enter Tryz.func79, Tryz.ntmps79
  go_wp2_with fail
  refine C.out.mono ?_
  rintro e w1 ⟨rfl, B1⟩
  have HB : Hid (Below w.heap.size w w1) := B1
  clear B1 c0 c1 c2 c3 c4 c5 c6 c7 c8 c9 c10 c11 c12 c13 c14
  go_wp2
  go_ret
  exact ⟨rfl, HB.out⟩

set_option maxRecDepth 100000 in
set_option maxHeartbeats 1000000 in
theorem pm2_any (p : Pic) (v4 v5 v6 v7 v8 v9 v10 : Value) (x : Tr) (q : Nat) (w : World) (hac : p.ac < 18446744073709551616) (K : Blk w q [.int .i64 p.cp, .int .u64 (p.on : Int), .int .u64 (p.ac : Int), .int .u64 (p.pw : Int), v4, v5, v6, v7, v8, v9, v10, .bool p.bu, .bool p.up, .int .i64 p.cc, .int .i64 p.by'] 33) :
    Calls Tryz.prog 81 #[.agg #[.int .i64 x.a, .int .i64 x.b, .int .i64 x.c], .pointer (some ⟨q, 0, none⟩)] w fun e w' => e = .returned (.bool (mayw p x)) ∧ Below w.heap.size w w' := by
  have b0 : Below w.heap.size w (w.alloc (.cells #[.int .i64 x.a, .int .i64 x.b, .int .i64 x.c] 122)) := (Below.refl _ _).alloc (Nat.le_refl _) _
  have B0 : Hid (Below w.heap.size w (w.alloc (.cells #[.int .i64 x.a, .int .i64 x.b, .int .i64 x.c] 122))) := b0
  have K := K.keep (Fr.of_below b0) K.lt (by simp)
  have C : Hid (∀ _ : Unit, _) := fun _ => may_any p v4 v5 v6 v7 v8 v9 v10 x (w.alloc (.cells #[.int .i64 x.a, .int .i64 x.b, .int .i64 x.c] 122)) hac
  have c0 := K.cell 0
  have c1 := K.cell 1
  have c2 := K.cell 2
  have c3 := K.cell 3
  have c4 := K.cell 4
  have c5 := K.cell 5
  have c6 := K.cell 6
  have c7 := K.cell 7
  have c8 := K.cell 8
  have c9 := K.cell 9
  have c10 := K.cell 10
  have c11 := K.cell 11
  have c12 := K.cell 12
  have c13 := K.cell 13
  have c14 := K.cell 14
  simp only [List.getElem?_cons_zero, List.getElem?_cons_succ] at c0 c1 c2 c3 c4 c5 c6 c7 c8 c9 c10 c11 c12 c13 c14
  clear K hac b0
  unfold mays at C
  unfold mayw
  generalize may p x.b = R at *
  generalize x.c = xc at *
  generalize x.b = xb at *
  generalize x.a = xa at *
  by_cases h0 : xb = -1
  · subst h0
    go_enter Tryz.func81, Tryz.ntmps81
    go_wp2
    go_ret
    exact ⟨rfl, B0.out⟩
  · have e0 := dn h0
    rw [e0]
    go_enter Tryz.func81, Tryz.ntmps81
    go_wp2_with fail
    refine (C.out ()).mono ?_
    rintro e w1 ⟨rfl, B1⟩
    have HB : Hid (Below w.heap.size w w1) := B0.out.trans (B1.mono B0.out.size)
    clear B1 c0 c1 c2 c3 c4 c5 c6 c7 c8 c9 c10 c11 c12 c13 c14
    go_wp2
    go_ret
    exact ⟨congrArg (fun b => Ending.returned (.bool b)) (show (decide (xb = -1) || R) = (false || R) by rw [e0]), HB.out⟩

set_option maxRecDepth 100000 in
set_option maxHeartbeats 1000000 in
theorem once_any (L : List Tr) (v : Value) (w : World) (h : LRow tr w v L) (ok : Okl L) (hl : (L.length : Int) ≤ 1000) :
    Calls Tryz.prog 83 #[v] w fun e w' => e = .returned (.bool (onc L)) ∧ Below w.heap.size w w' := by
  have C : Hid (∀ _ : Unit, _) := fun _ => byP_any L v w h ok hl
  obtain ⟨a, n, rfl⟩ := h.shape
  rw [show onc L = decide (((ds K1 L : Nat) : Int) = (L.length : Nat)) from decide_eq_decide.2 (by omega)]
  clear h ok hl
  go_enter Tryz.func83, Tryz.ntmps83
  go_wp2_with fail
  refine (C.out ()).mono ?_
  rintro e w1 ⟨b, rfl, z1, M, B1⟩
  have hlen : (Builtin.len_ #[124] 3 #[.map (some b)]).run Tryz.prog w1 = .ok (.int .i64 (ds K1 L : Nat)) w1 := bm_len M 3
  have HB : Hid (Below w.heap.size w w1) := B1
  clear B1 M z1
  go_wp2
  go_ret
  exact ⟨rfl, HB.out⟩
theorem fnc_once : Fnc 83 := fnc_of Tryz.func83 (by kernel_rfl) rfl

set_option maxRecDepth 100000 in
set_option maxHeartbeats 4000000 in
theorem evL_any (n b off c : Nat) (V : Nat → Value) (pr : Nat → Bool) (f : Nat) (fst cap : Array Value) (w : World) (hc : ∀ k, k < n → w.cell? ⟨b, off + k, none⟩ = some (V k)) (hf : Fnc f) (hn : (n : Int) ≤ 1000)
    (C : ∀ k, k < n → ∀ u, Below w.heap.size w u → Calls Tryz.prog f (fst ++ #[V k] ++ cap) u fun e u' => e = .returned (.bool (pr k)) ∧ Below u.heap.size u u') :
    Calls Tryz.prog 78 #[.slice (some ⟨b, off, none⟩) n c, .func (.func f) fst cap] w fun e w' => e = .returned (.bool ((List.range n).all pr)) ∧ Below w.heap.size w w' := by
  have HC : Hid (∀ k, k < n → ∀ u, Below w.heap.size w u → _) := C
  have HQ : Hid (∀ k, k < n → w.cell? ⟨b, off + k, none⟩ = some (V k)) := hc
  have FF := hf
  unfold Fnc at FF
  obtain ⟨R, hR⟩ : ∃ R, (List.range n).all pr = R := ⟨_, rfl⟩
  have HA : Hid ((List.range n).all pr = R) := hR
  rw [hR]
  clear C hc hf hR
  go_enter Tryz.func78, Tryz.ntmps78
  go_wp2
  go_loopw [9] (fun i wr => ∃ (k : Nat), (k : Int) ≤ n ∧ Hid (Below w.heap.size w wr ∧ (List.range k).all pr = true) ∧ i = .int .i64 (k : Int)) (fun i _ => n - (intOf i).toNat)
  case atStart => exact ⟨0, by omega, ⟨Below.refl _ _, rfl⟩, rfl⟩
  case round =>
    obtain ⟨k, hk, hm, rfl⟩ := hrel
    by_cases e : (k : Int) < n
    · have c0 := below_cell hm.out.1 (HQ.out k (by omega))
      have s : Hid ((List.range (k + 1)).all pr = pr k) := by
        show (List.range (k + 1)).all pr = pr k
        rw [List.range_succ, List.all_append, hm.out.2]
        simp
      have no : Hid (pr k = false → R = false) := fun q => by
        rw [← HA.out]
        exact List.all_eq_false.2 ⟨k, List.mem_range.2 (by omega), by simpa using q⟩
      have CC : Hid (Calls Tryz.prog f _ _ _) := HC.out k (by omega) _ hm.out.1
      have B0 : Hid (Below w.heap.size w wr) := hm.out.1
      generalize V k = x at *
      cases hq : pr k
      · have r0 := no.out hq
        subst r0
        rw [hq] at CC
        clear hm s no
        go_wp2_with fail
        refine CC.out.mono ?_
        rintro e w1 ⟨rfl, b1⟩
        have B1 : Hid (Below w.heap.size w w1) := B0.out.trans (b1.mono B0.out.size)
        clear b1
        go_wp2
        go_ret
        exact ⟨rfl, B1.out⟩
      · rw [hq] at CC s
        clear hm no
        go_wp2_with fail
        refine CC.out.mono ?_
        rintro e w1 ⟨rfl, b1⟩
        have B1 : Hid (Below w.heap.size w w1) := B0.out.trans (b1.mono B0.out.size)
        clear b1
        go_wp2
        go_roundw
        case rel => exact ⟨k + 1, by omega, ⟨B1.out, s.out⟩, by go_num⟩
        case measure => simp [intOf]; omega
    · have e2 : k = n := by omega
      subst e2
      rw [HA.out] at hm
      obtain ⟨b1, rfl⟩ := hm.out
      have B1 : Hid (Below w.heap.size w wr) := b1
      clear b1 hm
      go_wp2
      go_ret
      exact ⟨rfl, B1.out⟩
theorem fnc_pm1 : Fnc 79 := fnc_of Tryz.func79 (by kernel_rfl) rfl
theorem fnc_pm2 : Fnc 81 := fnc_of Tryz.func81 (by kernel_rfl) rfl
theorem fnc_wq1 : Fnc 71 := fnc_of Tryz.func71 (by kernel_rfl) rfl
theorem fnc_wq2 : Fnc 73 := fnc_of Tryz.func73 (by kernel_rfl) rfl
theorem fnc_sh1 : Fnc 76 := fnc_of Tryz.func76 (by kernel_rfl) rfl
theorem fnc_sh2 : Fnc 77 := fnc_of Tryz.func77 (by kernel_rfl) rfl
end Go.Proofs.YtfdmcbcomknebaaGreatDoor.Aud
