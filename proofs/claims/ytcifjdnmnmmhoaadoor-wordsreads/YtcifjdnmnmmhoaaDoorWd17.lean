/- Events as lines: the document's line of an event. -/
import Derived.Test.YtcifjdnmnmmhoaaDoorRows
import Derived.Test.YtcifjdnmnmmhoaaDoorWd16
import Derived.Test.YtcifjdnmnmmhoaaDoorWd9
import Derived.WalkKit
import Derived.ProofKit
import Derived.OpenShut
import Derived.BigQuiet
import Derived.WalkSmall
import Derived.WalkSpells
namespace Go.Proofs.YtcifjdnmnmmhoaaDoor
open Go.ChangeShapes Go.WideShapes Go.ChangeAt Go.RowKit
open Wd Mm
set_option linter.unusedVariables false
set_option linter.unusedSimpArgs false
set_option maxRecDepth 100000

/-- One field more. -/
def cpf (e x : V) (l : UInt8) : V := if l = 99 then { x with c := e.c } else if l = 105 then { x with i := e.i } else if l = 109 then { x with m := e.m } else { x with n := e.n }
def onl (e : V) (L : List UInt8) : V := L.foldl (cpf e) ⟨e.k, 0, 0, 0, 0⟩
theorem onl_snoc (e : V) (L : List UInt8) (l : UInt8) : onl e (L ++ [l]) = cpf e (onl e L) l := by simp [onl]
def wrS (e : V) (L : List UInt8) : List UInt8 := Lib.joinTail [32] (L.map (fld e))
theorem wrS_snoc (e : V) (L : List UInt8) (l : UInt8) : wrS e (L ++ [l]) = wrS e L ++ [32] ++ fld e l := by
  unfold wrS
  rw [List.map_append, List.map_cons, List.map_nil, joinTail_snoc]
  simp
theorem wrS_len (e : V) (h : e.wf) : ∀ L : List UInt8, (wrS e L).length ≤ 193 * L.length
  | [] => by simp [wrS, Lib.joinTail]
  | l :: L => by
    have i := wrS_len e h L
    have := (fld_len e h l).1
    have e1 : wrS e (l :: L) = 32 :: (fld e l ++ wrS e L) := by simp [wrS, Lib.joinTail]
    rw [e1, List.length_cons, List.length_append, List.length_cons]
    omega
theorem onl_iff (e : V) {L : List UInt8} (h : Lt L) : onl e L = e ↔ clrs e L = ⟨e.k, 0, 0, 0, 0⟩ := by
  obtain ⟨k, c, i, m, n⟩ := e
  cases h <;> simp [onl, cpf, clrs, clr, eq_comm]
theorem ltI_lt (k : Int) : Lt (ltI k) := by
  unfold ltI
  split
  · exact lt_all _
  · exact Lt.p1

/-- What is there while a line is written. -/
structure WS (w wr : World) (b : Nat) (e x : V) : Prop where
  a : Blk wr w.heap.size (V.vals e) 24
  z : Blk wr (w.heap.size + 1) (V.vals V.z) 24
  x : Blk wr b (V.vals x) 24
  be : Below w.heap.size w wr
  hb : w.heap.size + 1 < b
theorem WS.set {w wr u : World} {b : Nat} {e x : V} (h : WS w wr b e x) (f : Below wr.heap.size wr u) (i : Nat) (v : Value) (y : V) (hy : (V.vals x).set i v = V.vals y) : WS w (u.setCell ⟨b, i, none⟩ v) b e y := by
  have ff := Fr.of_below f
  have hb := h.hb
  have ha := h.a.keep ff h.a.lt (by simp)
  have hz := h.z.keep ff h.z.lt (by simp)
  have hx := (h.x.keep ff h.x.lt (by simp)).set i v
  rw [hy] at hx
  exact ⟨ha.other (p := ⟨b, i, none⟩) (by show w.heap.size ≠ b; omega) v, hz.other (p := ⟨b, i, none⟩) (by show w.heap.size + 1 ≠ b; omega) v, hx, (h.be.trans (f.mono h.be.size)).setCell (p := ⟨b, i, none⟩) (by show w.heap.size ≤ b; omega) v, hb⟩
theorem WS.up {w wr u : World} {b : Nat} {e x : V} (h : WS w wr b e x) (f : Below wr.heap.size wr u) : WS w u b e x :=
  ⟨h.a.keep (Fr.of_below f) h.a.lt (by simp), h.z.keep (Fr.of_below f) h.z.lt (by simp), h.x.keep (Fr.of_below f) h.x.lt (by simp), h.be.trans (f.mono h.be.size), h.hb⟩

theorem two_start (w : World) (e : V) : ∀ u, Below ((w.alloc (.cells (V.vals e).toArray 24)).alloc (.cells (V.vals V.z).toArray 24)).heap.size ((w.alloc (.cells (V.vals e).toArray 24)).alloc (.cells (V.vals V.z).toArray 24)) u → ∀ x : V, WS w (u.alloc (.cells (V.vals x).toArray 24)) u.heap.size e x := fun u f x => by
  have e1 : (w.alloc (.cells (V.vals e).toArray 24)).heap.size = w.heap.size + 1 := World.size_alloc _ _
  have e2 : ((w.alloc (.cells (V.vals e).toArray 24)).alloc (.cells (V.vals V.z).toArray 24)).heap.size = w.heap.size + 1 + 1 := by rw [World.size_alloc, e1]
  have a0 : Blk ((w.alloc (.cells (V.vals e).toArray 24)).alloc (.cells (V.vals V.z).toArray 24)) w.heap.size (V.vals e) 24 := (Blk.new w _ _).alloc _
  have a1 : Blk ((w.alloc (.cells (V.vals e).toArray 24)).alloc (.cells (V.vals V.z).toArray 24)) (w.heap.size + 1) (V.vals V.z) 24 := by
    have := Blk.new (w.alloc (.cells (V.vals e).toArray 24)) (V.vals V.z) 24
    rwa [e1] at this
  have hs := f.size
  rw [e2] at hs
  refine ⟨(a0.keep (Fr.of_below f) a0.lt (by simp)).alloc _, (a1.keep (Fr.of_below f) a1.lt (by simp)).alloc _, Blk.new u _ _, ?_, by omega⟩
  exact ((below_two w _ _).trans (f.mono (by rw [e2]; omega))).alloc (by omega) _

theorem two_a (w : World) (e : V) (u : World) (f : Below ((w.alloc (.cells (V.vals e).toArray 24)).alloc (.cells (V.vals V.z).toArray 24)).heap.size ((w.alloc (.cells (V.vals e).toArray 24)).alloc (.cells (V.vals V.z).toArray 24)) u) : Blk u w.heap.size (V.vals e) 24 := by
  have a0 : Blk ((w.alloc (.cells (V.vals e).toArray 24)).alloc (.cells (V.vals V.z).toArray 24)) w.heap.size (V.vals e) 24 := (Blk.new w _ _).alloc _
  exact a0.keep (Fr.of_below f) a0.lt (by simp)

theorem wr_ret {w : World} {z : Nat} {x : V} {s : List UInt8} {tmps : Array Value} (h : Blk w z (V.vals x) 24) (h1 : tmps.getD 2 undef = .string (sb s)) (h2 : tmps.getD 3 undef = .pointer (some ⟨z, 0, none⟩)) :
    (results Tryd.f22 tmps).run Tryd.prog w = .ok (.tuple #[.string (sb s), .agg (V.vals x).toArray]) w := by
  have h1' : tmps[2]?.getD undef = .string (sb s) := by simpa using h1
  have h2' : tmps[3]?.getD undef = .pointer (some ⟨z, 0, none⟩) := by simpa using h2
  have L1 := run_loadVar_row (P := Tryd.prog) w z 24 24 (V.vals x).toArray (0, 0) _ h Tryd.underlying24 rfl (by rw [size_ev]; rfl)
  simp [results, Tryd.results22, h1', h2', asAddr, L1, Result.andThen, Sem.run_bind]

set_option maxHeartbeats 8000000 in
theorem write_any (e : V) (he : e.wf) (w : World) :
    Calls Tryd.prog 22 #[.agg (V.vals e).toArray] w fun r w' => r = .returned (.tuple #[.string (sb (nmI e.k ++ wrS e (ltI e.k))), .agg (V.vals (onl e (ltI e.k))).toArray]) ∧ Below w.heap.size w w' := by
  have CK : Hid (∀ w, _) := fun w => rkind_any e.k w
  have C1 : Hid (∀ w, _) := fun w => rnum_any e.c he.c w
  have C2 : Hid (∀ w, _) := fun w => rnum_any e.i he.i w
  have C3 : Hid (∀ w, _) := fun w => rcpus_any e.m w he.m
  have C4 : Hid (∀ w, _) := fun w => rnum_any e.n he.n w
  have TS : Hid (∀ u, _ → ∀ x, _) := two_start w e
  have LL := ltI_lt e.k
  have nl : (nmI e.k).length ≤ 7 := by
    unfold nmI
    split
    · rename_i h
      exact (nm_no ⟨e.k.toNat, by omega⟩).2.2.1
    · simp
  generalize ltI e.k = L at *
  generalize nmI e.k = nm at *
  have HL := lt_is LL
  have LK : Hid (∀ k, (wrS e (L.take k)).length ≤ 193 * 2) := fun k => by
    have := wrS_len e he (L.take k)
    have h2 := HL.2.1
    rw [List.length_take] at this
    omega
  have FL : Hid (∀ l, (fld e l).length ≤ 192) := fun l => (fld_len e he l).1
  have FV : Hid (fld e 99 = Lib.itoa e.c ∧ fld e 105 = Lib.itoa e.i ∧ fld e 109 = cps e.m ∧ fld e 110 = Lib.itoa e.n) := ⟨rfl, rfl, rfl, rfl⟩
  have HS : Hid (∀ l ∈ L, isL l) := HL.1
  have lb : (L.length : Int) ≤ 2 := by have := HL.2.1; omega
  have TL : Hid (L.take L.length = L) := List.take_length
  obtain ⟨A, hA⟩ : ∃ A, nm ++ wrS e L = A := ⟨_, rfl⟩
  obtain ⟨X, hX⟩ : ∃ X, onl e L = X := ⟨_, rfl⟩
  have HA : Hid (nm ++ wrS e L = A) := hA
  have HX : Hid (onl e L = X) := hX
  have O0 : Hid (onl e [] = ⟨e.k, 0, 0, 0, 0⟩ ∧ nm ++ wrS e [] = nm) := by show _ ∧ _; exact ⟨rfl, by simp [wrS, Lib.joinTail]⟩
  have EK : Hid (∀ L, (onl e L).k = e.k) := fun L => by
    unfold onl
    suffices ∀ (L : List UInt8) (x : V), (L.foldl (cpf e) x).k = x.k from this L _
    intro L
    induction L with
    | nil => intro x; rfl
    | cons l L ih =>
      intro x
      rw [List.foldl_cons, ih]
      unfold cpf
      split
      · rfl
      · split
        · rfl
        · split <;> rfl
  rw [hA, hX]
  obtain ⟨k, c, i, m, x⟩ := e
  simp only [V.vals, zz_vals] at TS ⊢
  clear hA hX LL HL he
  go_enter Tryd.func22, Tryd.ntmps22
  go_wp2_with fail
  refine (CK.out _).mono ?_
  rintro e u ⟨rfl, bu⟩
  have ek : u.cell? ⟨w.heap.size, 0, none⟩ = some (.int .i64 k) := (two_a w ⟨k, c, i, m, x⟩ u bu).cell 0
  have S0 : WS w (u.alloc (.cells #[.int .i64 k, .int .i64 0, .int .i64 0, .int .u64 0, .int .i64 0] 24)) u.heap.size ⟨k, c, i, m, x⟩ ⟨k, 0, 0, 0, 0⟩ := TS.out u bu ⟨k, 0, 0, 0, 0⟩
  obtain ⟨E, hE⟩ : ∃ E : V, (⟨k, c, i, m, x⟩ : V) = E := ⟨_, rfl⟩
  have HE : Hid (E = ⟨k, c, i, m, x⟩) := hE.symm
  rw [hE] at S0 HX HA O0 EK LK FL
  obtain ⟨bx, hbx⟩ : ∃ bx, u.heap.size = bx := ⟨_, rfl⟩
  have e0 := O0.out.1
  rw [← e0, hbx] at S0
  have HS0 : Hid _ := S0
  have F1 : Hid (fld E 99 = Lib.itoa c ∧ fld E 105 = Lib.itoa i ∧ fld E 109 = cps m ∧ fld E 110 = Lib.itoa x) := by rw [← hE]; exact FV.out
  clear bu S0 TS CK e0 FV
  clear hE
  go_wp2
  clear hbx ek
  go_loopw [4, 7] (fun s i wr => ∃ j : Nat, (j : Int) ≤ L.length ∧ i = .int .i64 j ∧ s = .string (sb (nm ++ wrS E (L.take j))) ∧ Hid (WS w wr bx E (onl E (L.take j)))) (fun _ i _ => L.length - (intOf i).toNat)
  case atStart => exact ⟨0, by omega, rfl, by rw [List.take_zero, O0.out.2], HS0⟩
  case round =>
    obtain ⟨j, hj, rfl, rfl, S⟩ := hrel
    by_cases h : (j : Int) < L.length
    · have hjL : j < L.length := by omega
      have hi : ∀ W, _ := fun W => index_run L j hjL W
      have hl := HS.out _ (List.getElem_mem hjL)
      have e1 := take_next L j hjL
      have T1 := wrS_snoc E (L.take j) L[j]
      have T2 := onl_snoc E (L.take j) L[j]
      rw [← e1] at T1 T2
      have l1 := LK.out j
      have l2 := FL.out L[j]
      have A1 : ∀ W, (Op.stringOp .add (sb (nm ++ wrS E (L.take j))) (sb [32])).run Tryd.prog W = .ok (.string (sb (nm ++ wrS E (L.take j) ++ [32]))) W := fun W => add_str _ _ (by rw [List.length_append]; have : [(32 : UInt8)].length = 1 := rfl; omega) W
      have A2 : ∀ W, (Op.stringOp .add (sb (nm ++ wrS E (L.take j) ++ [32])) (sb (fld E L[j]))).run Tryd.prog W = .ok (.string (sb (nm ++ wrS E (L.take (j + 1))))) W := fun W => by
        rw [add_str _ _ (by rw [List.length_append, List.length_append]; have : [(32 : UInt8)].length = 1 := rfl; omega), T1]
        simp
      have TT : Hid (onl E (L.take (j + 1)) = cpf E (onl E (L.take j)) L[j]) := T2
      obtain ⟨l, hll⟩ : ∃ l, L[j] = l := ⟨_, rfl⟩
      rw [hll] at hi hl A2 TT
      obtain ⟨y, hy⟩ : ∃ y, onl E (L.take j) = y := ⟨_, rfl⟩
      have S1 := S.out
      rw [hy] at S1 TT
      have HS1 : Hid _ := S1
      have a1 : wr.cell? ⟨w.heap.size, 1, none⟩ = some (.int .i64 c) := by have := S1.a.cell 1; rw [HE.out] at this; exact this
      have a2 : wr.cell? ⟨w.heap.size, 2, none⟩ = some (.int .i64 i) := by have := S1.a.cell 2; rw [HE.out] at this; exact this
      have a3 : wr.cell? ⟨w.heap.size, 3, none⟩ = some (.int .u64 ((m : Nat) : Int)) := by have := S1.a.cell 3; rw [HE.out] at this; exact this
      have a4 : wr.cell? ⟨w.heap.size, 4, none⟩ = some (.int .i64 x) := by have := S1.a.cell 4; rw [HE.out] at this; exact this
      have EE : Hid (E.c = c ∧ E.i = i ∧ E.m = m ∧ E.n = x) := by show _ ∧ _; rw [HE.out]; exact ⟨rfl, rfl, rfl, rfl⟩
      have HT : Hid (nm ++ wrS E (L.take (j + 1)) = nm ++ wrS E (L.take (j + 1))) := rfl
      generalize hT1 : nm ++ wrS E (L.take (j + 1)) = T at A2 HT
      have HT2 : Hid (T = nm ++ wrS E (L.take (j + 1))) := hT1.symm
      generalize nm ++ wrS E (L.take j) = Q at *
      clear e1 T1 T2 l1 l2 hll hjL hT1 HT S S1 hy
      rcases hl with rfl | rfl | rfl | rfl
      · rw [F1.out.1] at A2
        rw [show ((99 : UInt8).toNat : Nat) = 99 from rfl] at hi
        have t9 : onl E (L.take (j + 1)) = { y with c := c } := by rw [TT.out, ← EE.out.1]; rfl
        have HT9 : Hid _ := t9
        have CA : Hid (∀ w, _) := fun w => C1.out w
        clear C1 C2 C3 C4 EE TT t9
        go_wp2_with fail
        refine (CA.out _).mono ?_
        rintro e u1 ⟨rfl, rfl⟩
        have bu : Below u1.heap.size u1 u1 := Below.refl _ _
        have SU := HS1.out.up bu
        have b1 : u1.cell? ⟨bx, 1, none⟩ = some (.int .i64 y.c) := SU.x.cell 1
        have b2 : u1.frozen? ⟨bx, 1, none⟩ = false := SU.x.free 1
        have d1 : u1.cell? ⟨w.heap.size, 1, none⟩ = some (.int .i64 c) := by have := SU.a.cell 1; rw [HE.out] at this; exact this
        have S3 : Hid (WS w (u1.setCell ⟨bx, 1, none⟩ (.int .i64 c)) bx E { y with c := c }) := SU.set (Below.refl _ _) 1 _ _ rfl
        clear SU bu
        go_wp2
        go_roundw
        case rel => exact ⟨j + 1, by omega, by go_num, by rw [HT2.out], by show WS _ _ _ _ _; rw [HT9.out]; exact S3.out⟩
        case measure => simp [intOf]; omega
      · rw [F1.out.2.1] at A2
        rw [show ((105 : UInt8).toNat : Nat) = 105 from rfl] at hi
        have t9 : onl E (L.take (j + 1)) = { y with i := i } := by rw [TT.out, ← EE.out.2.1]; rfl
        have HT9 : Hid _ := t9
        have CA : Hid (∀ w, _) := fun w => C2.out w
        clear C1 C2 C3 C4 EE TT t9
        go_wp2_with fail
        refine (CA.out _).mono ?_
        rintro e u1 ⟨rfl, rfl⟩
        have bu : Below u1.heap.size u1 u1 := Below.refl _ _
        have SU := HS1.out.up bu
        have b1 : u1.cell? ⟨bx, 2, none⟩ = some (.int .i64 y.i) := SU.x.cell 2
        have b2 : u1.frozen? ⟨bx, 2, none⟩ = false := SU.x.free 2
        have d1 : u1.cell? ⟨w.heap.size, 2, none⟩ = some (.int .i64 i) := by have := SU.a.cell 2; rw [HE.out] at this; exact this
        have S3 : Hid (WS w (u1.setCell ⟨bx, 2, none⟩ (.int .i64 i)) bx E { y with i := i }) := SU.set (Below.refl _ _) 2 _ _ rfl
        clear SU bu
        go_wp2
        go_roundw
        case rel => exact ⟨j + 1, by omega, by go_num, by rw [HT2.out], by show WS _ _ _ _ _; rw [HT9.out]; exact S3.out⟩
        case measure => simp [intOf]; omega
      · rw [F1.out.2.2.1] at A2
        rw [show ((109 : UInt8).toNat : Nat) = 109 from rfl] at hi
        have t9 : onl E (L.take (j + 1)) = { y with m := m } := by rw [TT.out, ← EE.out.2.2.1]; rfl
        have HT9 : Hid _ := t9
        have CA : Hid (∀ w, _) := fun w => C3.out w
        clear C1 C2 C3 C4 EE TT t9
        go_wp2_with fail
        refine (CA.out _).mono ?_
        rintro e u1 ⟨rfl, bu⟩
        have SU := HS1.out.up bu
        have b1 : u1.cell? ⟨bx, 3, none⟩ = some (.int .u64 ((y.m : Nat) : Int)) := SU.x.cell 3
        have b2 : u1.frozen? ⟨bx, 3, none⟩ = false := SU.x.free 3
        have d1 : u1.cell? ⟨w.heap.size, 3, none⟩ = some (.int .u64 ((m : Nat) : Int)) := by have := SU.a.cell 3; rw [HE.out] at this; exact this
        have S3 : Hid (WS w (u1.setCell ⟨bx, 3, none⟩ (.int .u64 ((m : Nat) : Int))) bx E { y with m := m }) := SU.set (Below.refl _ _) 3 _ _ rfl
        clear SU bu
        go_wp2
        go_roundw
        case rel => exact ⟨j + 1, by omega, by go_num, by rw [HT2.out], by show WS _ _ _ _ _; rw [HT9.out]; exact S3.out⟩
        case measure => simp [intOf]; omega
      · rw [F1.out.2.2.2] at A2
        rw [show ((110 : UInt8).toNat : Nat) = 110 from rfl] at hi
        have t9 : onl E (L.take (j + 1)) = { y with n := x } := by rw [TT.out, ← EE.out.2.2.2]; rfl
        have HT9 : Hid _ := t9
        have CA : Hid (∀ w, _) := fun w => C4.out w
        clear C1 C2 C3 C4 EE TT t9
        go_wp2_with fail
        refine (CA.out _).mono ?_
        rintro e u1 ⟨rfl, rfl⟩
        have bu : Below u1.heap.size u1 u1 := Below.refl _ _
        have SU := HS1.out.up bu
        have b1 : u1.cell? ⟨bx, 4, none⟩ = some (.int .i64 y.n) := SU.x.cell 4
        have b2 : u1.frozen? ⟨bx, 4, none⟩ = false := SU.x.free 4
        have d1 : u1.cell? ⟨w.heap.size, 4, none⟩ = some (.int .i64 x) := by have := SU.a.cell 4; rw [HE.out] at this; exact this
        have S3 : Hid (WS w (u1.setCell ⟨bx, 4, none⟩ (.int .i64 x)) bx E { y with n := x }) := SU.set (Below.refl _ _) 4 _ _ rfl
        clear SU bu
        go_wp2
        go_roundw
        case rel => exact ⟨j + 1, by omega, by go_num, by rw [HT2.out], by show WS _ _ _ _ _; rw [HT9.out]; exact S3.out⟩
        case measure => simp [intOf]; omega
    · obtain rfl : j = L.length := by omega
      have S1 := S.out
      rw [TL.out, HX.out] at S1
      rw [TL.out, HA.out]
      have x0 : wr.cell? ⟨bx, 0, none⟩ = some (.int .i64 X.k) := S1.x.cell 0
      have x1 : wr.cell? ⟨bx, 1, none⟩ = some (.int .i64 X.c) := S1.x.cell 1
      have x2 : wr.cell? ⟨bx, 2, none⟩ = some (.int .i64 X.i) := S1.x.cell 2
      have x3 : wr.cell? ⟨bx, 3, none⟩ = some (.int .u64 ((X.m : Nat) : Int)) := S1.x.cell 3
      have x4 : wr.cell? ⟨bx, 4, none⟩ = some (.int .i64 X.n) := S1.x.cell 4
      have y0 : wr.cell? ⟨w.heap.size + 1, 0, none⟩ = some (.int .i64 0) := S1.z.cell 0
      have y1 : wr.cell? ⟨w.heap.size + 1, 1, none⟩ = some (.int .i64 0) := S1.z.cell 1
      have y2 : wr.cell? ⟨w.heap.size + 1, 2, none⟩ = some (.int .i64 0) := S1.z.cell 2
      have y3 : wr.cell? ⟨w.heap.size + 1, 3, none⟩ = some (.int .u64 0) := S1.z.cell 3
      have y4 : wr.cell? ⟨w.heap.size + 1, 4, none⟩ = some (.int .i64 0) := S1.z.cell 4
      have f0 : wr.frozen? ⟨w.heap.size + 1, 0, none⟩ = false := S1.z.free 0
      have f1 : wr.frozen? ⟨w.heap.size + 1, 1, none⟩ = false := S1.z.free 1
      have f2 : wr.frozen? ⟨w.heap.size + 1, 2, none⟩ = false := S1.z.free 2
      have f3 : wr.frozen? ⟨w.heap.size + 1, 3, none⟩ = false := S1.z.free 3
      have f4 : wr.frozen? ⟨w.heap.size + 1, 4, none⟩ = false := S1.z.free 4
      have FB : Hid (Blk (((((wr.setCell ⟨w.heap.size + 1, 0, none⟩ (.int .i64 X.k)).setCell ⟨w.heap.size + 1, 1, none⟩ (.int .i64 X.c)).setCell ⟨w.heap.size + 1, 2, none⟩ (.int .i64 X.i)).setCell ⟨w.heap.size + 1, 3, none⟩ (.int .u64 ((X.m : Nat) : Int))).setCell ⟨w.heap.size + 1, 4, none⟩ (.int .i64 X.n)) (w.heap.size + 1) (V.vals X) 24) := five S1.z rfl _ _ _ _ _
      have FR : Hid (Below w.heap.size w (((((wr.setCell ⟨w.heap.size + 1, 0, none⟩ (.int .i64 X.k)).setCell ⟨w.heap.size + 1, 1, none⟩ (.int .i64 X.c)).setCell ⟨w.heap.size + 1, 2, none⟩ (.int .i64 X.i)).setCell ⟨w.heap.size + 1, 3, none⟩ (.int .u64 ((X.m : Nat) : Int))).setCell ⟨w.heap.size + 1, 4, none⟩ (.int .i64 X.n))) :=
        (fr5 ((Fr.of_below S1.be).mono (S' := [w.heap.size + 1]) (Nat.le_refl _) (fun _ _ _ => by simp)) (by simp) _ _ _ _ _).below (by simp)
      clear S S1 HA HX HS C1 C2 C3 C4 LK FL EK O0 F1 HE HS0
      go_wp2
      go_region
      go_wp2
      exact bodyPost_ret (wr_ret (x := X) (FB.out.heap rfl) rfl rfl) rfl ⟨rfl, FR.out.trans ⟨rfl, rfl, rfl, Nat.le_refl _, fun _ _ => rfl⟩⟩
end Go.Proofs.YtcifjdnmnmmhoaaDoor
