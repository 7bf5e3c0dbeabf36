/- Scripts as bytes: what both Gets answer. -/
import Derived.Test.YtmlilgbochbbiaaGreatDoorSc1
import Derived.Test.YtmlilgbochbbiaaGreatDoorYt
import Derived.BigQuiet
namespace Go.Proofs.YtmlilgbochbbiaaGreatDoor.Scr
open Go.ChangeShapes Go.WideShapes Go.ChangeAt Go.RowKit
open Wir Wi0
set_option linter.unusedVariables false
set_option linter.unusedSimpArgs false
set_option maxRecDepth 100000

/-- The script whose bytes these are: its cores and events, or why there is none. -/
def getS : List Nat → Int × List Ev × Int
  | [] => (0, [], 14)
  | x :: r => if okc (x : Nat) = true then (match readE [] r with
    | .ok Y => ((x : Int), Y, 0)
    | .error c => (0, [], c)) else (0, [], 13)
def GetP (xs : List Nat) (w w' : World) (cc : Int) (v : Value) (y : Int) : Prop :=
  cc = (getS xs).1 ∧ y = (getS xs).2.2 ∧ LRow evy w' v (getS xs).2.1 ∧ Below w.heap.size w w'
theorem end_ok {w W1 u : World} {v : Value} {Y : List Ev} {z : Nat} {c0 c1 : Value} {T : TypeId} (g : EG W1 u v Y) (h : Blk u z [c0, c1] T) (hz : z < W1.heap.size) (hb : Below w.heap.size w W1) (hw : w.heap.size ≤ z) (p q : Value) :
    LRow evy ((u.setCell ⟨z, 0, none⟩ p).setCell ⟨z, 1, none⟩ q) v Y ∧ Below w.heap.size w ((u.setCell ⟨z, 0, none⟩ p).setCell ⟨z, 1, none⟩ q) ∧ Blk ((u.setCell ⟨z, 0, none⟩ p).setCell ⟨z, 1, none⟩ q) z [p, q] T := by
  have b := ((hb.trans (g.bel.mono hb.size)).setCell (p := ⟨z, 0, none⟩) hw p).setCell (p := ⟨z, 1, none⟩) hw q
  have o1 := ownsRow_setCell_below (a := ⟨z, 1, none⟩) (ownsRow_setCell_below (a := ⟨z, 0, none⟩) g.own hz p) hz q
  have o : World.ownsRow ((u.setCell ⟨z, 0, none⟩ p).setCell ⟨z, 1, none⟩ q) w.heap.size 50 evy.n v Y.length (evy.all Y) := by
    obtain ⟨h1, h2⟩ := o1
    refine ⟨h1, ?_⟩
    rcases h2 with h2 | ⟨b', cap, cur, hv, hb', hr⟩
    · exact Or.inl h2
    · exact Or.inr ⟨b', cap, cur, hv, Nat.le_trans hb.size hb', hr⟩
  exact ⟨(LG.mk (L := evy) (t := 50) o b).row, b, (h.set 0 p).set 1 q⟩
theorem end_no {w u : World} {z : Nat} {c0 c1 : Value} {T : TypeId} (h : Blk u z [c0, c1] T) (hb : Below w.heap.size w u) (hw : w.heap.size ≤ z) (p q : Value) :
    Below w.heap.size w ((u.setCell ⟨z, 0, none⟩ p).setCell ⟨z, 1, none⟩ q) ∧ Blk ((u.setCell ⟨z, 0, none⟩ p).setCell ⟨z, 1, none⟩ q) z [p, q] T :=
  ⟨(hb.setCell (p := ⟨z, 0, none⟩) hw p).setCell (p := ⟨z, 1, none⟩) hw q, (h.set 0 p).set 1 q⟩
theorem nil_row (w : World) : LRow evy w (.slice none 0 0) [] := Or.inl ⟨rfl, none, 0, rfl⟩
theorem size_s : (Tryz.prog.info? 30).map (·.size) = some 2 := by kernel_rfl
theorem size_r : (Tryz.prog.info? 24).map (·.size) = some 2 := by kernel_rfl

theorem get_ret {w : World} {z : Nat} {c y : Int} {v : Value} {tmps : Array Value} (h : Blk w z [.int .i64 c, v] 30) (h1 : tmps.getD 2 undef = .pointer (some ⟨z, 0, none⟩)) (h2 : tmps.getD 3 undef = .int .i64 y) :
    (results Tryz.f13 tmps).run Tryz.prog w = .ok (.tuple #[.agg #[.int .i64 c, v], .int .i64 y]) w := by
  have h1' : tmps[2]?.getD undef = .pointer (some ⟨z, 0, none⟩) := by simpa using h1
  have h2' : tmps[3]?.getD undef = .int .i64 y := by simpa using h2
  have L1 := run_loadVar_row (P := Tryz.prog) w z 30 30 #[.int .i64 c, v] (0, 0) _ h Tryz.underlying30 rfl (by rw [size_s]; rfl)
  simp [results, Tryz.results13, h1', h2', asAddr, L1, Result.andThen, Sem.run_bind]

set_option maxHeartbeats 4000000 in
theorem sget_any (xs : List Nat) (a : Option Addr) (n cap : Nat) (w : World) (h : CRow w a n cap xs) (hn : (n : Int) ≤ 100000) :
    Calls Tryz.prog 13 #[.slice a n cap] w fun e w' => ∃ cc v y, e = .returned (.tuple #[.agg #[.int .i64 cc, v], .int .i64 y]) ∧ GetP xs w w' cc v y := by
  have KA : Hid (Blk (w.alloc (.cells #[.int .i64 0, .slice none 0 0] 30)) w.heap.size [.int .i64 0, .slice none 0 0] 30) := Blk.new w _ _
  have BA : Hid (Below w.heap.size w (w.alloc (.cells #[.int .i64 0, .slice none 0 0] 30))) := (Below.refl _ _).alloc (Nat.le_refl _) _
  have CA : Hid (CRow (w.alloc (.cells #[.int .i64 0, .slice none 0 0] 30)) a n cap xs) := h.below BA.out
  have HN : Hid ((n : Int) ≤ 100000) := hn
  have nn := h.nn
  clear h hn
  cases xs with
  | nil =>
    obtain rfl : n = 0 := nn
    have E1 : Hid (Blk _ _ _ _) := KA.out
    have E2 : Hid (Below _ _ _) := BA.out
    clear KA BA CA HN
    go_enter Tryz.func13, Tryz.ntmps13
    go_wp2
    exact bodyPost_ret (get_ret E1.out rfl rfl) rfl ⟨_, _, _, rfl, rfl, rfl, nil_row _, E2.out⟩
  | cons x r =>
    obtain ⟨b, off, rfl, hlt, hA⟩ := CA.out.cell (k := 0) (x := x) rfl
    have c0 : (w.alloc (.cells #[.int .i64 0, .slice none 0 0] 30)).cell? ⟨b, off, none⟩ = some (.int .u8 ((x : Nat) : Int)) := hA
    have hx := CA.out.lt x (by simp)
    have hnpos : (0 : Int) < (n : Int) := by rw [nn, List.length_cons]; omega
    have hn0 : ((n : Int) == 0) = false := by rw [beq_eq_false_iff_ne]; omega
    have cw : IntKind.i64.wrap ((x : Nat) : Int) = ((x : Nat) : Int) := by rw [IntKind.wrap_i64]; omega
    have HZ : Hid (w.heap.size < (w.alloc (.cells #[.int .i64 0, .slice none 0 0] 30)).heap.size) := by show _ < _; simp
    have CI : Hid (∀ u, _) := fun u => isc_any ((x : Nat) : Int) u
    have SL : Hid (∀ u : World, (Instr.slice 26 (.slice (some ⟨b, off, none⟩) n cap) (some (.int .i64 1)) none none).run Tryz.prog u = .ok (.slice (if cap = 1 then some (⟨b, off, none⟩ : Addr) else (some (⟨b, off, none⟩ : Addr)).map (·.add (1 * 1))) (n - 1) (cap - 1)) u) := fun u => sl_from u (some ⟨b, off, none⟩) n cap 1 (by omega)
    have C2 := crow_from (k := 1) CA.out (by omega)
    have CD : Hid (∀ _ : Unit, _) := fun _ => read_any _ _ _ _ _ C2 (by have := HN.out; omega)
    clear C2 hA hlt
    cases hk : okc ((x : Nat) : Int) with
    | false =>
      rw [hk] at CI
      have E1 : Hid (Blk _ _ _ _) := KA.out
      have E2 : Hid (Below _ _ _) := BA.out
      have GV : Hid (getS (x :: r) = (0, [], 13)) := by show _ = _; rw [getS, if_neg (by rw [hk]; decide)]
      clear KA BA CA HN nn SL CD hk HZ
      go_enter Tryz.func13, Tryz.ntmps13
      go_wp2_with fail
      refine (CI.out _).mono ?_
      rintro e u0 ⟨rfl, rfl⟩
      go_wp2
      exact bodyPost_ret (get_ret E1.out rfl rfl) rfl ⟨_, _, _, rfl, by rw [GV.out], by rw [GV.out], by rw [GV.out]; exact nil_row _, E2.out⟩
    | true =>
      rw [hk] at CI
      have GV : Hid (getS (x :: r) = match readE [] r with
        | .ok Y => ((x : Int), Y, 0)
        | .error c => (0, [], c)) := by show _ = _; rw [getS, if_pos hk]
      have sl := SL.out (w.alloc (.cells #[.int .i64 0, .slice none 0 0] 30))
      rw [show (x :: r).drop 1 = r from rfl] at CD
      generalize (if cap = 1 then some (⟨b, off, none⟩ : Addr) else (some (⟨b, off, none⟩ : Addr)).map (·.add (1 * 1))) = a1 at *
      generalize cap - 1 = cap1 at *
      obtain ⟨n1, hn1⟩ : ∃ n1, n - 1 = n1 := ⟨_, rfl⟩
      rw [hn1] at CD sl
      clear CA HN nn SL hk hn1
      go_enter Tryz.func13, Tryz.ntmps13
      go_wp2_with fail
      refine (CI.out _).mono ?_
      rintro e u0 ⟨rfl, rfl⟩
      go_wp2_with fail
      refine (CD.out ()).mono ?_
      rintro e u ⟨v, c, Y, rfl, g, hcase⟩
      have G : Hid (EG _ u _ Y) := g
      have KU : Hid (Blk u w.heap.size [.int .i64 0, .slice none 0 0] 30) := Blk.keep KA.out (Fr.of_below g.bel) HZ.out (by simp)
      have k0 : u.cell? ⟨w.heap.size, 0, none⟩ = some (.int .i64 0) := KU.out.cell 0
      have k1 : u.cell? ⟨w.heap.size, 1, none⟩ = some (.slice none 0 0) := KU.out.cell 1
      have f0 : u.frozen? ⟨w.heap.size, 0, none⟩ = false := KU.out.free 0
      have f1 : u.frozen? ⟨w.heap.size, 1, none⟩ = false := KU.out.free 1
      obtain ⟨va, vc, rfl⟩ := g.row.shape
      clear g CD
      rcases hcase with ⟨rfl, hr⟩ | ⟨hc, rfl, hr⟩
      · have E := end_ok G.out KU.out HZ.out BA.out (Nat.le_refl _) (.int .i64 ((x : Nat) : Int)) (.slice va Y.length vc)
        have E1 : Hid (Blk _ _ _ _) := E.2.2
        have E2 : Hid (Below _ _ _) := E.2.1
        have E3 : Hid (LRow evy _ (.slice va Y.length vc) Y) := E.1
        rw [hr] at GV
        clear E hr
        go_wp2
        exact bodyPost_ret (get_ret E1.out rfl rfl) rfl ⟨_, _, _, rfl, by rw [GV.out], by rw [GV.out], by rw [GV.out]; exact E3.out, E2.out⟩
      · have E := end_no KU.out (BA.out.trans (G.out.bel.mono BA.out.size)) (Nat.le_refl _) (.int .i64 0) (.slice none 0 0)
        have E1 : Hid (Blk _ _ _ _) := E.2
        have E2 : Hid (Below _ _ _) := E.1
        rw [hr] at GV
        have hc1 : (c == 0) = false := by rw [beq_eq_false_iff_ne]; exact hc
        have hc2 : (c != 0) = true := by simpa using hc
        clear E hr hc
        go_wp2
        exact bodyPost_ret (get_ret E1.out rfl rfl) rfl ⟨_, _, _, rfl, by rw [GV.out], by rw [GV.out], by rw [GV.out]; exact nil_row _, E2.out⟩

theorem rget_ret {w : World} {z : Nat} {c y : Int} {v : Value} {tmps : Array Value} (h : Blk w z [.int .i64 c, v] 24) (h1 : tmps.getD 2 undef = .pointer (some ⟨z, 0, none⟩)) (h2 : tmps.getD 3 undef = .int .i64 y) :
    (results Tryz.f14 tmps).run Tryz.prog w = .ok (.tuple #[.agg #[.int .i64 c, v], .int .i64 y]) w := by
  have h1' : tmps[2]?.getD undef = .pointer (some ⟨z, 0, none⟩) := by simpa using h1
  have h2' : tmps[3]?.getD undef = .int .i64 y := by simpa using h2
  have L1 := run_loadVar_row (P := Tryz.prog) w z 24 24 #[.int .i64 c, v] (0, 0) _ h Tryz.underlying24 rfl (by rw [size_r]; rfl)
  simp [results, Tryz.results14, h1', h2', asAddr, L1, Result.andThen, Sem.run_bind]

set_option maxHeartbeats 4000000 in
theorem srget_any (xs : List Nat) (a : Option Addr) (n cap : Nat) (w : World) (h : CRow w a n cap xs) (hn : (n : Int) ≤ 100000) :
    Calls Tryz.prog 14 #[.slice a n cap] w fun e w' => ∃ cc v y, e = .returned (.tuple #[.agg #[.int .i64 cc, v], .int .i64 y]) ∧ GetP xs w w' cc v y := by
  have KA : Hid (Blk (w.alloc (.cells #[.int .i64 0, .slice none 0 0] 24)) w.heap.size [.int .i64 0, .slice none 0 0] 24) := Blk.new w _ _
  have BA : Hid (Below w.heap.size w (w.alloc (.cells #[.int .i64 0, .slice none 0 0] 24))) := (Below.refl _ _).alloc (Nat.le_refl _) _
  have CA : Hid (CRow (w.alloc (.cells #[.int .i64 0, .slice none 0 0] 24)) a n cap xs) := h.below BA.out
  have HN : Hid ((n : Int) ≤ 100000) := hn
  have nn := h.nn
  clear h hn
  cases xs with
  | nil =>
    obtain rfl : n = 0 := nn
    have E1 : Hid (Blk _ _ _ _) := KA.out
    have E2 : Hid (Below _ _ _) := BA.out
    clear KA BA CA HN
    go_enter Tryz.func14, Tryz.ntmps14
    go_wp2
    exact bodyPost_ret (rget_ret E1.out rfl rfl) rfl ⟨_, _, _, rfl, rfl, rfl, nil_row _, E2.out⟩
  | cons x r =>
    obtain ⟨b, off, rfl, hlt, hA⟩ := CA.out.cell (k := 0) (x := x) rfl
    have c0 : (w.alloc (.cells #[.int .i64 0, .slice none 0 0] 24)).cell? ⟨b, off, none⟩ = some (.int .u8 ((x : Nat) : Int)) := hA
    have hx := CA.out.lt x (by simp)
    have hnpos : (0 : Int) < (n : Int) := by rw [nn, List.length_cons]; omega
    have hn0 : ((n : Int) == 0) = false := by rw [beq_eq_false_iff_ne]; omega
    have cw : IntKind.i64.wrap ((x : Nat) : Int) = ((x : Nat) : Int) := by rw [IntKind.wrap_i64]; omega
    have HZ : Hid (w.heap.size < (w.alloc (.cells #[.int .i64 0, .slice none 0 0] 24)).heap.size) := by show _ < _; simp
    have SL : Hid (∀ u : World, (Instr.slice 26 (.slice (some ⟨b, off, none⟩) n cap) (some (.int .i64 1)) none none).run Tryz.prog u = .ok (.slice (if cap = 1 then some (⟨b, off, none⟩ : Addr) else (some (⟨b, off, none⟩ : Addr)).map (·.add (1 * 1))) (n - 1) (cap - 1)) u) := fun u => sl_from u (some ⟨b, off, none⟩) n cap 1 (by omega)
    have C2 := crow_from (k := 1) CA.out (by omega)
    have CD : Hid (∀ _ : Unit, _) := fun _ => rread_any _ _ _ _ _ C2 (by have := HN.out; omega)
    have HB : Hid (b < (w.alloc (.cells #[.int .i64 0, .slice none 0 0] 24)).heap.size) := hlt
    clear C2 hA hlt
    by_cases h1 : (x : Int) < 1
    · have hk : okc ((x : Nat) : Int) = false := by unfold okc; rw [decide_eq_false (by omega), Bool.false_and]
      have h3 : decide ((x : Int) < 1) = true := decide_eq_true h1
      have E1 : Hid (Blk _ _ _ _) := KA.out
      have E2 : Hid (Below _ _ _) := BA.out
      have GV : Hid (getS (x :: r) = (0, [], 13)) := by show _ = _; rw [getS, if_neg (by rw [hk]; decide)]
      clear KA BA CA HN nn SL CD hk HZ
      go_enter Tryz.func14, Tryz.ntmps14
      go_wp2
      exact bodyPost_ret (rget_ret E1.out rfl rfl) rfl ⟨_, _, _, rfl, by rw [GV.out], by rw [GV.out], by rw [GV.out]; exact nil_row _, E2.out⟩
    have h3 : decide ((x : Int) < 1) = false := decide_eq_false h1
    by_cases h2 : (64 : Int) < (x : Int)
    · have hk : okc ((x : Nat) : Int) = false := by unfold okc; rw [decide_eq_false (show ¬ (x : Int) ≤ 64 by omega), Bool.and_false]
      have h4 : decide ((64 : Int) < (x : Int)) = true := decide_eq_true h2
      have E1 : Hid (Blk _ _ _ _) := KA.out
      have E2 : Hid (Below _ _ _) := BA.out
      have GV : Hid (getS (x :: r) = (0, [], 13)) := by show _ = _; rw [getS, if_neg (by rw [hk]; decide)]
      clear KA BA CA HN nn SL CD hk HZ
      go_enter Tryz.func14, Tryz.ntmps14
      go_wp2
      exact bodyPost_ret (rget_ret E1.out rfl rfl) rfl ⟨_, _, _, rfl, by rw [GV.out], by rw [GV.out], by rw [GV.out]; exact nil_row _, E2.out⟩
    · have hk : okc ((x : Nat) : Int) = true := by unfold okc; rw [decide_eq_true (show 1 ≤ (x : Int) by omega), decide_eq_true (show (x : Int) ≤ 64 by omega)]; rfl
      have h4 : decide ((64 : Int) < (x : Int)) = false := decide_eq_false h2
      have GV : Hid (getS (x :: r) = match readE [] r with
        | .ok Y => ((x : Int), Y, 0)
        | .error c => (0, [], c)) := by show _ = _; rw [getS, if_pos hk]
      have sl := SL.out (w.alloc (.cells #[.int .i64 0, .slice none 0 0] 24))
      rw [show (x :: r).drop 1 = r from rfl] at CD
      generalize (if cap = 1 then some (⟨b, off, none⟩ : Addr) else (some (⟨b, off, none⟩ : Addr)).map (·.add (1 * 1))) = a1 at *
      generalize cap - 1 = cap1 at *
      obtain ⟨n1, hn1⟩ : ∃ n1, n - 1 = n1 := ⟨_, rfl⟩
      rw [hn1] at CD sl
      clear CA HN nn SL hk hn1
      go_enter Tryz.func14, Tryz.ntmps14
      go_wp2_with fail
      refine (CD.out ()).mono ?_
      rintro e u ⟨v, c, Y, rfl, g, hcase⟩
      have G : Hid (EG _ u _ Y) := g
      have KU : Hid (Blk u w.heap.size [.int .i64 0, .slice none 0 0] 24) := Blk.keep KA.out (Fr.of_below g.bel) HZ.out (by simp)
      have k0 : u.cell? ⟨w.heap.size, 0, none⟩ = some (.int .i64 0) := KU.out.cell 0
      have k1 : u.cell? ⟨w.heap.size, 1, none⟩ = some (.slice none 0 0) := KU.out.cell 1
      have f0 : u.frozen? ⟨w.heap.size, 0, none⟩ = false := KU.out.free 0
      have f1 : u.frozen? ⟨w.heap.size, 1, none⟩ = false := KU.out.free 1
      obtain ⟨va, vc, rfl⟩ := g.row.shape
      clear g CD
      rcases hcase with ⟨rfl, hr⟩ | ⟨hc, rfl, hr⟩
      · have E := end_ok G.out KU.out HZ.out BA.out (Nat.le_refl _) (.int .i64 ((x : Nat) : Int)) (.slice va Y.length vc)
        have E1 : Hid (Blk _ _ _ _) := E.2.2
        have E2 : Hid (Below _ _ _) := E.2.1
        have E3 : Hid (LRow evy _ (.slice va Y.length vc) Y) := E.1
        rw [hr] at GV
        clear E hr
        have cU : u.cell? ⟨b, off, none⟩ = some (.int .u8 ((x : Nat) : Int)) := (G.out.bel.cell (p := ⟨b, off, none⟩) HB.out).trans c0
        go_wp2
        exact bodyPost_ret (rget_ret E1.out rfl rfl) rfl ⟨_, _, _, rfl, by rw [GV.out], by rw [GV.out], by rw [GV.out]; exact E3.out, E2.out⟩
      · have E := end_no KU.out (BA.out.trans (G.out.bel.mono BA.out.size)) (Nat.le_refl _) (.int .i64 0) (.slice none 0 0)
        have E1 : Hid (Blk _ _ _ _) := E.2
        have E2 : Hid (Below _ _ _) := E.1
        rw [hr] at GV
        have hc1 : (c == 0) = false := by rw [beq_eq_false_iff_ne]; exact hc
        have hc2 : (c != 0) = true := by simpa using hc
        clear E hr hc
        go_wp2
        exact bodyPost_ret (rget_ret E1.out rfl rfl) rfl ⟨_, _, _, rfl, by rw [GV.out], by rw [GV.out], by rw [GV.out]; exact nil_row _, E2.out⟩
end Go.Proofs.YtmlilgbochbbiaaGreatDoor.Scr
