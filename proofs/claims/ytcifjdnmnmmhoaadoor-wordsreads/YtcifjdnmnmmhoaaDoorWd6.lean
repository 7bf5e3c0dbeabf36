/- Events as lines: kinds and their words; one field out of an event, and into one. -/
import Derived.Test.YtcifjdnmnmmhoaaDoorRows
import Derived.Test.YtcifjdnmnmmhoaaDoorWd5
import Derived.WalkKit
import Derived.ProofKit
import Derived.OpenShut
import Derived.BigQuiet
import Derived.WalkSmall
import Derived.WalkSpells
import Derived.Deep.RegionHeld3
namespace Go.Proofs.YtcifjdnmnmmhoaaDoor
open Go.ChangeShapes Go.WideShapes Go.ChangeAt Go.RowKit
open Wd Mm
set_option linter.unusedVariables false
set_option linter.unusedSimpArgs false
set_option maxRecDepth 100000

/-- The word of a number, whatever it is. -/
def nmI (k : Int) : List UInt8 := if 0 ≤ k ∧ k < 31 then nmk k.toNat else []

set_option maxHeartbeats 1000000 in
theorem name_any (k : Int) (w : World) (g : GW w) :
    Calls Tryd.prog 9 #[.int .i64 k] w fun e w' => e = .returned (.string (sb (nmI k))) ∧ w' = w := by
  by_cases h0 : k < 0
  · rw [show nmI k = [] from if_neg (by omega)]
    clear g
    go_enter Tryd.func9, Tryd.ntmps9
    go_wp2
    go_ret
    exact ⟨rfl, rfl⟩
  · by_cases h1 : 31 ≤ k
    · rw [show nmI k = [] from if_neg (by omega)]
      clear g
      go_enter Tryd.func9, Tryd.ntmps9
      go_wp2
      go_ret
      exact ⟨rfl, rfl⟩
    · obtain ⟨j, rfl⟩ := Int.eq_ofNat_of_zero_le (by omega : 0 ≤ k)
      rw [show nmI (j : Int) = nmk j from if_pos (by omega)]
      have c0 := g.nm j (by omega)
      rw [Nat.mul_comm] at c0
      generalize nmk j = s at *
      have h2 : (j : Int) < 31 := by omega
      clear g h0 h1
      go_enter Tryd.func9, Tryd.ntmps9
      go_wp2
      go_ret
      exact ⟨rfl, rfl⟩

theorem kOf_at {s : List UInt8} {k : Nat} (hk : k < 31) (hb : ∀ j, j < k → nmk j ≠ s) (h : nmk k = s) : kOf s = k := by
  have hn : nms.length = 31 := rfl
  have hg : ∀ (j : Nat) (h : j < nms.length), nms[j] = nmk j := fun j h => by
    unfold nmk
    rw [List.getD_eq_getElem?_getD, List.getElem?_eq_getElem h]
    rfl
  have : nms.findIdx? (· == s) = some k := by
    rw [List.findIdx?_eq_some_iff_getElem]
    refine ⟨by omega, by rw [hg k (by omega)]; exact beq_iff_eq.2 h, fun j hj => ?_⟩
    rw [hg j (by omega)]
    simpa using hb j hj
  unfold kOf
  rw [this]
  rfl
theorem kOf_end {s : List UInt8} (hb : ∀ j, j < 31 → nmk j ≠ s) : kOf s = 0 := by
  by_cases h : kOf s = 0
  · exact h
  · obtain ⟨h1, h2⟩ := kOf_some h
    exact absurd h2 (hb _ h1)

set_option maxHeartbeats 1000000 in
theorem kind_any (s : List UInt8) (w : World) (g : GW w) :
    Calls Tryd.prog 14 #[.string (sb s)] w fun e w' => e = .returned (.int .i64 (kOf s : Nat)) ∧ w' = w := by
  obtain ⟨R, hR⟩ : ∃ R, kOf s = R := ⟨_, rfl⟩
  have HA : Hid (∀ k, k < 31 → (∀ j, j < k → nmk j ≠ s) → nmk k = s → R = k) := fun k a b c => by rw [← hR]; exact kOf_at a b c
  have HE : Hid ((∀ j, j < 31 → nmk j ≠ s) → R = 0) := fun a => by rw [← hR]; exact kOf_end a
  have HN : Hid (∀ k, k < 31 → w.cell? ⟨0, k * 2, none⟩ = some (.string (sb (nmk k)))) := fun k hk => by rw [Nat.mul_comm]; exact g.nm k hk
  rw [hR]
  clear hR g
  go_enter Tryd.func14, Tryd.ntmps14
  go_wp2
  go_loop [4] (fun i => ∃ k : Nat, (k : Int) ≤ 31 ∧ i = .int .i64 k ∧ Hid (∀ j, j < k → nmk j ≠ s)) (fun i => 31 - (intOf i).toNat)
  case atStart => exact ⟨0, by omega, rfl, fun j hj => by omega⟩
  case round =>
    obtain ⟨k, hk, rfl, hb⟩ := hrel
    by_cases h : (k : Int) < 31
    · have c0 := HN.out k (by omega)
      by_cases hs : nmk k = s
      · obtain rfl := HA.out k (by omega) hb.out hs
        have q : (nmk R == s) = true := by rw [beq_iff_eq]; exact hs
        clear hs
        go_wp2
        go_ret
        exact ⟨rfl, rfl⟩
      · have q : (nmk k == s) = false := by rw [beq_eq_false_iff_ne]; exact hs
        have HB : Hid (∀ j, j < k + 1 → nmk j ≠ s) := fun j hj => by
          by_cases e : j = k
          · rw [e]; exact hs
          · exact hb.out j (by omega)
        clear hs
        go_wp2
        go_round
        case rel => exact ⟨k + 1, by omega, by go_num, HB⟩
        case measure => simp [intOf]; omega
    · obtain rfl : k = 31 := by omega
      obtain rfl := HE.out hb.out
      go_wp2
      go_ret
      exact ⟨rfl, rfl⟩

/-- An event's cells. -/
def V.vals (e : V) : List Value := [.int .i64 e.k, .int .i64 e.c, .int .i64 e.i, .int .u64 (e.m : Nat), .int .i64 e.n]
/-- A letter of a line. -/
def isL (l : UInt8) : Prop := l = 99 ∨ l = 105 ∨ l = 109 ∨ l = 110

/-- A field's word, and the event behind it. -/
structure TK (w w' : World) (b : Nat) (e : V) : Prop where
  blk : Blk w' b (V.vals e) 24
  fr : Fr w.heap.size [b] w w'

set_option maxHeartbeats 2000000 in
theorem take_any (b : Nat) (e : V) (he : e.wf) (l : UInt8) (hl : isL l) (w : World) (g : GW w) (hb : Blk w b (V.vals e) 24) :
    Calls Tryd.prog 21 #[.pointer (some ⟨b, 0, none⟩), .int .i32 (l.toNat : Nat)] w fun r w' => r = .returned (.string (sb (fld e l))) ∧ TK w w' b (clr e l) := by
  have c1 : w.cell? ⟨b, 1, none⟩ = some (.int .i64 e.c) := hb.cell 1
  have c2 : w.cell? ⟨b, 2, none⟩ = some (.int .i64 e.i) := hb.cell 2
  have c3 : w.cell? ⟨b, 3, none⟩ = some (.int .u64 (e.m : Nat)) := hb.cell 3
  have c4 : w.cell? ⟨b, 4, none⟩ = some (.int .i64 e.n) := hb.cell 4
  have ST : Hid (∀ (u : World), Below w.heap.size w u → ∀ i x, Blk (u.setCell ⟨b, i, none⟩ x) b ((V.vals e).set i x) 24 ∧ Fr w.heap.size [b] w (u.setCell ⟨b, i, none⟩ x)) := fun u bu i x =>
    ⟨Blk.set (Blk.keep hb (Fr.of_below bu) hb.lt (by simp)) i x, ((Fr.of_below bu).mono (Nat.le_refl _) (by simp)).st b i x (by simp)⟩
  have FZ : Hid (∀ (u : World), Below w.heap.size w u → ∀ i, u.frozen? ⟨b, i, none⟩ = false) := fun u bu i => Blk.free (Blk.keep hb (Fr.of_below bu) hb.lt (by simp)) i
  have CC : Hid (∀ (u : World), Below w.heap.size w u → ∀ i, i < 5 → u.cell? ⟨b, i, none⟩ = (V.vals e)[i]?) := fun u bu i _ => Blk.cell (Blk.keep hb (Fr.of_below bu) hb.lt (by simp)) i
  have D1 : Hid (∀ _ : Unit, _) := fun _ => dec_any e.c w g he.c
  have D2 : Hid (∀ _ : Unit, _) := fun _ => dec_any e.i w g he.i
  have D3 : Hid (∀ _ : Unit, _) := fun _ => cpus_any e.m w g he.m
  have D4 : Hid (∀ _ : Unit, _) := fun _ => dec_any e.n w g he.n
  have R : Hid (∀ _ : Unit, clr e 99 = { e with c := 0 } ∧ clr e 105 = { e with i := 0 } ∧ clr e 109 = { e with m := 0 } ∧ clr e 110 = { e with n := 0 }) := fun _ => ⟨rfl, rfl, rfl, rfl⟩
  clear g hb he
  rcases hl with rfl | rfl | rfl | rfl
  · rw [show fld e 99 = Lib.itoa e.c from rfl, show ((99 : UInt8).toNat : Nat) = 99 from rfl]
    go_enter Tryd.func21, Tryd.ntmps21
    go_wp2_with fail
    refine (D1.out ()).mono ?_
    rintro r u ⟨rfl, bu⟩
    have fz := FZ.out u bu 1
    have cl : u.cell? ⟨b, 1, none⟩ = some (.int .i64 e.c) := CC.out u bu 1 (by omega)
    have S : Hid (_ ∧ _) := ST.out u bu 1 (.int .i64 0)
    clear bu
    go_wp2
    go_ret
    exact ⟨rfl, S.out.1, S.out.2⟩
  · rw [show fld e 105 = Lib.itoa e.i from rfl, show ((105 : UInt8).toNat : Nat) = 105 from rfl]
    go_enter Tryd.func21, Tryd.ntmps21
    go_wp2_with fail
    refine (D2.out ()).mono ?_
    rintro r u ⟨rfl, bu⟩
    have fz := FZ.out u bu 2
    have cl : u.cell? ⟨b, 2, none⟩ = some (.int .i64 e.i) := CC.out u bu 2 (by omega)
    have S : Hid (_ ∧ _) := ST.out u bu 2 (.int .i64 0)
    clear bu
    go_wp2
    go_ret
    exact ⟨rfl, S.out.1, S.out.2⟩
  · rw [show fld e 109 = cps e.m from rfl, show ((109 : UInt8).toNat : Nat) = 109 from rfl]
    go_enter Tryd.func21, Tryd.ntmps21
    go_wp2_with fail
    refine (D3.out ()).mono ?_
    rintro r u ⟨rfl, bu⟩
    have fz := FZ.out u bu 3
    have cl : u.cell? ⟨b, 3, none⟩ = some (.int .u64 (e.m : Nat)) := CC.out u bu 3 (by omega)
    have S : Hid (_ ∧ _) := ST.out u bu 3 (.int .u64 0)
    clear bu
    go_wp2
    go_ret
    exact ⟨rfl, S.out.1, S.out.2⟩
  · rw [show fld e 110 = Lib.itoa e.n from rfl, show ((110 : UInt8).toNat : Nat) = 110 from rfl]
    go_enter Tryd.func21, Tryd.ntmps21
    go_wp2_with fail
    refine (D4.out ()).mono ?_
    rintro r u ⟨rfl, bu⟩
    have fz := FZ.out u bu 4
    have cl : u.cell? ⟨b, 4, none⟩ = some (.int .i64 e.n) := CC.out u bu 4 (by omega)
    have S : Hid (_ ∧ _) := ST.out u bu 4 (.int .i64 0)
    clear bu
    go_wp2
    go_ret
    exact ⟨rfl, S.out.1, S.out.2⟩

/-- A word put into an event. -/
structure PT (w w' : World) (b : Nat) (e : V) : Prop where
  blk : Blk w' b (V.vals e) 24
  fr : Fr w.heap.size [b] w w'

set_option maxHeartbeats 2000000 in
theorem put_any (b : Nat) (e : V) (l : UInt8) (hl : isL l) (x : List UInt8) (hx : x.length ≤ 300) (w : World) (g : GW w) (hb : Blk w b (V.vals e) 24) :
    Calls Tryd.prog 39 #[.pointer (some ⟨b, 0, none⟩), .int .i32 (l.toNat : Nat), .string (sb x)] w fun r w' => match stf e l x with
      | some e' => r = .returned (.tuple #[]) ∧ PT w w' b e'
      | none => r = .panicked bad ∧ Below w.heap.size w w' := by
  have ST : Hid (∀ (u : World), Below w.heap.size w u → ∀ i x, Blk (u.setCell ⟨b, i, none⟩ x) b ((V.vals e).set i x) 24 ∧ Fr w.heap.size [b] w (u.setCell ⟨b, i, none⟩ x)) := fun u bu i x =>
    ⟨Blk.set (Blk.keep hb (Fr.of_below bu) hb.lt (by simp)) i x, ((Fr.of_below bu).mono (Nat.le_refl _) (by simp)).st b i x (by simp)⟩
  have FZ : Hid (∀ (u : World), Below w.heap.size w u → ∀ i, u.frozen? ⟨b, i, none⟩ = false) := fun u bu i => Blk.free (Blk.keep hb (Fr.of_below bu) hb.lt (by simp)) i
  have CC : Hid (∀ (u : World), Below w.heap.size w u → ∀ i, i < 5 → u.cell? ⟨b, i, none⟩ = (V.vals e)[i]?) := fun u bu i _ => Blk.cell (Blk.keep hb (Fr.of_below bu) hb.lt (by simp)) i
  have DN := num_any x w g (by omega)
  have DM := set_any x w g hx
  clear g hb
  rcases hl with rfl | rfl | rfl | rfl
  · rw [show stf e 99 x = (numOf x).map fun n => { e with c := n } from rfl, show ((99 : UInt8).toNat : Nat) = 99 from rfl]
    cases hn : numOf x with
    | none =>
      rw [hn] at DN
      have C : Hid (∀ _ : Unit, _) := fun _ => DN
      clear DN DM hn
      simp only [Option.map_none, Option.map_some]
      go_enter Tryd.func39, Tryd.ntmps39
      go_wp2_with fail
      refine (C.out ()).mono ?_
      rintro r u ⟨rfl, bu⟩
      go_wp2
      simp only [bodyPost]
      exact ⟨trivial, trivial, bu⟩
    | some n =>
      rw [hn] at DN
      have C : Hid (∀ _ : Unit, _) := fun _ => DN
      clear DN DM hn
      simp only [Option.map_none, Option.map_some]
      go_enter Tryd.func39, Tryd.ntmps39
      go_wp2_with fail
      refine (C.out ()).mono ?_
      rintro r u ⟨rfl, bu⟩
      have fz := FZ.out u bu 1
      have cl : u.cell? ⟨b, 1, none⟩ = some (.int .i64 e.c) := CC.out u bu 1 (by omega)
      have S : Hid (_ ∧ _) := ST.out u bu 1 (.int .i64 n)
      clear bu
      go_wp2
      go_end0
      exact ⟨rfl, S.out.1, S.out.2⟩
  · rw [show stf e 105 x = (numOf x).map fun n => { e with i := n } from rfl, show ((105 : UInt8).toNat : Nat) = 105 from rfl]
    cases hn : numOf x with
    | none =>
      rw [hn] at DN
      have C : Hid (∀ _ : Unit, _) := fun _ => DN
      clear DN DM hn
      simp only [Option.map_none, Option.map_some]
      go_enter Tryd.func39, Tryd.ntmps39
      go_wp2_with fail
      refine (C.out ()).mono ?_
      rintro r u ⟨rfl, bu⟩
      go_wp2
      simp only [bodyPost]
      exact ⟨trivial, trivial, bu⟩
    | some n =>
      rw [hn] at DN
      have C : Hid (∀ _ : Unit, _) := fun _ => DN
      clear DN DM hn
      simp only [Option.map_none, Option.map_some]
      go_enter Tryd.func39, Tryd.ntmps39
      go_wp2_with fail
      refine (C.out ()).mono ?_
      rintro r u ⟨rfl, bu⟩
      have fz := FZ.out u bu 2
      have cl : u.cell? ⟨b, 2, none⟩ = some (.int .i64 e.i) := CC.out u bu 2 (by omega)
      have S : Hid (_ ∧ _) := ST.out u bu 2 (.int .i64 n)
      clear bu
      go_wp2
      go_end0
      exact ⟨rfl, S.out.1, S.out.2⟩
  · rw [show stf e 109 x = (mskOf x).map fun n => { e with m := n } from rfl, show ((109 : UInt8).toNat : Nat) = 109 from rfl]
    cases hn : mskOf x with
    | none =>
      rw [hn] at DM
      have C : Hid (∀ _ : Unit, _) := fun _ => DM
      clear DN DM hn
      simp only [Option.map_none, Option.map_some]
      go_enter Tryd.func39, Tryd.ntmps39
      go_wp2_with fail
      refine (C.out ()).mono ?_
      rintro r u ⟨rfl, bu⟩
      go_wp2
      simp only [bodyPost]
      exact ⟨trivial, trivial, bu⟩
    | some n =>
      rw [hn] at DM
      have C : Hid (∀ _ : Unit, _) := fun _ => DM
      clear DN DM hn
      simp only [Option.map_none, Option.map_some]
      go_enter Tryd.func39, Tryd.ntmps39
      go_wp2_with fail
      refine (C.out ()).mono ?_
      rintro r u ⟨rfl, bu⟩
      have fz := FZ.out u bu 3
      have cl : u.cell? ⟨b, 3, none⟩ = some (.int .u64 (e.m : Nat)) := CC.out u bu 3 (by omega)
      have S : Hid (_ ∧ _) := ST.out u bu 3 (.int .u64 (n : Nat))
      clear bu
      go_wp2
      go_end0
      exact ⟨rfl, S.out.1, S.out.2⟩
  · rw [show stf e 110 x = (numOf x).map fun n => { e with n := n } from rfl, show ((110 : UInt8).toNat : Nat) = 110 from rfl]
    cases hn : numOf x with
    | none =>
      rw [hn] at DN
      have C : Hid (∀ _ : Unit, _) := fun _ => DN
      clear DN DM hn
      simp only [Option.map_none, Option.map_some]
      go_enter Tryd.func39, Tryd.ntmps39
      go_wp2_with fail
      refine (C.out ()).mono ?_
      rintro r u ⟨rfl, bu⟩
      go_wp2
      simp only [bodyPost]
      exact ⟨trivial, trivial, bu⟩
    | some n =>
      rw [hn] at DN
      have C : Hid (∀ _ : Unit, _) := fun _ => DN
      clear DN DM hn
      simp only [Option.map_none, Option.map_some]
      go_enter Tryd.func39, Tryd.ntmps39
      go_wp2_with fail
      refine (C.out ()).mono ?_
      rintro r u ⟨rfl, bu⟩
      have fz := FZ.out u bu 4
      have cl : u.cell? ⟨b, 4, none⟩ = some (.int .i64 e.n) := CC.out u bu 4 (by omega)
      have S : Hid (_ ∧ _) := ST.out u bu 4 (.int .i64 n)
      clear bu
      go_wp2
      go_end0
      exact ⟨rfl, S.out.1, S.out.2⟩
end Go.Proofs.YtcifjdnmnmmhoaaDoor
