/- Contracts of the program's layers, as far as this claim needs them. -/
import Derived.Test.YtmkboahjkhkefaaGreatDoorQKy
import Derived.Test.YtmkboahjkhkefaaGreatDoorRows
import Derived.WalkKit
import Derived.ProofKit
import Derived.OpenShut
import Derived.BigQuiet
import Derived.Deep.RegionHeld3
set_option linter.unusedVariables false
set_option linter.unusedSimpArgs false
namespace Go.Proofs.YtmkboahjkhkefaaGreatDoor.Krn
open Go.ChangeShapes Go.WideShapes Go.ChangeAt Go.RowKit
open Mm
section
variable {B : Nat} {w0 : World} {A : List (Nat × List Value × TypeId)} {a : KA} {m m' : Nat} {S S' : KS} {w w' : World}
theorem KX.alloc (h : KX B w0 A a m S w) (o : Obj) : KX B w0 A a m S (w.alloc o) := h.below (((Fr.refl w.heap.size [] w).alloc (Nat.le_refl _) o).below (by simp))
theorem KX.new (h : KX B w0 A a m S w) (cs : List Value) (t : TypeId) : KX B w0 ((w.heap.size, cs, t) :: A) a m S (w.alloc (.cells cs.toArray t)) := h.box (Blk.new w cs t) (((Fr.refl w.heap.size [] w).alloc (Nat.le_refl _) _).below (by simp)) (Nat.le_refl _)
theorem pl_no {n : Nat} {O : Nat → Bool} {X : Nat → Tm.Th} {id c : Int} {f : Bool} (q : ¬ Tm.plE n O id c = 0) : Tm.plX n O X id c f = X := by
  unfold Tm.plE at q
  unfold Tm.plX
  rw [if_neg]
  rintro ⟨h1, h2⟩
  rw [if_pos h1, if_pos h2] at q
  exact q rfl
set_option maxRecDepth 100000 in
theorem k_all  (a : KA) (w : World) :
    Calls Tryz.prog 57 #[.pointer (some ⟨a.k, 0, none⟩)] w fun e w' => e = .returned (.pointer (some ⟨a.k, 0, none⟩)) ∧ w' = w := by
  go_enter Tryz.func57, Tryz.ntmps57
  go_wp2
  go_ret
  exact ⟨rfl, rfl⟩
set_option maxRecDepth 100000 in
theorem k_Online (h : KX B w0 A a m S w) :
    Calls Tryz.prog 15 #[.pointer (some ⟨a.k, 0, none⟩)] w fun e w' => e = .returned (.int .u64 (S.on : Int)) ∧ w' = w := by
  have c0 := h.c0
  have C : Hid (∀ _ : Unit, _) := fun _ => k_all a w
  clear h
  go_enter Tryz.func15, Tryz.ntmps15
  go_wp2_with fail
  refine (C.out ()).mono ?_
  rintro e w1 ⟨rfl, rfl⟩
  go_wp2
  go_ret
  exact ⟨rfl, rfl⟩
set_option maxRecDepth 100000 in
theorem k_Cpus (h : KX B w0 A a m S w) :
    Calls Tryz.prog 26 #[.pointer (some ⟨a.k, 0, none⟩)] w fun e w' => e = .returned (.int .i64 (a.n : Int)) ∧ w' = w := by
  have c17 := h.c17
  have C : Hid (∀ _ : Unit, _) := fun _ => k_all a w
  clear h
  go_enter Tryz.func26, Tryz.ntmps26
  go_wp2_with fail
  refine (C.out ()).mono ?_
  rintro e w1 ⟨rfl, rfl⟩
  go_wp2
  go_ret
  exact ⟨rfl, rfl⟩
set_option maxRecDepth 100000 in
theorem k_isCore (h : KX B w0 A a m S w) (c : Int) :
    Calls Tryz.prog 58 #[.pointer (some ⟨a.k, 0, none⟩), .int .i64 (c)] w fun e w' => e = .returned (.bool (isC a.n c)) ∧ w' = w := by
  have c17 := h.c17
  clear h
  unfold isC
  by_cases c1 : c < 0
  · have e1 : (decide (0 ≤ c) && decide (c < (a.n : Int))) = false := by simp; omega
    rw [e1]
    go_enter Tryz.func58, Tryz.ntmps58
    go_wp2
    go_ret
    exact ⟨rfl, rfl⟩
  · by_cases c2 : c < (a.n : Int)
    · have e1 : (decide (0 ≤ c) && decide (c < (a.n : Int))) = true := by simp; omega
      rw [e1]
      have c3 : 0 ≤ c := by omega
      go_enter Tryz.func58, Tryz.ntmps58
      go_wp2
      go_ret
      exact ⟨rfl, rfl⟩
    · have e1 : (decide (0 ≤ c) && decide (c < (a.n : Int))) = false := by simp; omega
      rw [e1]
      have c3 : 0 ≤ c := by omega
      have c4 : (a.n : Int) ≤ c := by omega
      have c5 : decide (c < (a.n : Int)) = false := decide_eq_false c2
      go_enter Tryz.func58, Tryz.ntmps58
      go_wp2
      go_ret
      exact ⟨rfl, rfl⟩
set_option maxRecDepth 100000 in
theorem k_place (h : KX B w0 A a m S w) (x : Nat) (c : Int) (hx : x < 18446744073709551616) (hc : -9223372036854775808 ≤ c) :
    Calls Tryz.prog 214 #[.pointer (some ⟨a.k, 0, none⟩), .int .u64 (x : Int), .int .i64 (c)] w fun e w' => e = .returned (.tuple #[.int .i64 (Aff.cN x S.ac c), .bool (Aff.cF x S.ac)]) ∧ w' = w := by
  have c1 := h.c1
  have C : Hid (∀ _ : Unit, _) := fun _ => Aff.choose_any x S.ac c w hx h.kb.2.2 hc h.tab
  clear h
  generalize Aff.cN x S.ac c = y at *
  generalize Aff.cF x S.ac = z at *
  generalize Aff.cE S.ac = u at *
  go_enter Tryz.func214, Tryz.ntmps214
  go_wp2_with fail
  refine (C.out ()).mono ?_
  rintro e w1 ⟨rfl, rfl⟩
  go_wp2
  go_ret2
  exact ⟨rfl, rfl⟩
set_option maxRecDepth 100000 in
theorem k_putOn (h : KX B w0 A a m S w) (id p c : Int) (f : Bool) (hw : wf id) (hm : m ≤ 1000000) :
    Calls Tryz.prog 165 #[.pointer (some ⟨a.k, 0, none⟩), .int .i64 (id), .int .i64 (p), .int .i64 (c), .bool f] w fun e w' => e = .returned (.int .i64 (putOn a.n S id p c f).1) ∧ KX B w0 A a (m + 1) (putOn a.n S id p c f).2 w' := by
  unfold putOn
  have c3 := h.c3
  have C : Hid (∀ _ : Unit, _) := fun _ => th_place h id c f
  by_cases q : Tm.plE a.n S.O id c = 0
  · simp only [if_pos q]
    rw [q] at C
    go_enter Tryz.func165, Tryz.ntmps165
    go_wp2_with fail
    refine (C.out ()).mono ?_
    rintro e w1 ⟨rfl, h1⟩
    have c4 := h1.c4
    go_wp2_with fail
    refine (rq_put h1 c p id hw hm).mono ?_
    rintro e w2 ⟨rfl, h2⟩
    go_wp2
    go_ret
    exact ⟨rfl, h2⟩
  · simp only [if_neg q]
    have e0 : Tm.plX a.n S.O S.X id c f = S.X := pl_no q
    have H : Hid (∀ w', KX B w0 A a m { S with X := Tm.plX a.n S.O S.X id c f } w' → KX B w0 A a (m + 1) S w') := fun w' h => by
      rw [e0] at h
      exact h.more (by omega)
    generalize Tm.plE a.n S.O id c = y at *
    have q2 : (y == 0) = false := by simpa using q
    go_enter Tryz.func165, Tryz.ntmps165
    go_wp2_with fail
    refine (C.out ()).mono ?_
    rintro e w1 ⟨rfl, h1⟩
    go_wp2
    go_ret
    exact ⟨rfl, H.out _ h1⟩
set_option maxRecDepth 100000 in
theorem k_put (h : KX B w0 A a m S w) (id near : Int) (hw : wf id) (hn : -9223372036854775808 ≤ near) (hm : m ≤ 1000000) :
    Calls Tryz.prog 149 #[.pointer (some ⟨a.k, 0, none⟩), .int .i64 (id), .int .i64 (near)] w fun e w' => e = .returned (.int .i64 (put a.n S id near).1) ∧ KX B w0 A a (m + 1) (put a.n S id near).2 w' := by
  unfold put
  have c3 := h.c3
  have C : Hid (∀ _ : Unit, _) := fun _ => th_get h id
  have g := geT_ok h id
  by_cases q : geE S id = 0
  · simp only [if_pos q]
    rw [q] at C
    generalize geT S id = t at *
    have t1 := g.1
    clear g
    go_enter Tryz.func149, Tryz.ntmps149
    go_wp2_with fail
    refine (C.out ()).mono ?_
    rintro e w1 ⟨rfl, h1⟩
    have h2 := h1.new [.int .i64 t.prio, .int .u64 (t.mask : Int), .int .i64 t.cpu, .bool t.forced, .bool t.sleeps, .int .i64 t.timer] 145
    go_wp2_with fail
    refine (k_place h2 t.mask near t1 hn).mono ?_
    rintro e w2 ⟨rfl, rfl⟩
    go_wp2_with fail
    refine (k_putOn h2 id t.prio _ _ hw hm).mono ?_
    rintro e w3 ⟨rfl, h3⟩
    go_wp2
    go_ret
    exact ⟨rfl, h3.drop⟩
  · simp only [if_neg q]
    generalize geE S id = y at *
    have q2 : (y == 0) = false := by simpa using q
    go_enter Tryz.func149, Tryz.ntmps149
    go_wp2_with fail
    refine (C.out ()).mono ?_
    rintro e w1 ⟨rfl, h1⟩
    go_wp2
    go_ret
    exact ⟨rfl, (h1.alloc _).more (by omega)⟩
end
end Go.Proofs.YtmkboahjkhkefaaGreatDoor.Krn
