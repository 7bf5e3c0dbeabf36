/- What affin's Choose answers, for all masks and every number, and that the fixed calls of layer 12's laws come out as they must (where the table of the lowest bits reads as the program's text lays it). -/
import Derived.Test.YtghnpmkibnggeaaDoorRows
import Derived.Test.YtghnpmkibnggeaaDoorKb
import Derived.WalkKit
import Derived.ProofKit
import Derived.OpenShut
import Derived.BigQuiet
import Derived.OwnWalk
namespace Go.Proofs.YtghnpmkibnggeaaDoor
open Go.ChangeShapes Go.WideShapes Go.ChangeAt Go.RowKit
open Mm

/-- The cores that one is chosen of. -/
def cS (a b : Nat) : Nat := if a &&& b = 0 then b else a &&& b
/-- The core that is chosen, whether it is forced, and the error. -/
def cN (a b : Nat) (c : Int) : Int := if b = 0 then 0 else if tb (cS a b) c = true then c else ((hd (nx (cS a b) c) : Nat) : Int)
def cF (a b : Nat) : Bool := if b = 0 then false else decide (a &&& b = 0)
def cE (b : Nat) : Int := if b = 0 then 12 else 0

theorem cS_lt {a b : Nat} (hb : b < 18446744073709551616) : cS a b < 18446744073709551616 := by
  unfold cS
  split
  · exact hb
  · exact and_lt hb
theorem cS_ne {a b : Nat} (hb : b ≠ 0) : cS a b ≠ 0 := by
  unfold cS
  split
  · exact hb
  · assumption
theorem many_zero : (ls 0).length = 0 := by rw [ls_zero]; rfl
theorem many_pos {a : Nat} (ha : a < 18446744073709551616) (h : a ≠ 0) : 0 < (ls a).length := by
  rcases Nat.eq_zero_or_pos (ls a).length with e | e
  · exact absurd (ls_nil a ha (List.eq_nil_of_length_eq_zero e)) h
  · exact e
theorem er_nx {m : Nat} {c : Int} (hm : m < 18446744073709551616) (h : m ≠ 0) : er (nx m c) = 0 := by
  apply if_neg
  unfold nx
  split
  · exact fun e => h (ls_nil m hm e)
  · assumption
/-- What is chosen is one of them. -/
theorem cN_in {a b : Nat} {c : Int} (hb : b < 18446744073709551616) (h : b ≠ 0) : tb (cS a b) (cN a b c) = true := by
  unfold cN
  rw [if_neg h]
  split
  · assumption
  · have hm := cS_lt (a := a) hb
    have h0 := cS_ne (a := a) h
    generalize cS a b = m at *
    have hn : nx m c ≠ [] := by
      unfold nx
      split
      · exact fun e => h0 (ls_nil m hm e)
      · assumption
    have hi : hd (nx m c) ∈ ls m := by
      have hx : hd (nx m c) ∈ nx m c := by
        cases e : nx m c with
        | nil => exact absurd e hn
        | cons x r => simp [hd]
      unfold nx at hx ⊢
      split at hx
      · rw [if_pos (by assumption)]; exact hx
      · rw [if_neg (by assumption)]; exact (List.mem_filter.1 hx).1
    obtain ⟨h1, h2⟩ := (mem_ls m _).1 hi
    rw [tb_nat _ _ h1]
    exact h2

theorem tb_and (a b : Nat) (c : Int) : tb (a &&& b) c = (tb a c && tb b c) := by
  unfold tb
  rw [Nat.testBit_and]
  cases decide (0 ≤ c ∧ c < 64) <;> simp
theorem tb_zero (c : Int) : tb 0 c = false := by unfold tb; simp
/-- What is chosen may be; it is wanted, unless it is forced. -/
theorem cN_right {a b : Nat} {c : Int} (hb : b < 18446744073709551616) (h : b ≠ 0) : tb b (cN a b c) = true ∧ tb a (cN a b c) = !(decide (a &&& b = 0)) := by
  have hi := cN_in (a := a) (c := c) hb h
  generalize cN a b c = x at *
  unfold cS at hi
  by_cases h1 : a &&& b = 0
  · rw [if_pos h1] at hi
    refine ⟨hi, ?_⟩
    have := tb_and a b x
    rw [h1, tb_zero, hi, Bool.and_true] at this
    rw [← this, decide_eq_true h1]
    rfl
  · rw [if_neg h1, tb_and, Bool.and_eq_true] at hi
    refine ⟨hi.2, ?_⟩
    rw [hi.1, decide_eq_false h1]
    rfl

set_option maxRecDepth 100000 in
set_option maxHeartbeats 1000000 in
theorem choose_any (a b : Nat) (c : Int) (w : World) (ha : a < 18446744073709551616) (hb : b < 18446744073709551616) (hc : -9223372036854775808 ≤ c) (ht : Tab w) :
    Calls Tryd.prog 25 #[.int .u64 (a : Int), .int .u64 (b : Int), .int .i64 c] w fun e w' => e = .returned (.tuple #[.int .i64 (cN a b c), .bool (cF a b), .int .i64 (cE b)]) ∧ w' = w := by
  by_cases h0 : b = 0
  · subst h0
    have M : Hid (∀ w, _) := fun w => kmany_any 0 w hb
    rw [many_zero] at M
    rw [show cN a 0 c = 0 from if_pos rfl, show cF a 0 = false from if_pos rfl, show cE 0 = 12 from if_pos rfl]
    clear ha hb hc ht
    go_enter Tryd.func25, Tryd.ntmps25
    go_wp2_with fail
    refine (M.out _).mono ?_
    rintro e w' ⟨rfl, rfl⟩
    go_wp2
    go_ret3
    exact ⟨rfl, rfl⟩
  · have HT : Hid (Tab w) := ht
    have M1 : Hid (∀ w, _) := fun w => kmany_any b w hb
    have M2 : Hid (∀ w, _) := fun w => kand_any a b w ha hb
    have M3 : Hid (∀ w, _) := fun w => kmany_any (a &&& b) w (and_lt hb)
    have M4 : Hid (∀ w, _) := fun w => khas_any (cS a b) c w (cS_lt hb)
    have M5 : Hid (∀ w, Tab w → _) := fun w ht => knext_any (cS a b) c w (cS_lt hb) hc ht
    rw [er_nx (cS_lt hb) (cS_ne h0)] at M5
    have p1 := many_pos hb h0
    have q1 : (((ls b).length : Int) == 0) = false := by rw [beq_eq_false_iff_ne]; omega
    have l1 := ls_le b
    rw [show cE b = 0 from if_neg h0]
    rcases Bool.eq_false_or_eq_true (tb (cS a b) c) with ht2 | ht2
    · rw [show cN a b c = c from (if_neg h0).trans (if_pos ht2)]
      rw [ht2] at M4
      by_cases h1 : a &&& b = 0
      · rw [show cF a b = true from (if_neg h0).trans (decide_eq_true h1)]
        rw [show cS a b = b from if_pos h1] at M4
        rw [h1, many_zero] at M3
        rw [h1] at M2
        generalize (ls b).length = n1 at *
        clear ha hb ht h0 ht2 h1 M5
        go_enter Tryd.func25, Tryd.ntmps25
        go_wp2_with fail
        refine (M1.out _).mono ?_
        rintro e w' ⟨rfl, rfl⟩
        go_wp2_with fail
        refine (M2.out _).mono ?_
        rintro e w' ⟨rfl, rfl⟩
        go_wp2_with fail
        refine (M3.out _).mono ?_
        rintro e w' ⟨rfl, rfl⟩
        go_wp2_with fail
        refine (M4.out _).mono ?_
        rintro e w' ⟨rfl, rfl⟩
        go_wp2
        go_ret3
        exact ⟨rfl, rfl⟩
      · rw [show cF a b = false from (if_neg h0).trans (decide_eq_false h1)]
        rw [show cS a b = a &&& b from if_neg h1] at M4
        have p2 := many_pos (and_lt hb) h1
        have q2 : (((ls (a &&& b)).length : Int) == 0) = false := by rw [beq_eq_false_iff_ne]; omega
        generalize (ls b).length = n1 at *
        generalize (ls (a &&& b)).length = n2 at *
        generalize a &&& b = P at *
        clear ha hb ht h0 ht2 h1 M5
        go_enter Tryd.func25, Tryd.ntmps25
        go_wp2_with fail
        refine (M1.out _).mono ?_
        rintro e w' ⟨rfl, rfl⟩
        go_wp2_with fail
        refine (M2.out _).mono ?_
        rintro e w' ⟨rfl, rfl⟩
        go_wp2_with fail
        refine (M3.out _).mono ?_
        rintro e w' ⟨rfl, rfl⟩
        go_wp2_with fail
        refine (M4.out _).mono ?_
        rintro e w' ⟨rfl, rfl⟩
        go_wp2
        go_ret3
        exact ⟨rfl, rfl⟩
    · rw [show cN a b c = ((hd (nx (cS a b) c) : Nat) : Int) from (if_neg h0).trans (if_neg (by rw [ht2]; simp))]
      rw [ht2] at M4
      generalize hd (nx (cS a b) c) = R at *
      by_cases h1 : a &&& b = 0
      · rw [show cF a b = true from (if_neg h0).trans (decide_eq_true h1)]
        rw [show cS a b = b from if_pos h1] at M4 M5
        rw [h1, many_zero] at M3
        rw [h1] at M2
        generalize (ls b).length = n1 at *
        clear ha hb ht h0 ht2 h1
        go_enter Tryd.func25, Tryd.ntmps25
        go_wp2_with fail
        refine (M1.out _).mono ?_
        rintro e w' ⟨rfl, rfl⟩
        go_wp2_with fail
        refine (M2.out _).mono ?_
        rintro e w' ⟨rfl, rfl⟩
        go_wp2_with fail
        refine (M3.out _).mono ?_
        rintro e w' ⟨rfl, rfl⟩
        go_wp2_with fail
        refine (M4.out _).mono ?_
        rintro e w' ⟨rfl, rfl⟩
        go_wp2_with fail
        refine (M5.out _ HT.out).mono ?_
        rintro e w' ⟨rfl, rfl⟩
        go_wp2
        go_ret3
        exact ⟨rfl, rfl⟩
      · rw [show cF a b = false from (if_neg h0).trans (decide_eq_false h1)]
        rw [show cS a b = a &&& b from if_neg h1] at M4 M5
        have p2 := many_pos (and_lt hb) h1
        have q2 : (((ls (a &&& b)).length : Int) == 0) = false := by rw [beq_eq_false_iff_ne]; omega
        generalize (ls b).length = n1 at *
        generalize (ls (a &&& b)).length = n2 at *
        generalize a &&& b = P at *
        clear ha hb ht h0 ht2 h1
        go_enter Tryd.func25, Tryd.ntmps25
        go_wp2_with fail
        refine (M1.out _).mono ?_
        rintro e w' ⟨rfl, rfl⟩
        go_wp2_with fail
        refine (M2.out _).mono ?_
        rintro e w' ⟨rfl, rfl⟩
        go_wp2_with fail
        refine (M3.out _).mono ?_
        rintro e w' ⟨rfl, rfl⟩
        go_wp2_with fail
        refine (M4.out _).mono ?_
        rintro e w' ⟨rfl, rfl⟩
        go_wp2_with fail
        refine (M5.out _ HT.out).mono ?_
        rintro e w' ⟨rfl, rfl⟩
        go_wp2
        go_ret3
        exact ⟨rfl, rfl⟩

set_option maxRecDepth 100000 in
set_option maxHeartbeats 1000000 in
theorem afknown_yes (w : World) (ht : Tab w) :
    Calls Tryd.prog 27 #[] w fun e w' => e = .returned (.bool true) ∧ w' = w := by
  have C1 : Hid (∀ _ : Unit, _) := fun _ => choose_any 10 7 3 w (by omega) (by omega) (by omega) ht
  have C2 : Hid (∀ _ : Unit, _) := fun _ => choose_any 8 3 3 w (by omega) (by omega) (by omega) ht
  have C3 : Hid (∀ _ : Unit, _) := fun _ => choose_any 1 0 0 w (by omega) (by omega) (by omega) ht
  rw [show cN 10 7 3 = 1 by decide +kernel, show cF 10 7 = false by decide +kernel, show cE 7 = 0 from rfl] at C1
  rw [show cN 8 3 3 = 0 by decide +kernel, show cF 8 3 = true by decide +kernel, show cE 3 = 0 from rfl] at C2
  rw [show cN 1 0 0 = 0 by decide +kernel, show cF 1 0 = false by decide +kernel, show cE 0 = 12 from rfl] at C3
  clear ht
  go_enter Tryd.func27, Tryd.ntmps27
  go_wp2_with fail
  refine (C1.out ()).mono ?_
  rintro e w' ⟨rfl, rfl⟩
  go_wp2_with fail
  refine (C2.out ()).mono ?_
  rintro e w' ⟨rfl, rfl⟩
  go_wp2_with fail
  refine (C3.out ()).mono ?_
  rintro e w' ⟨rfl, rfl⟩
  go_wp2
  go_ret
  exact ⟨rfl, rfl⟩
end Go.Proofs.YtghnpmkibnggeaaDoor
