/- Contracts of the program's layers, as far as this claim needs them. -/
import Derived.Test.YtmkboahjkhkefaaGreatDoorRows
import Derived.Test.YtmkboahjkhkefaaGreatDoorQXb
import Derived.WalkKit
import Derived.ProofKit
import Derived.OpenShut
import Derived.BigQuiet
import Derived.OwnWalk
import Derived.Deep.Slices
import Derived.Lib.SmallJoins
set_option linter.unusedVariables false
set_option linter.unusedSimpArgs false
namespace Go.Proofs.YtmkboahjkhkefaaGreatDoor.Aff
open Go.ChangeShapes Go.WideShapes Go.ChangeAt Go.RowKit
open Mm
def cS (a b : Nat) : Nat := if a &&& b = 0 then b else a &&& b
def cN (a b : Nat) (c : Int) : Int := if b = 0 then 0 else if tb (cS a b) c = true then c else ((hd (nx (cS a b) c) : Nat) : Int)
def cF (a b : Nat) : Bool := if b = 0 then false else decide (a &&& b = 0)
def cE (b : Nat) : Int := if b = 0 then 12 else 0
theorem cS_lt {a b : Nat} (hb : b < 18446744073709551616) : cS a b < 18446744073709551616 := by
  unfold cS
  split
  · exact hb
  · exact and_lt hb
theorem cS_ne {a b : Nat} (hb : b ≠ 0) : cS a b ≠ 0 := by
  unfold cS
  split
  · exact hb
  · assumption
theorem many_zero : (ls 0).length = 0 := by rw [ls_zero]; rfl
theorem many_pos {a : Nat} (ha : a < 18446744073709551616) (h : a ≠ 0) : 0 < (ls a).length := by
  rcases Nat.eq_zero_or_pos (ls a).length with e | e
  · exact absurd (ls_nil a ha (List.eq_nil_of_length_eq_zero e)) h
  · exact e
theorem er_nx {m : Nat} {c : Int} (hm : m < 18446744073709551616) (h : m ≠ 0) : er (nx m c) = 0 := by
  apply if_neg
  unfold nx
  split
  · exact fun e => h (ls_nil m hm e)
  · assumption
set_option maxRecDepth 100000 in
set_option maxHeartbeats 1000000 in
theorem choose_any (a b : Nat) (c : Int) (w : World) (ha : a < 18446744073709551616) (hb : b < 18446744073709551616) (hc : -9223372036854775808 ≤ c) (ht : Tab w) :
    Calls Tryz.prog 268 #[.int .u64 (a : Int), .int .u64 (b : Int), .int .i64 c] w fun e w' => e = .returned (.tuple #[.int .i64 (cN a b c), .bool (cF a b), .int .i64 (cE b)]) ∧ w' = w := by
  by_cases h0 : b = 0
  · subst h0
    have M : Hid (∀ w, _) := fun w => kmany_any 0 w hb
    rw [many_zero] at M
    rw [show cN a 0 c = 0 from if_pos rfl, show cF a 0 = false from if_pos rfl, show cE 0 = 12 from if_pos rfl]
    clear ha hb hc ht
    go_enter Tryz.func268, Tryz.ntmps268
    go_wp2_with fail
    refine (M.out _).mono ?_
    rintro e w' ⟨rfl, rfl⟩
    go_wp2
    go_ret3
    exact ⟨rfl, rfl⟩
  · have HT : Hid (Tab w) := ht
    have M1 : Hid (∀ w, _) := fun w => kmany_any b w hb
    have M2 : Hid (∀ w, _) := fun w => kand_any a b w ha hb
    have M3 : Hid (∀ w, _) := fun w => kmany_any (a &&& b) w (and_lt hb)
    have M4 : Hid (∀ w, _) := fun w => khas_any (cS a b) c w (cS_lt hb)
    have M5 : Hid (∀ w, Tab w → _) := fun w ht => knext_any (cS a b) c w (cS_lt hb) hc ht
    rw [er_nx (cS_lt hb) (cS_ne h0)] at M5
    have p1 := many_pos hb h0
    have q1 : (((ls b).length : Int) == 0) = false := by rw [beq_eq_false_iff_ne]; omega
    have l1 := ls_le b
    rw [show cE b = 0 from if_neg h0]
    rcases Bool.eq_false_or_eq_true (tb (cS a b) c) with ht2 | ht2
    · rw [show cN a b c = c from (if_neg h0).trans (if_pos ht2)]
      rw [ht2] at M4
      by_cases h1 : a &&& b = 0
      · rw [show cF a b = true from (if_neg h0).trans (decide_eq_true h1)]
        rw [show cS a b = b from if_pos h1] at M4
        rw [h1, many_zero] at M3
        rw [h1] at M2
        generalize (ls b).length = n1 at *
        clear ha hb ht h0 ht2 h1 M5
        go_enter Tryz.func268, Tryz.ntmps268
        go_wp2_with fail
        refine (M1.out _).mono ?_
        rintro e w' ⟨rfl, rfl⟩
        go_wp2_with fail
        refine (M2.out _).mono ?_
        rintro e w' ⟨rfl, rfl⟩
        go_wp2_with fail
        refine (M3.out _).mono ?_
        rintro e w' ⟨rfl, rfl⟩
        go_wp2_with fail
        refine (M4.out _).mono ?_
        rintro e w' ⟨rfl, rfl⟩
        go_wp2
        go_ret3
        exact ⟨rfl, rfl⟩
      · rw [show cF a b = false from (if_neg h0).trans (decide_eq_false h1)]
        rw [show cS a b = a &&& b from if_neg h1] at M4
        have p2 := many_pos (and_lt hb) h1
        have q2 : (((ls (a &&& b)).length : Int) == 0) = false := by rw [beq_eq_false_iff_ne]; omega
        generalize (ls b).length = n1 at *
        generalize (ls (a &&& b)).length = n2 at *
        generalize a &&& b = P at *
        clear ha hb ht h0 ht2 h1 M5
        go_enter Tryz.func268, Tryz.ntmps268
        go_wp2_with fail
        refine (M1.out _).mono ?_
        rintro e w' ⟨rfl, rfl⟩
        go_wp2_with fail
        refine (M2.out _).mono ?_
        rintro e w' ⟨rfl, rfl⟩
        go_wp2_with fail
        refine (M3.out _).mono ?_
        rintro e w' ⟨rfl, rfl⟩
        go_wp2_with fail
        refine (M4.out _).mono ?_
        rintro e w' ⟨rfl, rfl⟩
        go_wp2
        go_ret3
        exact ⟨rfl, rfl⟩
    · rw [show cN a b c = ((hd (nx (cS a b) c) : Nat) : Int) from (if_neg h0).trans (if_neg (by rw [ht2]; simp))]
      rw [ht2] at M4
      generalize hd (nx (cS a b) c) = R at *
      by_cases h1 : a &&& b = 0
      · rw [show cF a b = true from (if_neg h0).trans (decide_eq_true h1)]
        rw [show cS a b = b from if_pos h1] at M4 M5
        rw [h1, many_zero] at M3
        rw [h1] at M2
        generalize (ls b).length = n1 at *
        clear ha hb ht h0 ht2 h1
        go_enter Tryz.func268, Tryz.ntmps268
        go_wp2_with fail
        refine (M1.out _).mono ?_
        rintro e w' ⟨rfl, rfl⟩
        go_wp2_with fail
        refine (M2.out _).mono ?_
        rintro e w' ⟨rfl, rfl⟩
        go_wp2_with fail
        refine (M3.out _).mono ?_
        rintro e w' ⟨rfl, rfl⟩
        go_wp2_with fail
        refine (M4.out _).mono ?_
        rintro e w' ⟨rfl, rfl⟩
        go_wp2_with fail
        refine (M5.out _ HT.out).mono ?_
        rintro e w' ⟨rfl, rfl⟩
        go_wp2
        go_ret3
        exact ⟨rfl, rfl⟩
      · rw [show cF a b = false from (if_neg h0).trans (decide_eq_false h1)]
        rw [show cS a b = a &&& b from if_neg h1] at M4 M5
        have p2 := many_pos (and_lt hb) h1
        have q2 : (((ls (a &&& b)).length : Int) == 0) = false := by rw [beq_eq_false_iff_ne]; omega
        generalize (ls b).length = n1 at *
        generalize (ls (a &&& b)).length = n2 at *
        generalize a &&& b = P at *
        clear ha hb ht h0 ht2 h1
        go_enter Tryz.func268, Tryz.ntmps268
        go_wp2_with fail
        refine (M1.out _).mono ?_
        rintro e w' ⟨rfl, rfl⟩
        go_wp2_with fail
        refine (M2.out _).mono ?_
        rintro e w' ⟨rfl, rfl⟩
        go_wp2_with fail
        refine (M3.out _).mono ?_
        rintro e w' ⟨rfl, rfl⟩
        go_wp2_with fail
        refine (M4.out _).mono ?_
        rintro e w' ⟨rfl, rfl⟩
        go_wp2_with fail
        refine (M5.out _ HT.out).mono ?_
        rintro e w' ⟨rfl, rfl⟩
        go_wp2
        go_ret3
        exact ⟨rfl, rfl⟩
end Go.Proofs.YtmkboahjkhkefaaGreatDoor.Aff
namespace Go.Proofs.YtmkboahjkhkefaaGreatDoor.Aff
open Go.ChangeShapes Go.WideShapes Go.ChangeAt Go.RowKit Go.Deep
def kval (k : Nat) (x : Int) : Value := if k = 0 then .bool (x != 0) else if k = 1 then .int .i64 x else .int .u64 x
def kund (k : Nat) : TypeDesc := if k = 0 then .bool else if k = 1 then .int .i64 else .int .u64
def kwf (k : Nat) (x : Int) : Prop := if k = 0 then True else if k = 1 then (Lit.int .i64 x).wf = true else (Lit.int .u64 x).wf = true
theorem open_field {H : Type} {enc : TypeId × Value → H} {P : Program} {w : World} {base : Nat} {spare : Nat → Bool} {held : Bool} {t : TypeId} {fuel : Nat} {u : Value} {x : DataW H × List MemPlace} (k : Nat) (ht : P.underlying t = some (kund k)) (h : DataW.trod enc P w base spare held fuel t [u] = some x) : ∃ z : Int, u = kval k z ∧ kwf k z := by
  unfold kund at ht
  unfold kval kwf
  by_cases k0 : k = 0
  · rw [if_pos k0] at ht
    obtain ⟨z, ez, _⟩ := DataW.trod_bool ht h
    simp at ez
    refine ⟨if z = true then 1 else 0, ?_, ?_⟩
    · rw [if_pos k0, ez]
      cases z <;> rfl
    · rw [if_pos k0]
      trivial
  · rw [if_neg k0] at ht
    by_cases k1 : k = 1
    · rw [if_pos k1] at ht
      obtain ⟨z, ez, _, wf⟩ := DataW.trod_int ht h
      simp at ez
      exact ⟨z, by rw [if_neg k0, if_pos k1, ez], by rw [if_neg k0, if_pos k1]; exact wf⟩
    · rw [if_neg k1] at ht
      obtain ⟨z, ez, _, wf⟩ := DataW.trod_int ht h
      simp at ez
      exact ⟨z, by rw [if_neg k0, if_neg k1, ez], by rw [if_neg k0, if_neg k1]; exact wf⟩
theorem open_cells {H : Type} {enc : TypeId × Value → H} {P : Program} {w : World} {base : Nat} {spare : Nat → Bool} {held : Bool} {e : TypeId} {fs : Array Field} {fuel : Nat} {cs : List Value} {x : DataW H × List MemPlace} (ks : List Nat)
    (he : P.underlying e = some (.struct fs)) (hs : fs.size = ks.length) (hl : cs.length = ks.length)
    (hk : ∀ j, j < ks.length → ∃ f, fs[j]? = some f ∧ f.offset = j ∧ P.cellsOf f.type = 1 ∧ P.underlying f.type = some (kund (ks.getD j 1)))
    (h : DataW.trod enc P w base spare held fuel e cs = some x) : ∃ g : Nat → Int, ∀ j, j < ks.length → cs[j]? = some (kval (ks.getD j 1) (g j)) ∧ kwf (ks.getD j 1) (g j) := by
  obtain ⟨xs, n', _, _, _, hxl, hf⟩ := DataW.trod_struct he h
  have one : ∀ j, j < ks.length → ∃ z : Int, cs[j]? = some (kval (ks.getD j 1) z) ∧ kwf (ks.getD j 1) z := by
    intro j hj
    obtain ⟨f, e1, e2, e3, e4⟩ := hk j hj
    have g := hf j f e1
    have hjl : j < cs.length := by omega
    rw [e2, e3] at g
    have e5 : (cs.drop j).take 1 = [cs[j]] := by
      rw [List.drop_eq_getElem_cons hjl]
      rfl
    rw [e5, List.getElem?_eq_getElem (by omega)] at g
    obtain ⟨z, ez, wf⟩ := open_field _ e4 g
    exact ⟨z, by rw [List.getElem?_eq_getElem hjl, ez], wf⟩
  obtain ⟨g, hg⟩ := choose_lt one
  exact ⟨g, hg⟩
theorem open_rec {H : Type} {enc : TypeId × Value → H} {P : Program} {w : World} {base : Nat} {spare : Nat → Bool} {held : Bool} {r : Reach} {b0 : Nat} {t : TypeId} {fs : Array Field} {v : Value} {d : DataW H} {p : List MemPlace} (ks : List Nat)
    (he : P.underlying t = some (.struct fs)) (ce : P.cellsOf t = ks.length) (hs : fs.size = ks.length)
    (hk : ∀ j, j < ks.length → ∃ f, fs[j]? = some f ∧ f.offset = j ∧ P.cellsOf f.type = 1 ∧ P.underlying f.type = some (kund (ks.getD j 1)))
    (hv : Value.okWide P w r b0 t v) (h : DataW.Trod enc P w base spare held t v d p) :
    ∃ g : Nat → Int, v = .agg ((List.range ks.length).map fun j => kval (ks.getD j 1) (g j)).toArray ∧ ∀ j, j < ks.length → kwf (ks.getD j 1) (g j) := by
  obtain ⟨cs, rfl, hsz⟩ := okWide_struct he hv
  obtain ⟨fuel, hf⟩ := h
  have hl : cs.toList.length = ks.length := by rw [Array.length_toList]; exact hsz.trans ce
  obtain ⟨g, hg⟩ := open_cells (cs := cs.toList) ks he hs hl hk (by simpa [Value.cells] using hf)
  refine ⟨g, ?_, fun j hj => (hg j hj).2⟩
  congr 1
  apply Array.toList_inj.1
  apply List.ext_getElem?
  intro j
  by_cases hj : j < ks.length
  · rw [(hg j hj).1, List.getElem?_map, List.getElem?_range hj]
    rfl
  · rw [List.getElem?_eq_none (by omega), List.getElem?_eq_none (by simp; omega)]
end Go.Proofs.YtmkboahjkhkefaaGreatDoor.Aff
namespace Go.Proofs.YtmkboahjkhkefaaGreatDoor.Aff
open Go.ChangeShapes Go.WideShapes Go.ChangeAt Go.RowKit
open Mm
structure It where
  id : Int
  mask : Nat
  cpu : Int
  forced : Bool
/- What the document says of them. -/
def wrg (b : Nat) (x : It) : Bool := !(tb b x.cpu) || (!(tb x.mask x.cpu) && decide (x.mask &&& b ≠ 0)) || (x.forced == tb x.mask x.cpu)
end Go.Proofs.YtmkboahjkhkefaaGreatDoor.Aff
namespace Go.Proofs.YtmkboahjkhkefaaGreatDoor.Aff
open Go.ChangeShapes Go.WideShapes Go.ChangeAt Go.RowKit
open Mm
end Go.Proofs.YtmkboahjkhkefaaGreatDoor.Aff
