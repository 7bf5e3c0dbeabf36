/- Texts: as Go has them, their sums, parts, slices. -/
import Derived.Test.YtnmbacegcbjfaaaDoorRows
import Derived.Test.YtnmbacegcbjfaaaDoorWd0
import Derived.Test.YtnmbacegcbjfaaaDoorWd3
import Derived.Test.YtnmbacegcbjfaaaDoorFw
import Derived.Test.YtnmbacegcbjfaaaDoorFg
import Derived.Test.YtnmbacegcbjfaaaDoorOro
import Derived.Lib.SmallJoins
import Derived.Laws.Concat
import Derived.Laws.DeepStrings4
import Derived.WalkKit
import Derived.ProofKit
import Derived.OpenShut
import Derived.BigQuiet
import Derived.WalkSmall
import Derived.WalkSpells
namespace Go.Proofs.YtnmbacegcbjfaaaDoor
open Go.ChangeShapes Go.WideShapes Go.ChangeAt Go.RowKit
open Wd Mm
set_option linter.unusedVariables false
set_option linter.unusedSimpArgs false
set_option maxRecDepth 100000

/-- A text as Go has it. -/
abbrev sb (l : List UInt8) : ByteArray := ⟨l.toArray⟩
theorem sb_app (a b : List UInt8) : sb a ++ sb b = sb (a ++ b) := by
  apply ByteArray.ext
  simp [sb, ByteArray.data_append]
theorem sb_size (a : List UInt8) : (sb a).size = a.length := by simp [sb, ByteArray.size]
theorem sb_inj {a b : List UInt8} : sb a = sb b ↔ a = b := by
  constructor
  · intro h
    have := congrArg (fun x : ByteArray => x.data.toList) h
    simpa [sb] using this
  · rintro rfl; rfl
theorem sb_eta (s : ByteArray) : s = sb s.data.toList := (Joins.bytes_eta s).symm
theorem add_str {P : Program} (a b : List UInt8) (h : a.length + b.length ≤ 1000000) (W : World) : (Op.stringOp .add (sb a) (sb b)).run P W = .ok (.string (sb (a ++ b))) W := by
  rw [run_string_add_sum W _ _ (by rw [sb_size, sb_size]; omega), sb_app]
theorem take_next {α : Type} (l : List α) (k : Nat) (h : k < l.length) : l.take (k + 1) = l.take k ++ [l[k]] := by
  rw [List.take_add_one, List.getElem?_eq_getElem h]
  rfl
theorem split_next {α : Type} (l : List α) (k : Nat) (h : k < l.length) : l = l.take k ++ l[k] :: l.drop (k + 1) := by
  rw [← List.drop_eq_getElem_cons h, List.take_append_drop]
theorem parts_le (b : UInt8) (s : List UInt8) : ∀ w ∈ parts b s, w.length ≤ s.length := by
  suffices ∀ (n : Nat) (l : List UInt8), l.length ≤ n → ∀ w ∈ parts b l, w.length ≤ l.length from this _ s (Nat.le_refl _)
  intro n
  induction n with
  | zero =>
    intro l h w hw
    have : l = [] := List.eq_nil_of_length_eq_zero (by omega)
    subst this
    simp [parts] at hw
    simp [hw]
  | succ n ih =>
    intro l h w hw
    rcases parts_cases b l with ⟨h1, h2⟩ | ⟨v, r, h1, h2, h3⟩
    · rw [h2] at hw
      simp at hw
      rw [hw]
      exact Nat.le_refl _
    · rw [h3] at hw
      have hl : l.length = v.length + 1 + r.length := by rw [h1]; simp; omega
      rcases List.mem_cons.1 hw with rfl | hm
      · omega
      · have := ih r (by omega) w hm
        omega
theorem slice_run (s : List UInt8) (i : Nat) (h : i < s.length) (W : World) : (Instr.slice 9 (.string (sb s)) (some (.int .i64 (i : Int))) (some (.int .i64 ((i : Int) + 1))) none).run Tryd.prog W = .ok (.string (sb [s[i]])) W := by
  have hs : ((sb s).size : Int) = s.length := by rw [sb_size]
  rw [run_slice_string_if W 9 _ .i64 .i64 _ _ Tryd.underlying9, hs, if_pos (by omega), if_pos (by omega)]
  have e1 : ((i : Int)).toNat = i := by omega
  have e2 : ((i : Int) + 1).toNat = i + 1 := by omega
  rw [e1, e2, Lib.extract_eq]
  congr 2
  show ({ data := ((s.drop i).take (i + 1 - i)).toArray } : ByteArray) = _
  rw [List.drop_eq_getElem_cons h, show i + 1 - i = 1 by omega]
  rfl
/-- A text as a value. -/
def str (l : List UInt8) : Value := .string (sb l)
end Go.Proofs.YtnmbacegcbjfaaaDoor
