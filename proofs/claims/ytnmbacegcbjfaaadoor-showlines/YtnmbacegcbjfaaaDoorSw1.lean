/- Records as lines: the library's calls that show makes. -/
import Derived.Test.YtnmbacegcbjfaaaDoorRows
import Derived.Test.YtnmbacegcbjfaaaDoorGw
import Derived.Test.YtnmbacegcbjfaaaDoorSv1
import Derived.Lib.AppendIntMem
import Derived.Lib.Bytealg
import Derived.WalkKit
import Derived.ProofKit
import Derived.OpenShut
import Derived.BigQuiet
import Derived.WalkSmall
import Derived.WalkSpells
namespace Go.Proofs.YtnmbacegcbjfaaaDoor
open Go.ChangeShapes Go.WideShapes Go.ChangeAt Go.RowKit
open Wd Mm
set_option linter.unusedVariables false
set_option linter.unusedSimpArgs false
set_option maxRecDepth 100000
open Sv

theorem fmt_any (n : Int) (w : World) (g : GW w) (hn : inR n) :
    Calls Tryd.prog 17 #[.int .i64 n, .int .i64 10] w fun e w' => e = .returned (.string (sb (Lib.itoa n))) ∧ Below w.heap.size w w' := by
  refine (Tryd.strconv_FormatInt_10 n hn.1 hn.2 w g.tab).mono ?_
  rintro e w' ⟨rfl, k, os, rfl⟩
  exact ⟨rfl, Lib.below_grow w.heap.size w (Nat.le_refl _) k os⟩
theorem ita_any (n : Int) (w : World) (g : GW w) (hn : inR n) :
    Calls Tryd.prog 21 #[.int .i64 n] w fun e w' => e = .returned (.string (sb (Lib.itoa n))) ∧ Below w.heap.size w w' := by
  refine (Tryd.strconv_Itoa n hn.1 hn.2 w g.tab).mono ?_
  rintro e w' ⟨rfl, k, os, rfl⟩
  exact ⟨rfl, Lib.below_grow w.heap.size w (Nat.le_refl _) k os⟩
theorem prs_some {s : List UInt8} {v : Int} (h : pI s = some v) (w : World) (g : GW w) (hs : s.length ≤ 281474976710656) :
    Calls Tryd.prog 52 #[.string (sb s), .int .i64 10, .int .i64 64] w fun e w' => e = .returned (.tuple #[.int .i64 v, .nilIface]) ∧ Below w.heap.size w w' := by
  have hl : (sb s).size ≤ 281474976710656 := by rw [sb_size]; exact hs
  have hd : (sb s).data.toList = s := rfl
  unfold pI at h
  cases hp : Lib.parseIntB 64 s with
  | ok u =>
    rw [hp] at h
    obtain rfl := Option.some.inj h
    refine (Tryd.strconv_ParseInt_10_at64_ok (sb s) (by omega) u (by rw [hd]; exact hp) w).mono ?_
    rintro e w' ⟨rfl, rfl | ⟨t, rfl⟩⟩
    · exact ⟨rfl, Below.refl _ _⟩
    · exact ⟨rfl, Joins.below_bytesWorld _ _ _ _ (Nat.le_refl _)⟩
  | «syntax» => rw [hp] at h; cases h
  | range => rw [hp] at h; cases h
theorem prs_none {s : List UInt8} (h : pI s = none) (w : World) (g : GW w) (hs : s.length ≤ 281474976710656) :
    Calls Tryd.prog 52 #[.string (sb s), .int .i64 10, .int .i64 64] w fun e w' => (∃ v t p, e = .returned (.tuple #[.int .i64 v, .iface t p])) ∧ Below w.heap.size w w' := by
  have hl : (sb s).size ≤ 281474976710656 := by rw [sb_size]; exact hs
  have hd : (sb s).data.toList = s := rfl
  unfold pI at h
  cases hp : Lib.parseIntB 64 s with
  | ok u => rw [hp] at h; cases h
  | «syntax» =>
    obtain ⟨te, pe, he⟩ := g.es
    refine (Tryd.strconv_ParseInt_10_at64_syntax (sb s) hl (by rw [hd]; exact hp) _ w he (Or.inr ⟨te, pe, rfl⟩)).mono ?_
    rintro e w' ⟨N, rfl, _, _, b⟩
    exact ⟨⟨_, _, _, rfl⟩, b⟩
  | range =>
    obtain ⟨te, pe, he⟩ := g.er
    refine (Tryd.strconv_ParseInt_10_at64_range (sb s) hl (by rw [hd]; exact hp) _ w he (Or.inr ⟨te, pe, rfl⟩)).mono ?_
    rintro e w' ⟨N, rfl, _, _, b⟩
    exact ⟨⟨_, _, _, rfl⟩, b⟩
/-- The place of a letter. -/
def ixl (l : UInt8) : Int := if l = 99 then 0 else if l = 105 then 1 else if l = 110 then 2 else if l = 101 then 3 else -1
theorem ixl_is : ∀ l : UInt8, Lib.indexByte [99, 105, 110, 101] l = ixl l := by
  intro l
  have : ∀ k : Fin 256, Lib.indexByte [99, 105, 110, 101] (UInt8.ofNat k.val) = ixl (UInt8.ofNat k.val) := by decide +kernel
  have h := this ⟨l.toNat, l.toNat_lt⟩
  simpa using h
theorem idx_any (l : UInt8) (w : World) :
    Calls Tryd.prog 51 #[.string (sb [99, 105, 110, 101]), .int .u8 (l.toNat : Nat)] w fun e w' => e = .returned (.int .i64 (ixl l)) ∧ w' = w := by
  have := Tryd.strings_IndexByte (sb [99, 105, 110, 101]) (l.toNat : Nat) w
  have e : ((l.toNat : Nat) : Int).toNat.toUInt8 = l := by simp
  rw [e, show (sb [99, 105, 110, 101]).data.toList = [99, 105, 110, 101] from rfl, ixl_is] at this
  exact this
theorem scut_any (s : List UInt8) (w : World) (g : GW w) (hs : s.length ≤ 1000000) :
    Calls Tryd.prog 50 #[.string (sb s), .string (sb [32])] w fun e w' => e = .returned (.tuple #[.string (sb (Lib.cut s [32]).1), .string (sb (Lib.cut s [32]).2.1), .bool (Lib.cut s [32]).2.2]) ∧ Sm w' w := by
  obtain ⟨m, hm⟩ := g.mx
  refine (Tryd.strings_Cut (sb s) (sb [32]) m w (by rw [sb_size]; omega) hm).mono ?_
  rintro e w' ⟨rfl, n, rfl⟩
  exact ⟨rfl, rfl, rfl, rfl, rfl⟩
end Go.Proofs.YtnmbacegcbjfaaaDoor
