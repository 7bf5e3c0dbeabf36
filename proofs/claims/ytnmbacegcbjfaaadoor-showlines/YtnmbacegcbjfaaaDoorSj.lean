/- Lists of texts, gathered by append, and joined. -/
import Derived.Test.YtnmbacegcbjfaaaDoorWsb
import Derived.Test.YtnmbacegcbjfaaaDoorShelf
import Derived.Shelf.Strings.OnBuilder
import Derived.WalkKit
import Derived.ProofKit
import Derived.OpenShut
import Derived.BigQuiet
import Derived.WalkSmall
import Derived.WalkSpells
namespace Go.Proofs.YtnmbacegcbjfaaaDoor
open Go.ChangeShapes Go.WideShapes Go.ChangeAt Go.RowKit
open Wd Mm
set_option linter.unusedVariables false
set_option linter.unusedSimpArgs false
set_option maxRecDepth 100000

theorem Tryd.infoStr : (Tryd.prog.info? 9).map (fun i => (i.zero, i.size, i.bytes)) = some (some (.string ByteArray.empty), 1, 16) := by kernel_rfl
theorem str_app {w wr u : World} {v : Value} {xs : List (List UInt8)} (x : List UInt8) (g : OG str 9 w wr v xs) (b : Below wr.heap.size wr u) (hl : xs.length ≤ 100000) :
    ∃ v' w2, (Builtin.append_ #[30, 30] 30 #[v, .slice (some ⟨u.heap.size, 0, none⟩) 1 1]).run Tryd.prog (u.alloc (.cells #[.string (sb x)] 9)) = .ok v' w2 ∧ OG str 9 w w2 v' (xs ++ [x]) := by
  obtain ⟨i0, hi, hz0, hz1, hz2⟩ := info_parts Tryd.infoStr
  exact og_app 9 30 30 i0 (.string ByteArray.empty) 16 Tryd.underlying30 hi hz0 hz1 hz2 rfl (fun _ => rfl) g (b.alloc b.size _) (orow_new (c := str) u [x] 9 1 1 rfl) (fun a cap h => by simp at h) (by simp only [List.length_singleton, maxLen]; omega) (by simp only [List.length_singleton]; omega)
/-- What a loop has gathered, joined. -/
theorem join_any {w wr u : World} {v : Value} {xs : List (List UInt8)} (g : OG str 9 w wr v xs) (b : Below wr.heap.size wr u) (hl : xs.length ≤ 100000) (hj : (Lib.join xs [44]).length ≤ 140737488355328) :
    Calls Tryd.prog 22 #[v, .string (sb [44])] u fun e w' => e = .returned (.string (sb (Lib.join xs [44]))) ∧ Below u.heap.size u w' := by
  have r := (g.keep b).row
  rcases r with ⟨rfl, a, cap, rfl⟩ | ⟨bk, off, cap, rfl, hlt, hc⟩
  · refine (Tryd.strings_Join_none a cap (sb [44]) u).mono ?_
    rintro e w' ⟨rfl, rfl⟩
    exact ⟨rfl, Below.refl _ _⟩
  · have hx : ((xs.map sb).map fun x : ByteArray => x.data.toList) = xs := by
      rw [List.map_map]
      conv => rhs; rw [← List.map_id xs]
      exact List.map_congr_left fun x _ => rfl
    have hcap : xs.length ≤ cap := by
      have o := g.own
      rcases o.2 with ⟨hv, hn⟩ | ⟨b', cap', cur, hv, hb, hh, hn, hc', hz, ht⟩
      · rw [hn]; omega
      · simp only [Value.slice.injEq] at hv
        rw [hv.2.2]
        omega
    have := Tryd.strings_Join bk off cap (xs.map sb) (sb [44]) u (fun j x hj => by
      rw [List.getElem?_map] at hj
      cases hq : xs[j]? with
      | none => rw [hq] at hj; cases hj
      | some y =>
        rw [hq] at hj
        have hjl : j < xs.length := by
          rcases Nat.lt_or_ge j xs.length with h | h
          · exact h
          · rw [List.getElem?_eq_none h] at hq; cases hq
        rw [hc j hjl, hq]
        simp only [Option.map_some] at hj ⊢
        rw [← Option.some.inj hj]
        rfl) hlt (by simp; omega) (by simpa using hcap) (by rw [hx]; exact hj)
    rw [List.length_map, hx] at this
    refine this.mono ?_
    rintro e w' ⟨rfl, bb⟩
    exact ⟨rfl, bb⟩
end Go.Proofs.YtnmbacegcbjfaaaDoor
