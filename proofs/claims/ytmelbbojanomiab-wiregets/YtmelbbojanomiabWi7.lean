/- Bytes as strings, events held against each other; what must come of the fixed calls of law 26 does. -/
import Derived.Test.YtmelbbojanomiabRows
import Derived.Test.YtmelbbojanomiabWi4
import Derived.Test.YtmelbbojanomiabWi6
import Derived.WalkKit
import Derived.ProofKit
import Derived.OpenShut
import Derived.BigQuiet
import Derived.Laws.BytesArg
import Derived.Laws.StructEq
namespace Go.Proofs.Ytmelbbojanomiab
open Go.ChangeShapes Go.WideShapes Go.ChangeAt Go.RowKit
open Wi0

/-- Bytes as a string. -/
def st8 (xs : List Nat) : ByteArray := strOfNums (xs.map fun x : Nat => (x : Int))
theorem conv_st8 (w : World) (v : Value) (xs : List Nat) (h : ORow by8 w v xs) : (convert 22 9 v).run Try.prog w = .ok (.string (st8 xs)) w := by
  rcases h with ⟨rfl, a, cap, rfl⟩ | ⟨b, off, cap, rfl, _, hc⟩
  · cases a with
    | none =>
      rw [run_convert_bytes_string w 22 9 5 none 0 cap Try.underlying22 Try.underlying5 Try.underlying9]
      rfl
    | some p =>
      rw [run_convert_bytes_string w 22 9 5 (some p) 0 cap Try.underlying22 Try.underlying5 Try.underlying9, run_bytesToString w p 0 cap [] (by rfl)]
      rfl
  · have e := run_convert_bytes_arg (P := Try.prog) w 22 5 Try.underlying22 Try.underlying5 b off xs.length cap (xs.map fun x : Nat => (x : Int)) (by simp) (fun i hi => by
      rw [hc i hi, List.getElem?_eq_getElem hi, List.getD_eq_getElem?_getD, List.getElem?_map, List.getElem?_eq_getElem hi]
      rfl) 9 Try.underlying9
    exact e

theorem crow_of {w wr : World} {a : Option Addr} {n cap : Nat} {xs : List Nat} (g : BG w wr (.slice a n cap) xs) (hb : ∀ x ∈ xs, x < 256) : CRow wr a n cap xs := by
  refine ⟨g.row, ?_, hb⟩
  rcases g.own.2 with ⟨hv, hn⟩ | ⟨b, c, cur, hv, _, _, hn, _⟩
  · simp only [Value.slice.injEq] at hv; omega
  · simp only [Value.slice.injEq] at hv
    omega

theorem bytes_yes (w : World) (v u : Value) (xs : List Nat) (h : ORow by8 w v xs) (k : ORow by8 w u xs) :
    Calls Try.prog 13 #[v, u] w fun e w' => e = .returned (.bool true) ∧ w' = w := by
  have c1 := conv_st8 w v xs h
  have c2 := conv_st8 w u xs k
  obtain ⟨a1, p1, rfl⟩ := h.shape
  obtain ⟨a2, p2, rfl⟩ := k.shape
  generalize st8 xs = s at *
  clear h k
  go_enter Try.func13, Try.ntmps13
  go_wp2
  go_ret
  exact ⟨rfl, rfl⟩

set_option maxRecDepth 100000 in
set_option maxHeartbeats 2000000 in
theorem wknown_yes (w : World) : Calls Try.prog 6 #[] w fun e w' => e = .returned (.bool true) ∧ Below w.heap.size w w' := by
  have ok : Eok ⟨2, 0, 0, 0, 200⟩ := ⟨⟨by decide, by decide⟩, ⟨by decide, by decide⟩, ⟨by decide, by decide⟩, by decide, by decide, ⟨by decide, by decide⟩⟩
  have hp : putE ⟨2, 0, 0, 0, 200⟩ = [2, 8, 2, 0, 200] := by decide +kernel
  have hg := get_put ⟨2, 0, 0, 0, 200⟩ [] ok (by decide)
  rw [List.append_nil, hp] at hg
  have C1 : Hid (∀ _ : Unit, _) := fun _ => put_any w ⟨2, 0, 0, 0, 200⟩ ok
  rw [hp] at C1
  have C2 : Hid (∀ u a cap, CRow u a 5 cap [2, 8, 2, 0, 200] → _) := fun u a cap h => get_any u a 5 cap [2, 8, 2, 0, 200] h (by omega)
  rw [hg] at C2
  have ST : Hid (st8 [2, 8, 2, 0, 200] = ⟨#[2, 8, 2, 0, 200]⟩) := by show st8 [2, 8, 2, 0, 200] = ⟨#[2, 8, 2, 0, 200]⟩; rfl
  clear ok hp hg
  go_enter Try.func6, Try.ntmps6
  go_wp2_with fail
  refine (C1.out ()).mono ?_
  rintro e u1 ⟨v, rfl, g1⟩
  have G1 : Hid (BG w u1 v [2, 8, 2, 0, 200]) := g1
  obtain ⟨a, cap, hv⟩ := g1.shape
  subst hv
  have CR : Hid (CRow u1 a 5 cap [2, 8, 2, 0, 200]) := crow_of g1 (by decide)
  clear g1
  go_wp2_with fail
  refine (C2.out _ _ _ CR.out).mono ?_
  rintro e u2 ⟨rfl, b2⟩
  have B2 : Hid (Below w.heap.size w u2) := G1.out.bel.trans (b2.mono G1.out.bel.size)
  have RV : Hid (∀ t : World, t.heap = (u2.alloc (.cells (evL ⟨2, 0, 0, 0, 200⟩).toArray 26)).heap → ORow by8 t (.slice a 5 cap) [2, 8, 2, 0, 200]) := fun t ht => ((CR.out.below b2).row.below ((Below.refl _ _).alloc (Nat.le_refl _) _)).heap ht
  have cv := conv_st8 (u2.alloc (.cells (evL ⟨2, 0, 0, 0, 200⟩).toArray 26)) _ _ (RV.out _ rfl)
  rw [ST.out] at cv
  have cv2 : (convert 22 9 (.slice a 5 cap)).run Try.prog (u2.alloc (.cells #[.int .i64 2, .int .i64 0, .int .i64 0, .int .u64 0, .int .i64 200] 26)) = .ok (.string ⟨#[2, 8, 2, 0, 200]⟩) (u2.alloc (.cells #[.int .i64 2, .int .i64 0, .int .i64 0, .int .u64 0, .int .i64 200] 26)) := cv
  clear b2 cv
  simp only [geV, evV, evL]
  go_wp2
  go_ret
  exact ⟨rfl, B2.out.alloc B2.out.size _⟩
end Go.Proofs.Ytmelbbojanomiab
