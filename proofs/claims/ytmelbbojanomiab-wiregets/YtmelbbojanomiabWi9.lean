/- Small words for law 26: the first bytes of a slice; calls at a world that differs by draws. -/
import Derived.Test.YtmelbbojanomiabRows
import Derived.Test.YtmelbbojanomiabWi8
import Derived.WalkKit
import Derived.ProofKit
import Derived.OpenShut
namespace Go.Proofs.Ytmelbbojanomiab
open Go.ChangeShapes Go.WideShapes Go.ChangeAt Go.RowKit
open Wi0

theorem sl_to (w : World) (a : Option Addr) (n cap k : Nat) (h : k ≤ cap) :
    (Instr.slice 22 (.slice a n cap) none (some (.int .i64 (k : Int))) none).run Try.prog w = .ok (.slice (if cap = 0 then a else a.map (·.add (0 * 1))) k cap) w := by
  obtain ⟨i0, hi, hz0, hz1, hz2⟩ := info_parts Try.info8
  have l : (0 : Int) ≤ (k : Int) ∧ (k : Int) ≤ cap := by omega
  simp [Instr.slice, run_underlying Try.underlying22, Instr.sliceBounds, Instr.sliceBound, asIntOf, sizeOf, typeInfo, hi, h]
theorem crow_to {w : World} {a : Option Addr} {n cap k : Nat} {xs : List Nat} (h : CRow w a n cap xs) (hk : k ≤ n) (h1 : 1 ≤ k) : ORow by8 w (.slice (if cap = 0 then a else a.map (·.add (0 * 1))) k cap) (xs.take k) := by
  have nn := h.nn
  have cp := h.cp
  obtain ⟨x, hx⟩ := get_some (xs := xs) (k := 0) (by omega)
  obtain ⟨b, off, rfl, _⟩ := h.cell hx
  rw [if_neg (by omega), Option.map_some, Addr.add_lit, Nat.zero_mul, Nat.add_zero]
  exact orow_take h.row cap (by omega)
theorem bg_sm {t u w' : World} {v : Value} {xs : List Nat} (s : Sm t u) (g : BG t w' v xs) : BG u w' v xs := by
  have e : t.heap.size = u.heap.size := by rw [s.1]
  refine ⟨by rw [← e]; exact g.own, ?_⟩
  rw [← e]
  exact s.from g.bel
theorem put_sm (u t : World) (ev : Ev) (ok : Eok ev) (s : Sm t u) : Calls Try.prog 12 #[.agg #[.int .i64 ev.kind, .int .i64 ev.cpu, .int .i64 ev.id, .int .u64 ev.mask, .int .i64 ev.n]] t fun r w' => ∃ v, r = .returned v ∧ BG u w' v (putE ev) :=
  (put_any t ev ok).mono fun _ _ ⟨v, e, g⟩ => ⟨v, e, bg_sm s g⟩
theorem bytes_sm (u w' t : World) (v x : Value) (xs : List Nat) (g : BG u w' v xs) (r : ORow by8 u x xs) (s : Sm t w') : Calls Try.prog 13 #[v, x] t fun e w'' => e = .returned (.bool true) ∧ Below u.heap.size u w'' :=
  (bytes_yes t v x xs (g.row.heap s.1) ((r.below g.bel).heap s.1)).mono fun _ _ ⟨e, h⟩ => ⟨e, by rw [h]; exact s.below g.bel⟩
theorem known_sm (u w' t : World) (b : Below u.heap.size u w') (s : Sm t w') : Calls Try.prog 6 #[] t fun e w'' => e = .returned (.bool true) ∧ Below u.heap.size u w'' :=
  (wknown_yes t).mono fun _ _ ⟨e, h⟩ => ⟨e, by have c := s.below b; exact c.trans (h.mono c.size)⟩
end Go.Proofs.Ytmelbbojanomiab
