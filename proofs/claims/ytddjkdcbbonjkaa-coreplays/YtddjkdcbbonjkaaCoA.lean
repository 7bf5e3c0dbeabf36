/- The program's cores as they lie in memory; what a core wants to do. -/
import Derived.Test.YtddjkdcbbonjkaaRows
import Derived.Test.YtddjkdcbbonjkaaCoM
import Derived.WalkKit
import Derived.ProofKit
import Derived.OpenShut
import Derived.BigQuiet
import Derived.Laws.MakeOwn
import Derived.Laws.ResultCell
import Derived.Shelf.RegionOpenPlain
namespace Go.Proofs.Ytddjkdcbbonjkaa
open Go.ChangeShapes Go.WideShapes Go.ChangeAt Go.RowKit
open Co

def flv (f : Fl) : Value := .agg #[.bool f.stop, .bool f.held, .bool f.hot, .bool f.act, .bool f.call, .bool f.irq, .bool f.timer, .bool f.work, .bool f.thr]
/-- The choices, in order. -/
def sos (f : Fl) : List Bool := [f.stop, f.hot, f.held || !f.act, f.call, f.irq, f.timer, f.work, f.thr]
def whs : List Int := [2, 3, 0, 4, 5, 6, 7, 8]
theorem wants_hit (f : Fl) (k : Nat) (hk : k < 8) (h : ∀ j, j < k → (sos f).getD j false = false) (e : (sos f).getD k false = true) : wants f = whs.getD k 0 := by
  obtain rfl | rfl | rfl | rfl | rfl | rfl | rfl | rfl : k = 0 ∨ k = 1 ∨ k = 2 ∨ k = 3 ∨ k = 4 ∨ k = 5 ∨ k = 6 ∨ k = 7 := by omega
  all_goals (
    have h0 := h 0; have h1 := h 1; have h2 := h 2; have h3 := h 3; have h4 := h 4; have h5 := h 5; have h6 := h 6
    simp [sos] at h0 h1 h2 h3 h4 h5 h6 e
    simp_all [wants, whs])
theorem wants_none (f : Fl) (h : ∀ j, j < 8 → (sos f).getD j false = false) : wants f = 9 := by
  have h0 := h 0; have h1 := h 1; have h2 := h 2; have h3 := h 3; have h4 := h 4; have h5 := h 5; have h6 := h 6; have h7 := h 7
  simp [sos] at h0 h1 h2 h3 h4 h5 h6 h7
  simp_all [wants]

set_option maxRecDepth 100000 in
theorem cho_index (s0 s1 s2 s3 s4 s5 s6 s7 : Bool) (k : Nat) (h : k < 8) (w : World) : (Instr.index 69 (.agg #[.bool s0, .int .i64 2, .bool s1, .int .i64 3, .bool s2, .int .i64 0, .bool s3, .int .i64 4, .bool s4, .int .i64 5, .bool s5, .int .i64 6, .bool s6, .int .i64 7, .bool s7, .int .i64 8]) (.int .i64 (k : Int))).run Try.prog w = .ok (.agg #[.bool ([s0, s1, s2, s3, s4, s5, s6, s7].getD k false), .int .i64 (whs.getD k 0)]) w := by
  obtain rfl | rfl | rfl | rfl | rfl | rfl | rfl | rfl : k = 0 ∨ k = 1 ∨ k = 2 ∨ k = 3 ∨ k = 4 ∨ k = 5 ∨ k = 6 ∨ k = 7 := by omega
  all_goals rfl

set_option maxRecDepth 100000 in
set_option maxHeartbeats 2000000 in
theorem wants_any (f : Fl) (w : World) : Calls Try.prog 26 #[flv f] w fun e w' => e = .returned (.int .i64 (wants f)) ∧ Below w.heap.size w w' := by
  have HH : Hid (∀ k, k < 8 → (∀ j, j < k → (sos f).getD j false = false) → (sos f).getD k false = true → wants f = whs.getD k 0) := fun k => wants_hit f k
  have HN : Hid ((∀ j, j < 8 → (sos f).getD j false = false) → wants f = 9) := wants_none f
  have HI : Hid (∀ k, k < 8 → ∀ w, _) := fun k hk w => cho_index f.stop f.hot (f.held || !f.act) f.call f.irq f.timer f.work f.thr k hk w
  rw [show [f.stop, f.hot, f.held || !f.act, f.call, f.irq, f.timer, f.work, f.thr] = sos f from rfl] at HI
  generalize wants f = ans at *
  generalize sos f = S at *
  obtain ⟨s, h, o, a, c, i, t, k, r⟩ := f
  simp only [flv]
  dsimp only at HI
  obtain ⟨z, hz⟩ : ∃ z, w.heap.size = z := ⟨_, rfl⟩
  cases h
  all_goals (
    simp only [Bool.false_or, Bool.true_or] at HI
    have S0 : Hid (∀ o1 o2, Below z w ((w.alloc o1).alloc o2)) := fun o1 o2 => ((Below.refl z w).alloc (by omega) _).alloc (by simp; omega) _
    rw [hz]
    go_enter Try.func26, Try.ntmps26
    go_wp2
    go_loopw [37] (fun i wr => ∃ k : Nat, (k : Int) ≤ 8 ∧ Hid (∀ j, j < k → S.getD j false = false) ∧ Below z w wr ∧ i = .int .i64 k) (fun i _ => 8 - (intOf i).toNat)
    case atStart => exact ⟨0, by omega, fun j hj => by omega, S0.out _ _, rfl⟩
    case round =>
      obtain ⟨n, hn, hB, hl, rfl⟩ := hrel
      have hzl : z ≤ wr.heap.size := by have := hl.size; omega
      have HL : Hid (Below z w wr) := hl
      have HZ : Hid (z ≤ wr.heap.size) := hzl
      clear hl hzl S0
      by_cases e : (n : Int) < 8
      · have hx := HI.out n (by omega) wr
        have hh := HH.out n (by omega) hB.out
        cases es : S.getD n false with
        | true =>
          rw [es] at hx
          have ev := hh es
          generalize whs.getD n 0 = y at *
          subst ev
          clear hh es
          go_wp2
          go_ret
          exact ⟨rfl, HL.out.alloc HZ.out _⟩
        | false =>
          rw [es] at hx
          have hB2 : Hid (∀ j, j < n + 1 → S.getD j false = false) := fun j hj => by
            by_cases c : j = n
            · subst c; exact es
            · exact hB.out j (by omega)
          generalize whs.getD n 0 = y at *
          clear hh es
          go_wp2
          go_roundw
          case rel => exact ⟨n + 1, by omega, hB2, HL.out.alloc HZ.out _, by go_num⟩
          case measure => simp [intOf]; omega
      · have ev := HN.out (fun j hj => hB.out j (by omega))
        subst ev
        go_wp2
        go_ret
        exact ⟨rfl, HL.out⟩)

end Go.Proofs.Ytddjkdcbbonjkaa
