/- A stop that has begun, whose cores acknowledge: for StopAll. -/
import Derived.Test.YtbmdfoohabipjaaEn
namespace Go.Proofs.Ytbmdfoohabipjaa
open Go.ChangeShapes Go.WideShapes Go.ChangeAt Go.RowKit
open Mm Ek

/-- It has begun; those of l do not yet stand still. -/
structure SA (w wr : World) (s l : Nat) : Prop where
  ex : ∃ h, ST wr s l h ∧ onB l h = true
  bel : Below s w wr

theorem acL_eq (l : Nat) (c : Int) (hl : l < 18446744073709551616) : acL l c = nt l (bv c) := by
  unfold acL
  cases e : tb l c
  · rw [nt_bv_same l c hl e]; rfl
  · rfl
theorem acE_eq (l : Nat) (c : Int) : (acE l c == 0) = tb l c := by
  unfold acE
  cases tb l c <;> rfl
theorem on_ack {l h : Nat} (c : Int) (o : onB l h = true) : onB (acL l c) (acH l h c) = true := by
  unfold acL acH
  cases e : tb l c
  · simpa using o
  · have hc : 0 ≤ c ∧ c < 64 := by
      by_cases q : 0 ≤ c ∧ c < 64
      · exact q
      · rw [tb_none l c q] at e; simp at e
    cases z : onB (nt l (bv c)) (h ||| bv c)
    · have z2 := (or_zero (on_no z).2).2
      rw [bv_some c hc] at z2
      have := Nat.two_pow_pos c.toNat
      omega
    · simp [z]
section
variable {w wr v1 w1 : World} {s l : Nat}
theorem SA.hi (h : SA w wr s l) : s < wr.heap.size := by
  obtain ⟨_, q, _⟩ := h.ex
  exact q.sb.lt
theorem SA.lt (h : SA w wr s l) : l < 18446744073709551616 := by
  obtain ⟨_, q, _⟩ := h.ex
  exact q.w2.1
theorem SA.sm (h : SA w wr s l) (e : Sm w1 wr) : SA w w1 s l := by
  obtain ⟨x, q, o⟩ := h.ex
  exact ⟨⟨x, q.heap e.1, o⟩, e.below h.bel⟩
theorem sa_ack (c : Int) (h : SA w v1 s l) (e : Sm w1 v1) :
    Calls Try.prog 24 #[.pointer (some ⟨s, 0, none⟩), .int .i64 c] w1 fun r w' => r = .returned (.int .i64 (acE l c)) ∧ SA w w' s (nt l (bv c)) := by
  obtain ⟨x, q, o⟩ := (h.sm e).ex
  refine (tack_any c w1 q).mono fun _ w' ⟨r1, r2, r3⟩ => ⟨r1, ⟨acH l x c, ?_, ?_⟩, fr_own (h.sm e).bel r3 (by have := (h.sm e).hi; omega) (by simp)⟩
  · rw [← acL_eq l c h.lt]; exact r2
  · rw [← acL_eq l c h.lt]; exact on_ack c o
theorem sa_ready (h : SA w v1 s l) (e : Sm w1 v1) :
    Calls Try.prog 33 #[.pointer (some ⟨s, 0, none⟩)] w1 fun r w' => r = .returned (.bool (l == 0)) ∧ SA w w' s l := by
  obtain ⟨x, q, o⟩ := (h.sm e).ex
  refine (tready_any w1 q).mono fun _ w' ⟨r1, r2⟩ => ⟨?_, (h.sm e).sm r2⟩
  rw [r1]
  unfold rdB
  rw [o, Bool.true_and]
theorem sa_left (h : SA w v1 s l) (e : Sm w1 v1) :
    Calls Try.prog 35 #[.pointer (some ⟨s, 0, none⟩)] w1 fun r w' => r = .returned (.int .u64 (l : Int)) ∧ SA w w' s l := by
  obtain ⟨x, q, o⟩ := (h.sm e).ex
  exact (tleft_any w1 q).mono fun _ w' ⟨r1, r2⟩ => ⟨r1, by rw [r2]; exact h.sm e⟩
end
end Go.Proofs.Ytbmdfoohabipjaa
