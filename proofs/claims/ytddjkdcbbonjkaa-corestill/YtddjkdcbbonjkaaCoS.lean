/- What a core does not do, by all cases. No program in it. -/
import Derived.Test.YtddjkdcbbonjkaaCoM
namespace Go.Proofs.Ytddjkdcbbonjkaa
open Co

/-- What a core does not do. -/
theorem still (p i : Bool) (f : Fl) : (p = false → next p i f = 0) ∧ (f.act = false → next p i f ≤ 3) ∧ (i = true → next p i f ≤ 1) ∧ (p = true → i = true → ((f.stop || (f.hot || (!f.held && (f.act && (f.call || (f.irq || (f.timer || (f.work || f.thr))))))) ) == (next p i f == 1)) = true) := by
  obtain ⟨g0, g1, g2, g3, g4, g5, g6, g7, g8⟩ := f
  cases p <;> cases i <;> cases g0 <;> cases g1 <;> cases g2 <;> cases g3 <;> cases g4 <;> cases g5 <;> cases g6 <;> cases g7 <;> cases g8 <;> decide

end Go.Proofs.Ytddjkdcbbonjkaa
