/- Cores that are to stand still, and those that do, as two sets: what a stop answers and what it is then, and when the document's is the same: plain facts; no program in it. -/
import Derived.Test.YtbmdfoohabipjaaMm
namespace Go.Proofs.Ytbmdfoohabipjaa.Ek
open Mm

/-- It has begun while there is a core in either set. -/
def onB (l h : Nat) : Bool := !(l ||| h == 0)
def beE (l h x : Nat) : Int := if onB l h = true then 7 else if x = 0 then 2 else 0
def beL (l h x : Nat) : Nat := if beE l h x = 0 then x else l
def acE (l : Nat) (c : Int) : Int := if tb l c = true then 0 else 6
def acL (l : Nat) (c : Int) : Nat := if tb l c = true then nt l (bv c) else l
def acH (l h : Nat) (c : Int) : Nat := if tb l c = true then h ||| bv c else h
def frE (l h : Nat) : Int := if onB l h = true then 0 else 6
def rdB (l h : Nat) : Bool := onB l h && l == 0

/-- Sets of cores 0 to 63. -/
def W2 (l h : Nat) : Prop := l < 18446744073709551616 ∧ h < 18446744073709551616
/-- The document's: it has begun, for those of m, of whom those of k stand still. -/
structure Rel (l h : Nat) (on : Bool) (m k : Nat) : Prop where
  off : on = false → l = 0 ∧ h = 0
  is : on = true → l = nt m k ∧ h = k ∧ m ≠ 0 ∧ ∀ i, k.testBit i = true → m.testBit i = true
  wm : m < 18446744073709551616
  wk : k < 18446744073709551616

theorem or_zero {l h : Nat} (e : l ||| h = 0) : l = 0 ∧ h = 0 := by
  have a : ∀ i, (l ||| h).testBit i = false := fun i => by rw [e, Nat.zero_testBit]
  refine ⟨Nat.eq_of_testBit_eq fun i => ?_, Nat.eq_of_testBit_eq fun i => ?_⟩
  · have := a i
    rw [Nat.testBit_or, Bool.or_eq_false_iff] at this
    rw [this.1, Nat.zero_testBit]
  · have := a i
    rw [Nat.testBit_or, Bool.or_eq_false_iff] at this
    rw [this.2, Nat.zero_testBit]
theorem on_no {l h : Nat} (e : onB l h = false) : l = 0 ∧ h = 0 := or_zero (by simpa [onB] using e)
theorem on_zero : onB 0 0 = false := rfl
theorem bit_nt (m k i : Nat) (hk : k < 18446744073709551616) (hm : m < 18446744073709551616) : (nt m k).testBit i = (m.testBit i && !k.testBit i) := by
  rw [nt, Nat.testBit_and, bit_max _ _ hk]
  by_cases hi : i < 64
  · simp [hi]
  · rw [bit_hi hm (by omega)]
    simp
theorem tb_nt (m k : Nat) (c : Int) (hk : k < 18446744073709551616) (hm : m < 18446744073709551616) : tb (nt m k) c = (tb m c && !tb k c) := by
  by_cases h : 0 ≤ c ∧ c < 64
  · rw [tb_some _ _ h, tb_some _ _ h, tb_some _ _ h, bit_nt m k _ hk hm]
  · rw [tb_none _ _ h, tb_none _ _ h]
    rfl
theorem nt_zero (m : Nat) (hm : m < 18446744073709551616) : nt m 0 = m := Nat.eq_of_testBit_eq fun i => by rw [bit_nt m 0 i (by omega) hm, Nat.zero_testBit]; simp

section
variable {l h m k : Nat} {on : Bool}
theorem Rel.w2 (r : Rel l h on m k) : W2 l h := by
  cases on
  · obtain ⟨rfl, rfl⟩ := r.off rfl
    exact ⟨by omega, by omega⟩
  · obtain ⟨rfl, rfl, _⟩ := r.is rfl
    exact ⟨nt_lt _ _, r.wk⟩
theorem Rel.begun (r : Rel l h on m k) : onB l h = on := by
  cases on
  · obtain ⟨rfl, rfl⟩ := r.off rfl
    rfl
  · obtain ⟨rfl, rfl, n0, hs⟩ := r.is rfl
    have : nt m h ||| h = m := Nat.eq_of_testBit_eq fun i => by
      rw [Nat.testBit_or, bit_nt m h i r.wk r.wm]
      cases a : h.testBit i
      · simp
      · rw [hs i a]; rfl
    unfold onB
    rw [this]
    simpa using n0
theorem Rel.must (r : Rel l h on m k) (c : Int) : tb l c = (on && tb m c && !tb k c) := by
  cases on
  · obtain ⟨rfl, rfl⟩ := r.off rfl
    simp [tb]
  · obtain ⟨rfl, rfl, _⟩ := r.is rfl
    rw [tb_nt _ _ _ r.wk r.wm, Bool.true_and]
theorem Rel.held (r : Rel l h on m k) (c : Int) : tb h c = (on && tb k c) := by
  cases on
  · obtain ⟨rfl, rfl⟩ := r.off rfl
    simp [tb]
  · obtain ⟨_, rfl, _⟩ := r.is rfl
    rw [Bool.true_and]
theorem Rel.left (r : Rel l h on m k) : l = if on then nt m k else 0 := by
  cases on
  · exact (r.off rfl).1
  · exact (r.is rfl).1
theorem rel_zero : Rel 0 0 false 0 0 := ⟨fun _ => ⟨rfl, rfl⟩, fun e => by simp at e, by omega, by omega⟩
theorem rel_begin (r : Rel l h false m k) {x : Nat} (hx : x < 18446744073709551616) (n : x ≠ 0) : Rel x h true x 0 := by
  obtain ⟨_, rfl⟩ := r.off rfl
  exact ⟨fun e => by simp at e, fun _ => ⟨(nt_zero x hx).symm, rfl, n, fun i hi => by rw [Nat.zero_testBit] at hi; simp at hi⟩, hx, by omega⟩
theorem rel_free (r : Rel l h on m k) : Rel 0 0 false m k := ⟨fun _ => ⟨rfl, rfl⟩, fun e => by simp at e, r.wm, r.wk⟩
theorem rel_ack (r : Rel l h on m k) {c : Int} (e : tb l c = true) : Rel (nt l (bv c)) (h ||| bv c) on m (k ||| bv c) := by
  have e2 := r.must c
  rw [e] at e2
  cases on
  · simp at e2
  obtain ⟨rfl, rfl, n0, hs⟩ := r.is rfl
  have tm : tb m c = true := by
    cases a : tb m c
    · rw [a] at e2; simp at e2
    · rfl
  have hc : 0 ≤ c ∧ c < 64 := by
    by_cases q : 0 ≤ c ∧ c < 64
    · exact q
    · rw [tb_none m c q] at tm; simp at tm
  have wk := or_lt r.wk (bv_lt c)
  refine ⟨fun e => by simp at e, fun _ => ⟨Nat.eq_of_testBit_eq fun i => ?_, rfl, n0, fun i hi => ?_⟩, r.wm, wk⟩
  · rw [bit_nt _ _ i (bv_lt c) (nt_lt _ _), bit_nt _ _ i r.wk r.wm, bit_nt _ _ i wk r.wm, Nat.testBit_or, Bool.not_or, Bool.and_assoc]
  · rw [Nat.testBit_or, bit_bv] at hi
    cases a : h.testBit i
    · rw [a, Bool.false_or] at hi
      have ci := (of_decide_eq_true hi).1
      rw [tb_some m c hc, ci, Int.toNat_natCast] at tm
      exact tm
    · exact hs i a
end
end Go.Proofs.Ytbmdfoohabipjaa.Ek
