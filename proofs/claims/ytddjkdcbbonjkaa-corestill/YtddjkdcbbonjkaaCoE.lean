/- What the document's Wants and Next (davitref27) answer. -/
import Derived.Test.YtddjkdcbbonjkaaRows
import Derived.Test.YtddjkdcbbonjkaaCoA
import Derived.WalkKit
import Derived.ProofKit
import Derived.OpenShut
import Derived.BigQuiet
namespace Go.Proofs.Ytddjkdcbbonjkaa
open Go.ChangeShapes Go.WideShapes Go.ChangeAt Go.RowKit
open Co

set_option maxRecDepth 100000 in
set_option maxHeartbeats 1000000 in
theorem rwants_any (f : Fl) (w : World) : Calls Try.prog 27 #[flv f] w fun e w' => e = .returned (.int .i64 (wants f)) ∧ Below w.heap.size w w' := by
  have HB : Hid (∀ o1, Below w.heap.size w (w.alloc o1)) := fun o1 => (Below.refl w.heap.size w).alloc (Nat.le_refl _) o1
  obtain ⟨s, h, o, a, c, i, t, k, r⟩ := f
  simp only [flv, wants]
  cases s with
  | true =>
    go_enter Try.func27, Try.ntmps27
    go_wp2
    go_ret
    exact ⟨rfl, HB.out _⟩
  | false =>
    cases o with
    | true =>
      go_enter Try.func27, Try.ntmps27
      go_wp2
      go_ret
      exact ⟨rfl, HB.out _⟩
    | false =>
      cases h with
      | true =>
        go_enter Try.func27, Try.ntmps27
        go_wp2
        go_ret
        exact ⟨rfl, HB.out _⟩
      | false =>
        cases a with
        | false =>
          go_enter Try.func27, Try.ntmps27
          go_wp2
          go_ret
          exact ⟨rfl, HB.out _⟩
        | true =>
          cases c with
          | true =>
            go_enter Try.func27, Try.ntmps27
            go_wp2
            go_ret
            exact ⟨rfl, HB.out _⟩
          | false =>
            cases i with
            | true =>
              go_enter Try.func27, Try.ntmps27
              go_wp2
              go_ret
              exact ⟨rfl, HB.out _⟩
            | false =>
              cases t with
              | true =>
                go_enter Try.func27, Try.ntmps27
                go_wp2
                go_ret
                exact ⟨rfl, HB.out _⟩
              | false =>
                cases k with
                | true =>
                  go_enter Try.func27, Try.ntmps27
                  go_wp2
                  go_ret
                  exact ⟨rfl, HB.out _⟩
                | false =>
                  cases r with
                  | true =>
                    go_enter Try.func27, Try.ntmps27
                    go_wp2
                    go_ret
                    exact ⟨rfl, HB.out _⟩
                  | false =>
                    go_enter Try.func27, Try.ntmps27
                    go_wp2
                    go_ret
                    exact ⟨rfl, HB.out _⟩

set_option maxRecDepth 100000 in
set_option maxHeartbeats 1000000 in
theorem rnext_any (x : Kc) (f : Fl) (w : World) : Calls Try.prog 10 #[ckv x, flv f] w fun e w' => e = .returned (.int .i64 (next x.p x.i f)) ∧ Below w.heap.size w w' := by
  have C : Hid (∀ w, _) := fun w => rwants_any f w
  have HW : Hid (∀ (u : World) o1 o2, Below ((w.alloc o1).alloc o2).heap.size ((w.alloc o1).alloc o2) u → Below w.heap.size w u) := fun u o1 o2 h => (((Below.refl w.heap.size w).alloc (Nat.le_refl _) o1).alloc (by simp) o2).trans (h.mono (by simp; omega))
  have HV : Hid (∀ o1 o2, Below w.heap.size w ((w.alloc o1).alloc o2)) := fun o1 o2 => ((Below.refl w.heap.size w).alloc (Nat.le_refl _) o1).alloc (by simp) o2
  obtain ⟨p, i, y, s, t, b⟩ := x
  unfold next
  simp only [ckv]
  generalize wants f = v at *
  simp only [flv] at C ⊢
  cases p with
  | false =>
    go_enter Try.func10, Try.ntmps10
    go_wp2
    go_ret
    exact ⟨rfl, HV.out _ _⟩
  | true =>
    have HX : Hid (∀ (u : World) o2, Below ((w.alloc (.cells #[.bool true, .bool i, .int .i64 y, .int .i64 s, .int .i64 t, .int .i64 b] 23)).alloc o2).heap.size ((w.alloc (.cells #[.bool true, .bool i, .int .i64 y, .int .i64 s, .int .i64 t, .int .i64 b] 23)).alloc o2) u → u.cell? ⟨w.heap.size, 1, none⟩ = some (.bool i)) := fun u o2 h =>
      (h.cell (p := ⟨w.heap.size, 1, none⟩) (by simp; omega)).trans (((Blk.new w [.bool true, .bool i, .int .i64 y, .int .i64 s, .int .i64 t, .int .i64 b] 23).alloc o2).cell 1)
    rw [if_pos rfl]
    cases i with
    | false =>
      rw [if_neg (by decide)]
      go_enter Try.func10, Try.ntmps10
      go_wp2_with fail
      refine (C.out _).mono ?_
      rintro e w' ⟨rfl, b1⟩
      have hx := HX.out _ _ b1
      go_wp2
      go_ret
      exact ⟨rfl, HW.out _ _ _ b1⟩
    | true =>
      rw [if_pos rfl]
      by_cases e1 : v = 0
      · rw [if_pos (Or.inl e1)]
        subst e1
        go_enter Try.func10, Try.ntmps10
        go_wp2_with fail
        refine (C.out _).mono ?_
        rintro e w' ⟨rfl, b1⟩
        have hx := HX.out _ _ b1
        go_wp2
        go_ret
        exact ⟨rfl, HW.out _ _ _ b1⟩
      · by_cases e2 : v = 9
        · rw [if_pos (Or.inr e2)]
          subst e2
          go_enter Try.func10, Try.ntmps10
          go_wp2_with fail
          refine (C.out _).mono ?_
          rintro e w' ⟨rfl, b1⟩
          have hx := HX.out _ _ b1
          go_wp2
          go_ret
          exact ⟨rfl, HW.out _ _ _ b1⟩
        · rw [if_neg (by omega)]
          have b0 : (v == 0) = false := by simpa using e1
          have b9 : (v == 9) = false := by simpa using e2
          go_enter Try.func10, Try.ntmps10
          go_wp2_with fail
          refine (C.out _).mono ?_
          rintro e w' ⟨rfl, b1⟩
          have hx := HX.out _ _ b1
          go_wp2
          go_ret
          exact ⟨rfl, HW.out _ _ _ b1⟩
end Go.Proofs.Ytddjkdcbbonjkaa
