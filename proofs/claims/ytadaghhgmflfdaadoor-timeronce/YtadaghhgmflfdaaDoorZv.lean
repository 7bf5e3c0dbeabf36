/- The timers that TimerOnce armed, in a list that a loop gathers by append; what law 14's due answers. -/
import Derived.Test.YtadaghhgmflfdaaDoorRows
import Derived.Test.YtadaghhgmflfdaaDoorFz
import Derived.Test.YtadaghhgmflfdaaDoorZu
import Derived.WalkKit
import Derived.ProofKit
import Derived.OpenShut
import Derived.BigQuiet
namespace Go.Proofs.YtadaghhgmflfdaaDoor
open Go.ChangeShapes Go.WideShapes Go.ChangeAt Go.RowKit
open Wm Zm Sl

theorem Tryd.infoAct : (Tryd.prog.info? 32).map (fun i => (i.zero, i.size, i.bytes)) = some (some (.agg #[.int .i64 0, .int .i64 0, .int .i64 0, .int .i64 0, .int .i64 0]), 5, 40) := by kernel_rfl

def c5 (x : It) : List Value := [.int .i64 0, .int .i64 0, .int .i64 0, .int .i64 x.2, .int .i64 x.1]
def f5 (L : List It) : List Value := L.flatMap c5
theorem f5_cons (x : It) (Y : List It) : f5 (x :: Y) = c5 x ++ f5 Y := rfl
theorem f5_app (X Y : List It) : f5 (X ++ Y) = f5 X ++ f5 Y := by unfold f5; rw [List.flatMap_append]
theorem f5_at (Y : List It) (k j : Nat) (h : k < Y.length) (hj : j < 5) : (f5 Y)[k * 5 + j]? = (c5 (Y.getD k (0, 0)))[j]? := by
  induction Y generalizing k with
  | nil => simp at h
  | cons x r ih =>
    rw [f5_cons]
    cases k with
    | zero => rw [List.getElem?_append_left (by show 0 * 5 + j < 5; omega), Nat.zero_mul, Nat.zero_add]; rfl
    | succ k =>
      rw [List.getElem?_append_right (by show 5 ≤ (k + 1) * 5 + j; omega), show (k + 1) * 5 + j - (c5 x).length = k * 5 + j by show (k + 1) * 5 + j - 5 = _; omega, ih k (by simpa using h)]
      rfl
theorem own5_at {w : World} {base : Nat} {a : Option Addr} {n m cap : Nat} (L : List It) (hm : L.length = m) (h : w.ownsRow base 32 5 (.slice a n cap) m (f5 L)) {k : Nat} (hk : k < m) : ∃ g, a = some ⟨g, 0, none⟩ ∧ g < w.heap.size ∧ ∀ j, j < 5 → w.cell? ⟨g, k * 5 + j, none⟩ = (c5 (L.getD k (0, 0)))[j]? := by
  subst hm
  rcases h.2 with ⟨e, e2⟩ | ⟨g, cap', cur, e, _, hh, hc, _⟩
  · omega
  · simp only [Value.slice.injEq] at e
    obtain ⟨rfl, rfl, rfl⟩ := e
    exact ⟨g, rfl, lt_of_block hh, fun j hj => by rw [h.cellAt _ (by omega), f5_at L k j hk hj]⟩

/-- due: the first of the number; it was armed for the tick. -/
theorem due_yes {w : World} {base : Nat} {a : Option Addr} {cap : Nat} {L : List It} (h : w.ownsRow base 32 5 (.slice a L.length cap) L.length (f5 L)) (hl : L.length ≤ 48) (p : Nat) (hp : p < L.length) (id now : Int) (hb : ∀ j, j < p → (L.getD j (0, 0)).2 ≠ id) (hx : L.getD p (0, 0) = (now, id)) :
    Calls Tryd.prog 27 #[.slice a L.length cap, .int .i64 id, .int .i64 now] w fun e w' => e = .returned (.bool true) ∧ w' = w := by
  have AT : Hid (∀ k, k < L.length → ∃ g, a = some ⟨g, 0, none⟩ ∧ w.cell? ⟨g, k * 5 + 3, none⟩ = some (.int .i64 (L.getD k (0, 0)).2) ∧ w.cell? ⟨g, k * 5 + 4, none⟩ = some (.int .i64 (L.getD k (0, 0)).1)) := fun k hk => by
    obtain ⟨g, e, _, c⟩ := own5_at L rfl h hk
    exact ⟨g, e, c 3 (by omega), c 4 (by omega)⟩
  have HB : Hid (∀ j, j < p → ((L.getD j (0, 0)).2 == id) = false) := fun j hj => by simpa using hb j hj
  have HX : Hid (L.getD p (0, 0) = (now, id)) := hx
  have hp2 : (p : Int) < L.length := by omega
  have hl2 : (L.length : Int) ≤ 48 := by omega
  have bb1 : (id == id) = true := by simp
  have bb2 : (now == now) = true := by simp
  obtain ⟨ln, hln⟩ : ∃ ln, L.length = ln := ⟨_, rfl⟩
  rw [hln] at AT hp2 hl2 ⊢
  clear h hl hb hx hp hln
  go_enter Tryd.func27, Tryd.ntmps27
  go_wp2
  go_loopw [7] (fun i wr => wr = w ∧ ∃ k : Nat, (k : Int) ≤ p ∧ i = .int .i64 (k : Int)) (fun i _ => p - (intOf i).toNat)
  case atStart => exact ⟨rfl, 0, by omega, rfl⟩
  case round =>
    obtain ⟨rfl, k, hk, rfl⟩ := hrel
    obtain ⟨g, rfl, x3, x4⟩ := AT.out k (by omega)
    have hk2 : (k : Int) < ln := by omega
    by_cases c : k = p
    · subst c
      rw [HX.out] at x3 x4
      go_wp2
      go_ret
      exact ⟨rfl, rfl⟩
    · have nb := HB.out k (by omega)
      generalize (L.getD k (0, 0)).2 = z at *
      go_wp2
      go_roundw
      case rel => exact ⟨trivial, k + 1, by omega, by go_num⟩
      case measure => simp [intOf]; omega
end Go.Proofs.YtadaghhgmflfdaaDoor
