/- An append onto a slice of one's own, whatever its elements: what it holds then, and where it lies: where it lay, or in a new block. No program in it. -/
import Derived.Test.YtijicghdmlfheaaFw
import Derived.ArgAppend
import Derived.Laws.OwnMore
namespace Go.Proofs.Ytijicghdmlfheaa
open Go.ChangeShapes Go.WideShapes Go.ChangeAt Go.RowKit

theorem run_appg {P : Program} (w : World) (t ty e : TypeId) (i0 : TypeInfo) (z : Value) (size bytes : Nat) (ht : P.underlying t = some (.slice e)) (hi : P.info? e = some i0) (hz0 : i0.zero = some z) (hz1 : i0.size = size) (hz2 : i0.bytes = bytes) (hzs : z.cells.size = size) (hsz : 0 < size) (hb : bytes ≤ 1000)
    {v : Value} {n : Nat} {xs : List Value} (hown : w.ownsRow 0 e size v n xs) (ad : Addr) (m c : Nat) (news : List Value) (hl : news.length = m * size) (hn : ∀ j u, news[j]? = some u → w.cell? (ad.add j) = some u) (h1 : ∀ u ∈ news, u.oneCell' = true) (hs : n + m ≤ 3000) :
    ∃ v' w', (Builtin.append_ #[t, t] ty #[v, .slice (some ad) m c]).run P w = .ok v' w' ∧ w'.ownsRow 0 e size v' (n + m) (xs ++ news) ∧ w.grownBy w' v.ownBlock ∧ ∀ g, v'.ownBlock = some g → v.ownBlock = some g ∨ w.heap.size ≤ g := by
  have hby : (n + m) * bytes ≤ 140737488355328 := Nat.le_trans (Nat.mul_le_mul hs hb) (by omega)
  rcases hown.2 with ⟨rfl, rfl⟩ | ⟨g, cap, cur, rfl, _, hg, hnc, hcm, hcs, htake⟩
  · obtain rfl : xs = [] := List.eq_nil_of_length_eq_zero (by have := hown.1; omega)
    obtain ⟨v', w', hrun, r1, r2, _⟩ := run_append_own (P := P) w w.heap.size t ty e i0 z size bytes ht hi hz0 hz1 hz2 hzs hsz (.slice none 0 0) 0 [] (World.ownsRow_nil w _ _ size) ad m c news hl hn h1 (by unfold maxLen; omega) hby (Nat.le_refl _)
    refine ⟨v', w', hrun, ⟨r1.1, ?_⟩, r2, fun g hgo => ?_⟩
    · rcases r1.2 with h | ⟨g, cap, cur, hv, _, rest⟩
      · exact Or.inl h
      · exact Or.inr ⟨g, cap, cur, hv, Nat.zero_le _, rest⟩
    · rcases r1.2 with ⟨rfl, _⟩ | ⟨g', cap, cur, rfl, hb, _⟩
      · cases hgo
      · simp [Value.ownBlock] at hgo
        exact Or.inr (by omega)
  · by_cases room : n + m ≤ cap
    · obtain ⟨w', hrun, r1, r2⟩ := run_append_fits (P := P) w 0 t ty e i0 size ht hi hz1 g n cap xs hown ad m c news hl hn h1 room
      exact ⟨_, w', hrun, r1, r2, fun g' h => Or.inl h⟩
    · obtain ⟨v', w', hrun, r1, r2⟩ := run_append_arg_grows (P := P) w t ty e i0 z size bytes ht hi hz0 hz1 hz2 hzs hsz ⟨g, 0, none⟩ n cap xs hown.1 (fun j u hj => by
          have hj2 := (List.getElem?_eq_some_iff.1 hj).1
          rw [Addr.add_lit, Nat.zero_add, hown.cellAt j (by rw [← hown.1]; exact hj2)]
          exact hj) ad m c news hl hn (by omega) (by unfold maxLen; omega) hby
      refine ⟨v', w', hrun, ⟨r1.1, ?_⟩, ⟨r2.os, r2.tape, r2.output, r2.size, fun k hk _ => r2.block k hk (by simp)⟩, fun g' hgo => ?_⟩
      · rcases r1.2 with h | ⟨g, cap, cur, hv, _, rest⟩
        · exact Or.inl h
        · exact Or.inr ⟨g, cap, cur, hv, Nat.zero_le _, rest⟩
      · rcases r1.2 with ⟨rfl, _⟩ | ⟨g', cap, cur, rfl, hb, _⟩
        · cases hgo
        · simp [Value.ownBlock] at hgo
          exact Or.inr (by omega)

theorem owng_shape {w : World} {base : Nat} {t : TypeId} {size : Nat} {v : Value} {n : Nat} {xs : List Value} (h : w.ownsRow base t size v n xs) : ∃ a cap, v = .slice a n cap := by
  rcases h.2 with ⟨rfl, rfl⟩ | ⟨g, cap, cur, rfl, _⟩
  · exact ⟨none, 0, rfl⟩
  · exact ⟨_, cap, rfl⟩
theorem owng_keep {B : Nat} {S : List Nat} {w w' : World} {base : Nat} {t : TypeId} {size : Nat} {v : Value} {n : Nat} {xs : List Value} (h : w.ownsRow base t size v n xs) (f : Fr B S w w') (hg : ∀ g, v.ownBlock = some g → g < B ∧ g ∉ S) : w'.ownsRow base t size v n xs := by
  refine ⟨h.1, ?_⟩
  rcases h.2 with hn | ⟨g, cap, cur, rfl, h0, hh, rest⟩
  · exact Or.inl hn
  · obtain ⟨g1, g2⟩ := hg g rfl
    exact Or.inr ⟨g, cap, cur, rfl, h0, (f.block g g1 g2).trans hh, rest⟩
theorem owng_lt {w : World} {base : Nat} {t : TypeId} {size : Nat} {v : Value} {n : Nat} {xs : List Value} (h : w.ownsRow base t size v n xs) {g : Nat} (e : v.ownBlock = some g) : g < w.heap.size := by
  rcases h.2 with ⟨rfl, _⟩ | ⟨g', cap, cur, rfl, _, hg, _⟩
  · cases e
  · simp [Value.ownBlock] at e
    subst e
    exact lt_of_block hg
theorem owng_ne {w : World} {base : Nat} {t u : TypeId} {size : Nat} {v : Value} {n : Nat} {xs cs : List Value} {b : Nat} (h : w.ownsRow base t size v n xs) (k : Blk w b cs u) (ne : t ≠ u) {g : Nat} (e : v.ownBlock = some g) : b ≠ g := by
  rcases h.2 with ⟨rfl, _⟩ | ⟨g', cap, cur, rfl, _, hg, _⟩
  · cases e
  · simp [Value.ownBlock] at e
    subst e
    intro q
    subst q
    have := (show w.heap[b]? = _ from k).symm.trans hg
    simp at this
    exact ne this.2.symm
end Go.Proofs.Ytijicghdmlfheaa
