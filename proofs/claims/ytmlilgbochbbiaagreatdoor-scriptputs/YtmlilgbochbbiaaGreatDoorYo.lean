/- The texts Oro Wi0 Wi1 Wi2 of one layer, laid together. -/
import Derived.Test.YtmlilgbochbbiaaGreatDoorRows
import Derived.Test.YtmlilgbochbbiaaGreatDoorXa
import Derived.Test.YtmlilgbochbbiaaGreatDoorXl
import Derived.Laws.OwnMore
import Derived.Deep.Slices
import Derived.Lib.SmallJoins
import Derived.WalkKit
import Derived.ProofKit
import Derived.OpenShut
import Derived.BigQuiet
import Derived.Lib.ItoaNum
namespace Go.Proofs.YtmlilgbochbbiaaGreatDoor.Wir
open Go.ChangeShapes Go.WideShapes Go.ChangeAt Go.RowKit Go.Deep
section
variable {α : Type} {c : α → Value}
/-- A slice's elements, one cell each, as they lie in memory. -/
def ORow (c : α → Value) (w : World) (v : Value) (xs : List α) : Prop :=
  (xs = [] ∧ ∃ a cap, v = .slice a 0 cap) ∨ ∃ b off cap, v = .slice (some ⟨b, off, none⟩) xs.length cap ∧ b < w.heap.size ∧ ∀ i, i < xs.length → w.cell? ⟨b, off + i, none⟩ = (xs[i]?).map c
theorem ORow.shape {w : World} {v : Value} {xs : List α} (h : ORow c w v xs) : ∃ a cap, v = .slice a xs.length cap := by
  rcases h with ⟨rfl, a, cap, rfl⟩ | ⟨b, off, cap, rfl, _⟩
  · exact ⟨a, cap, rfl⟩
  · exact ⟨_, cap, rfl⟩
theorem ORow.below {w w' : World} {v : Value} {xs : List α} (h : ORow c w v xs) (f : Below w.heap.size w w') : ORow c w' v xs := by
  rcases h with h | ⟨b, off, cap, hv, hb, hc⟩
  · exact Or.inl h
  · exact Or.inr ⟨b, off, cap, hv, Nat.lt_of_lt_of_le hb f.size, fun i hi => (f.cell (p := ⟨b, off + i, none⟩) hb).trans (hc i hi)⟩
theorem ORow.heap {w w1 : World} {v : Value} {xs : List α} (h : ORow c w v xs) (e : w1.heap = w.heap) : ORow c w1 v xs := by
  rcases h with h | ⟨b, off, cap, hv, hb, hc⟩
  · exact Or.inl h
  · exact Or.inr ⟨b, off, cap, hv, by rw [e]; exact hb, fun i hi => (World.cell?_of_block (w := w) (by rw [e])).trans (hc i hi)⟩
theorem orow_cell {w : World} {a : Option Addr} {n cap : Nat} {xs : List α} (h : ORow c w (.slice a n cap) xs) {k : Nat} {x : α} (hk : xs[k]? = some x) :
    ∃ b off, a = some ⟨b, off, none⟩ ∧ b < w.heap.size ∧ w.cell? ⟨b, off + k, none⟩ = some (c x) := by
  have hl : k < xs.length := by
    rcases Nat.lt_or_ge k xs.length with h | h
    · exact h
    · rw [List.getElem?_eq_none h] at hk; cases hk
  rcases h with ⟨rfl, _⟩ | ⟨b, off, c', hv, hlt, hc⟩
  · simp at hl
  · simp only [Value.slice.injEq] at hv
    exact ⟨b, off, hv.1, hlt, by rw [hc k hl, hk]; rfl⟩
theorem orow_len {w : World} {a : Option Addr} {n cap : Nat} {xs : List α} (h : ORow c w (.slice a n cap) xs) : n = xs.length := by
  obtain ⟨a', c', e⟩ := h.shape
  simp only [Value.slice.injEq] at e
  exact e.2.1
theorem orow_new (w : World) (xs : List α) (t : TypeId) (n cap : Nat) (hn : n = xs.length) : ORow c (w.alloc (.cells (xs.map c).toArray t)) (.slice (some ⟨w.heap.size, 0, none⟩) n cap) xs := by
  subst hn
  refine Or.inr ⟨_, 0, cap, rfl, (Blk.new w (xs.map c) t).lt, fun i hi => ?_⟩
  rw [Nat.zero_add, (Blk.new w (xs.map c) t).cell, List.getElem?_map]
/-- What is behind the first k of them. -/
theorem orow_drop {w : World} {b off n cap k : Nat} {xs : List α} (h : ORow c w (.slice (some ⟨b, off, none⟩) n cap) xs) (m cap' : Nat) (hm : m = xs.length - k) (hk : k ≤ xs.length) : ORow c w (.slice (some ⟨b, off + k, none⟩) m cap') (xs.drop k) := by
  rcases h with ⟨rfl, a, cap, hv⟩ | ⟨b', off', c', hv, hlt, hc⟩
  · simp at hm
    exact Or.inl ⟨by simp, _, cap', by rw [hm]⟩
  · simp only [Value.slice.injEq, Option.some.injEq, Addr.mk.injEq, and_true] at hv
    obtain ⟨⟨rfl, rfl⟩, _, _⟩ := hv
    refine Or.inr ⟨b, off + k, cap', by rw [List.length_drop, hm], hlt, fun i hi => ?_⟩
    rw [List.length_drop] at hi
    rw [List.getElem?_drop, ← hc (k + i) (by omega), Nat.add_assoc]
/-- The first k of them. -/
theorem orow_take {w : World} {a : Option Addr} {n cap k : Nat} {xs : List α} (h : ORow c w (.slice a n cap) xs) (cap' : Nat) (hk : k ≤ xs.length) : ORow c w (.slice a k cap') (xs.take k) := by
  rcases h with ⟨rfl, a', cap, hv⟩ | ⟨b', off', c', hv, hlt, hc⟩
  · simp at hk
    exact Or.inl ⟨by simp, a, cap', by rw [hk]⟩
  · simp only [Value.slice.injEq] at hv
    rw [hv.1]
    refine Or.inr ⟨b', off', cap', by rw [List.length_take, Nat.min_eq_left hk], hlt, fun i hi => ?_⟩
    rw [List.length_take] at hi
    rw [List.getElem?_take, if_pos (by omega), ← hc i (by omega)]
/-- What has been gathered so far: v owns it; nothing that was there has turned. -/
structure OG (c : α → Value) (t : TypeId) (w wr : World) (v : Value) (xs : List α) : Prop where
  own : wr.ownsRow w.heap.size t 1 v xs.length (xs.map c)
  bel : Below w.heap.size w wr
theorem og_start (c : α → Value) (t : TypeId) (w : World) : OG c t w w (.slice none 0 0) [] := ⟨World.ownsRow_nil _ _ _ _, Below.refl _ _⟩
theorem OG.row {t : TypeId} {w wr : World} {v : Value} {xs : List α} (g : OG c t w wr v xs) : ORow c wr v xs := by
  rcases g.own.2 with ⟨hv, hn⟩ | ⟨b, cap, cur, hv, hb, hh, hn, hc, hz, ht⟩
  · exact Or.inl ⟨List.eq_nil_of_length_eq_zero hn, none, 0, hv⟩
  · have o := g.own
    rw [hv] at o
    refine Or.inr ⟨b, 0, cap, hv, lt_of_block hh, fun i hi => ?_⟩
    rw [Nat.zero_add, o.cellAt _ (by omega), List.getElem?_map]
theorem OG.keep {t : TypeId} {w wr wb : World} {v : Value} {xs : List α} (g : OG c t w wr v xs) (e : Below wr.heap.size wr wb) : OG c t w wb v xs :=
  ⟨owng_keep g.own (Fr.of_below e) fun k q => ⟨owng_lt g.own q, by simp⟩, g.bel.trans (e.mono g.bel.size)⟩
theorem OG.heap {t : TypeId} {w wr wb : World} {v : Value} {xs : List α} (g : OG c t w wr v xs) (e : Sm wb wr) : OG c t w wb v xs := g.keep (e.below (Below.refl _ _))
theorem OG.shape {t : TypeId} {w wr : World} {v : Value} {xs : List α} (g : OG c t w wr v xs) : ∃ a cap, v = .slice a xs.length cap := g.row.shape
/-- As many more behind it as another slice has. -/
theorem og_app {P : Program} (t ts ty : TypeId) (i0 : TypeInfo) (z : Value) (bytes : Nat) (ht : P.underlying ts = some (.slice t)) (hi : P.info? t = some i0) (hz0 : i0.zero = some z) (hz1 : i0.size = 1) (hz2 : i0.bytes = bytes) (hzs : z.cells.size = 1) (h1 : ∀ x, (c x).oneCell' = true)
    {w wr wb : World} {v u : Value} {xs ys : List α} (g : OG c t w wr v xs) (e : Below wr.heap.size wr wb) (r : ORow c wb u ys) (hu : ∀ a cap, u = .slice a 0 cap → a = none → cap = 0) (hl : xs.length + ys.length ≤ maxLen) (hr : (xs.length + ys.length) * bytes ≤ 140737488355328) :
    ∃ v' w2, (Builtin.append_ #[ts, ts] ty #[v, u]).run P wb = .ok v' w2 ∧ OG c t w w2 v' (xs ++ ys) := by
  have g1 := g.keep e
  have hs := g1.bel.size
  have many : ∀ (p : Addr) (m cap : Nat), m = ys.length → (∀ j y, (ys.map c)[j]? = some y → wb.cell? (p.add j) = some y) → ∃ v' w2, (Builtin.append_ #[ts, ts] ty #[v, .slice (some p) m cap]).run P wb = .ok v' w2 ∧ OG c t w w2 v' (xs ++ ys) := by
    intro p m cap hm hc
    subst hm
    obtain ⟨v', w2, hrun, r1, r2, _⟩ := run_append_own (P := P) wb w.heap.size ts ty t i0 z 1 bytes ht hi hz0 hz1 hz2 hzs (by omega) v xs.length (xs.map c) g1.own p ys.length cap (ys.map c) (by simp) hc (fun q hq => by
      obtain ⟨x, _, rfl⟩ := List.mem_map.1 hq
      exact h1 x) hl hr hs
    refine ⟨v', w2, hrun, ?_, g1.bel.grown r2 hs (fun j hj => ?_)⟩
    · rw [List.map_append, List.length_append]; exact r1
    · rcases g1.own.2 with ⟨q, _⟩ | ⟨g', cap, cur, q, hb, _⟩
      · rw [q] at hj; cases hj
      · rw [q] at hj
        simp [Value.ownBlock] at hj
        omega
  rcases r with ⟨rfl, a, cap, rfl⟩ | ⟨b, off, cap, rfl, hlt, hc⟩
  · cases a with
    | some p => exact many p 0 cap rfl (fun j y hj => by simp at hj)
    | none =>
      obtain rfl := hu none cap rfl rfl
      refine ⟨v, wb, run_append_owned_none wb w.heap.size ts ty t i0 1 ht hi v xs.length (xs.map c) g1.own, ?_⟩
      rw [List.append_nil]
      exact g1
  · refine many ⟨b, off, none⟩ ys.length cap rfl fun j y hj => ?_
    rw [Addr.add_lit]
    have hj' : j < ys.length := by
      rcases Nat.lt_or_ge j ys.length with h | h
      · exact h
      · rw [List.getElem?_eq_none (by simpa using h)] at hj; cases hj
    rw [hc j hj', ← List.getElem?_map]
    exact hj
/-- A slice that came in, whose elements are one cell each. -/
theorem open_ones {H : Type} {enc : TypeId × Value → H} {P : Program} {w : World} {base : Nat} {spare : Nat → Bool} {held : Bool} {t e : TypeId} {fuel : Nat} {a : Option Addr} {len cap : Nat} {x : DataW H × List MemPlace} (good : α → Prop)
    (ht : P.underlying t = some (.slice e)) (ce : P.cellsOf e = 1) (he : ∀ (fuel : Nat) (cs : List Value) (x : DataW H × List MemPlace), DataW.trod enc P w base spare held fuel e cs = some x → ∃ y, cs = [c y] ∧ good y)
    (h : DataW.trod enc P w base spare held fuel t [.slice a len cap] = some x) :
    ∃ xs : List α, ORow c w (.slice a len cap) xs ∧ xs.length = len ∧ ∀ y ∈ xs, good y := by
  rcases open_slice ht h with ⟨hcs, _⟩ | ⟨x, l, c', m, n, D, Pl, hcs, _, hl, _, hmm, _, hall⟩
  · simp at hcs
    obtain ⟨rfl, rfl, rfl⟩ := hcs
    exact ⟨[], Or.inl ⟨rfl, none, 0, rfl⟩, rfl, fun y hy => by simp at hy⟩
  · simp at hcs
    obtain ⟨rfl, rfl, rfl⟩ := hcs
    have hlm : len ≤ m := by rw [hmm]; split <;> omega
    have each : ∀ i, i < len → ∃ y : α, w.cell? (x.add i) = some (c y) ∧ good y := by
      intro i hi
      obtain ⟨cs', h1, h2⟩ := hall i (by omega)
      rw [ce] at h1
      obtain ⟨_, hlen, hcell⟩ := World.cells?_some h1
      have c1 := hcell 0 (by omega)
      rw [add_add] at c1
      obtain ⟨y, rfl, gy⟩ := he _ _ _ h2
      refine ⟨y, ?_, gy⟩
      rw [Nat.mul_one, Nat.add_zero] at c1
      simpa using c1
    have pick : ∀ n, n ≤ len → ∃ xs : List α, xs.length = n ∧ (∀ i, i < n → w.cell? (x.add i) = (xs[i]?).map c) ∧ ∀ y ∈ xs, good y := by
      intro n
      induction n with
      | zero => exact fun _ => ⟨[], rfl, fun i hi => by omega, fun y hy => by simp at hy⟩
      | succ n ih =>
        intro hn
        obtain ⟨xs, e1, e2, e3⟩ := ih (by omega)
        obtain ⟨y, e4, e5⟩ := each n (by omega)
        refine ⟨xs ++ [y], by simp [e1], fun i hi => ?_, fun q hq => ?_⟩
        · by_cases hin : i = n
          · subst hin
            rw [e4, List.getElem?_append_right (by omega), e1, Nat.sub_self]; rfl
          · rw [List.getElem?_append_left (by omega)]; exact e2 i (by omega)
        · rcases List.mem_append.1 hq with h | h
          · exact e3 q h
          · simp at h; rw [h]; exact e5
    obtain ⟨xs, e1, e2, e3⟩ := pick len (Nat.le_refl _)
    refine ⟨xs, ?_, e1, e3⟩
    by_cases h0 : len = 0
    · exact Or.inl ⟨List.eq_nil_of_length_eq_zero (by omega), some x, cap, by rw [h0]⟩
    · obtain ⟨b, off, spot⟩ := x
      obtain ⟨y, hy, _⟩ := each 0 (by omega)
      have hspot : spot = none := by simpa [Addr.add] using World.cell?_spot hy
      subst hspot
      have hb : b < w.heap.size := World.block_lt_of_cell? w _ (by simpa [Addr.add] using hy)
      refine Or.inr ⟨b, off, cap, by rw [e1], hb, fun i hi => ?_⟩
      have := e2 i (by omega)
      rwa [Addr.add_lit] at this
end
def by8 (x : Nat) : Value := .int .u8 (x : Nat)
theorem trod_by8 {H : Type} {enc : TypeId × Value → H} {P : Program} {w : World} {base : Nat} {spare : Nat → Bool} {held : Bool} {e : TypeId} (he : P.underlying e = some (.int .u8)) (fuel : Nat) (cs : List Value) (x : DataW H × List MemPlace) (h : DataW.trod enc P w base spare held fuel e cs = some x) :
    ∃ y, cs = [by8 y] ∧ y < 256 := by
  obtain ⟨n, rfl, _, wf⟩ := DataW.trod_int he h
  simp [Lit.wf, IntKind.min, IntKind.max, IntKind.bits, IntKind.signed] at wf
  refine ⟨n.toNat, ?_, by omega⟩
  unfold by8
  rw [Int.toNat_of_nonneg wf.1]
theorem one_by8 (x : Nat) : (by8 x).oneCell' = true := rfl
end Go.Proofs.YtmlilgbochbbiaaGreatDoor.Wir
namespace Go.Proofs.YtmlilgbochbbiaaGreatDoor.Wi0
open Wir
def hf : Nat → Int
  | 1 => 128 | 2 => 32768 | 3 => 8388608 | 4 => 2147483648 | 5 => 549755813888 | 6 => 140737488355328 | 7 => 36028797018963968 | _ => 9223372036854775808
def I6 (n : Int) : Prop := -9223372036854775808 ≤ n ∧ n < 9223372036854775808
/-- Does a number fit in so many bytes, with its sign? -/
def fitk (n : Int) (k : Nat) : Bool := decide (-(hf k) ≤ n) && decide (n < hf k)
/-- The fewest bytes in which it does. -/
def wd (n : Int) : Nat := if fitk n 1 then 1 else if fitk n 2 then 2 else if fitk n 3 then 3 else if fitk n 4 then 4 else if fitk n 5 then 5 else if fitk n 6 then 6 else if fitk n 7 then 7 else 8
theorem wd_le (n : Int) : 1 ≤ wd n ∧ wd n ≤ 8 := by unfold wd; repeat' split
                                                    all_goals omega
theorem fit_iff (n : Int) (k : Nat) : fitk n k = true ↔ -(hf k) ≤ n ∧ n < hf k := by simp [fitk]
theorem wd_cases (n : Int) (h : I6 n) (k : Nat) (h1 : 1 ≤ k) (h8 : k ≤ 8) : wd n = k ↔ fitk n k = true ∧ (k = 1 ∨ fitk n (k - 1) = false) := by
  have a1 := fit_iff n 1; have a2 := fit_iff n 2; have a3 := fit_iff n 3; have a4 := fit_iff n 4; have a5 := fit_iff n 5; have a6 := fit_iff n 6; have a7 := fit_iff n 7; have a8 := fit_iff n 8
  simp only [hf] at a1 a2 a3 a4 a5 a6 a7 a8
  obtain ⟨l1, l2⟩ := h
  have : k = 1 ∨ k = 2 ∨ k = 3 ∨ k = 4 ∨ k = 5 ∨ k = 6 ∨ k = 7 ∨ k = 8 := by omega
  unfold wd
  cases b1 : fitk n 1 <;> cases b2 : fitk n 2 <;> cases b3 : fitk n 3 <;> cases b4 : fitk n 4 <;> cases b5 : fitk n 5 <;> cases b6 : fitk n 6 <;> cases b7 : fitk n 7 <;> cases b8 : fitk n 8 <;>
    simp only [b1, b2, b3, b4, b5, b6, b7, b8, true_iff, false_iff, Bool.false_eq_true, not_and, Int.not_lt] at a1 a2 a3 a4 a5 a6 a7 a8 <;>
    first
    | (exfalso; omega)
    | (rcases this with rfl | rfl | rfl | rfl | rfl | rfl | rfl | rfl <;> simp [b1, b2, b3, b4, b5, b6, b7, b8])
theorem wd_fit (n : Int) (h : I6 n) : -(hf (wd n)) ≤ n ∧ n < hf (wd n) := (fit_iff n (wd n)).1 ((wd_cases n h (wd n) (wd_le n).1 (wd_le n).2).1 rfl).1
/-- A byte of a number. -/
def bt (n : Int) (i : Nat) : Nat := (n / (2 : Int) ^ (8 * i) % 256).toNat
/-- Its lowest bytes, the highest first. -/
def bs (n : Int) : Nat → List Nat
  | 0 => []
  | k + 1 => bt n k :: bs n k
theorem bs_len (n : Int) (k : Nat) : (bs n k).length = k := by induction k with | zero => rfl | succ k ih => simp [bs, ih]
theorem bt_lt (n : Int) (i : Nat) : bt n i < 256 := by unfold bt; omega
theorem bt_succ (n : Int) (i : Nat) : bt n (i + 1) = bt (n / 256) i := by
  unfold bt
  rw [show (2 : Int) ^ (8 * (i + 1)) = 256 * 2 ^ (8 * i) by rw [Nat.mul_add, Int.pow_add, Int.mul_comm]; rfl, Int.ediv_ediv_of_nonneg (by omega)]
theorem bt_zero (n : Int) : bt n 0 = (n % 256).toNat := by unfold bt; simp
theorem bs_snoc (n : Int) (k : Nat) : bs n (k + 1) = bs (n / 256) k ++ [(n % 256).toNat] := by
  induction k with
  | zero => simp [bs, bt_zero]
  | succ k ih =>
    show bt n (k + 1) :: bs n (k + 1) = _
    rw [ih, bt_succ]
    rfl
theorem bs_by (n : Int) (k : Nat) : ∀ x ∈ bs n k, x < 256 := by
  induction k with
  | zero => simp [bs]
  | succ k ih =>
    intro x hx
    rcases List.mem_cons.1 hx with rfl | hx
    · exact bt_lt _ _
    · exact ih x hx
def sb (x : Nat) : Int := if 128 ≤ x then (x : Int) - 256 else x
/-- What bytes are together, with the sign of the first. -/
def vl : List Nat → Int
  | [] => 0
  | x :: r => r.foldl (fun (a : Int) (y : Nat) => a * 256 + (y : Int)) (sb x)
theorem vl_snoc (q : List Nat) (x : Nat) (h : q ≠ []) : vl (q ++ [x]) = vl q * 256 + x := by
  cases q with
  | nil => exact absurd rfl h
  | cons a r => simp [vl, List.foldl_append]
def hg (k : Nat) : Int := 128 * 256 ^ (k - 1)
theorem hg_succ (k : Nat) (h : 1 ≤ k) : hg (k + 1) = hg k * 256 := by
  obtain ⟨j, rfl⟩ : ∃ j, k = j + 1 := ⟨k - 1, by omega⟩
  simp only [hg, Nat.add_sub_cancel, Int.pow_succ, Int.mul_assoc]
theorem hg_hf (k : Nat) (h : 1 ≤ k) (h8 : k ≤ 8) : hg k = hf k := by
  have : k = 1 ∨ k = 2 ∨ k = 3 ∨ k = 4 ∨ k = 5 ∨ k = 6 ∨ k = 7 ∨ k = 8 := by omega
  rcases this with rfl | rfl | rfl | rfl | rfl | rfl | rfl | rfl <;> decide
theorem vl_bs (k : Nat) : ∀ n : Int, -(hg (k + 1)) ≤ n → n < hg (k + 1) → vl (bs n (k + 1)) = n := by
  induction k with
  | zero =>
    intro n h1 h2
    have e : hg 1 = 128 := by decide
    rw [e] at h1 h2
    show sb (bt n 0) = n
    rw [bt_zero]
    unfold sb
    split <;> omega
  | succ k ih =>
    intro n h1 h2
    rw [hg_succ _ (by omega)] at h1 h2
    rw [bs_snoc, vl_snoc _ _ (by simp [bs]), ih (n / 256) (by omega) (by omega)]
    omega
theorem vl_range (r : List Nat) : ∀ k, r.length = k + 1 → (∀ x ∈ r, x < 256) → -(hg (k + 1)) ≤ vl r ∧ vl r < hg (k + 1) ∧ bs (vl r) (k + 1) = r := by
  intro k
  induction k generalizing r with
  | zero =>
    intro hl hb
    match r, hl with
    | [x], _ =>
      have hx := hb x (by simp)
      have e : hg 1 = 128 := by decide
      rw [e]
      have v : vl [x] = sb x := rfl
      rw [v]
      have q : -128 ≤ sb x ∧ sb x < 128 ∧ (sb x % 256).toNat = x := by unfold sb; split <;> omega
      refine ⟨q.1, q.2.1, ?_⟩
      show [bt (sb x) 0] = [x]
      rw [bt_zero, q.2.2]
  | succ k ih =>
    intro hl hb
    obtain ⟨q, x, rfl⟩ : ∃ q x, r = q ++ [x] := ⟨r.dropLast, r.getLast (fun e => by rw [e] at hl; simp at hl), (List.dropLast_concat_getLast _).symm⟩
    have hq : q.length = k + 1 := by simpa using hl
    have hx := hb x (by simp)
    obtain ⟨a, b, c⟩ := ih q hq (fun y hy => hb y (List.mem_append_left _ hy))
    have hn : q ≠ [] := fun e => by rw [e] at hq; simp at hq
    rw [hg_succ _ (by omega), vl_snoc _ _ hn]
    refine ⟨by omega, by omega, ?_⟩
    rw [bs_snoc, show (vl q * 256 + (x : Int)) / 256 = vl q by omega, show ((vl q * 256 + (x : Int)) % 256).toNat = x by omega, c]
/-- A number's bytes: none of 0. -/
def pn (n : Int) : List Nat := if n = 0 then [] else wd n :: bs n (wd n)
theorem pn_len (n : Int) : (pn n).length ≤ 9 := by
  unfold pn
  split
  · simp
  · rw [List.length_cons, bs_len]; have := (wd_le n).2; omega
theorem pn_by (n : Int) : ∀ x ∈ pn n, x < 256 := by
  unfold pn
  split
  · simp
  · intro x hx
    rcases List.mem_cons.1 hx with rfl | hx
    · have := (wd_le n).2; omega
    · exact bs_by _ _ x hx
theorem wd_val (n : Int) (h : I6 n) : vl (bs n (wd n)) = n := by
  obtain ⟨l1, l2⟩ := wd_le n
  obtain ⟨a, b⟩ := wd_fit n h
  obtain ⟨j, hj⟩ : ∃ j, wd n = j + 1 := ⟨wd n - 1, by omega⟩
  rw [← hg_hf _ l1 l2, hj] at a b
  rw [hj]
  exact vl_bs j n a b
/-- The number that bytes begin with, and how many bytes it has; or why there is none. -/
def gn : List Nat → Except Int (Int × Nat)
  | [] => .error 14
  | k :: r => if k < 1 ∨ 8 < k then .error 13 else if r.length < k then .error 14 else if vl (r.take k) = 0 ∨ wd (vl (r.take k)) ≠ k then .error 13 else .ok (vl (r.take k), k + 1)
theorem gn_pn (n : Int) (more : List Nat) (h : I6 n) (h0 : n ≠ 0) : gn (pn n ++ more) = .ok (n, (pn n).length) := by
  obtain ⟨l1, l2⟩ := wd_le n
  have e : pn n = wd n :: bs n (wd n) := by unfold pn; rw [if_neg h0]
  have t : (bs n (wd n) ++ more).take (wd n) = bs n (wd n) := by rw [List.take_append_of_le_length (by rw [bs_len]; omega)]; exact List.take_of_length_le (by rw [bs_len]; omega)
  rw [e]
  show gn (wd n :: (bs n (wd n) ++ more)) = _
  simp only [gn]
  rw [if_neg (by omega), if_neg (by rw [List.length_append, bs_len]; omega), t, wd_val n h, if_neg (by simp [h0]), List.length_cons, bs_len]
theorem gn_back (c : List Nat) (hb : ∀ x ∈ c, x < 256) (n : Int) (k : Nat) (h : gn c = .ok (n, k)) : n ≠ 0 ∧ I6 n ∧ 2 ≤ k ∧ k ≤ c.length ∧ c.take k = pn n := by
  cases c with
  | nil => simp [gn] at h
  | cons x r =>
    simp only [gn] at h
    split at h
    · cases h
    · split at h
      · cases h
      · split at h
        · cases h
        · rename_i h1 h2 h3
          simp only [Except.ok.injEq, Prod.mk.injEq] at h
          obtain ⟨rfl, rfl⟩ := h
          have hx : 1 ≤ x ∧ x ≤ 8 := by omega
          have hl : (r.take x).length = x := by rw [List.length_take]; omega
          obtain ⟨j, rfl⟩ : ∃ j, x = j + 1 := ⟨x - 1, by omega⟩
          obtain ⟨a, b, c⟩ := vl_range (r.take (j + 1)) j hl (fun y hy => hb y (List.mem_cons_of_mem _ (List.mem_of_mem_take hy)))
          have h4 : vl (r.take (j + 1)) ≠ 0 ∧ wd (vl (r.take (j + 1))) = j + 1 := by
            constructor
            · intro e; exact h3 (Or.inl e)
            · rcases Nat.decEq (wd (vl (r.take (j + 1)))) (j + 1) with e | e
              · exact absurd (Or.inr e) h3
              · exact e
          refine ⟨h4.1, ?_, by omega, by simp only [List.length_cons]; omega, ?_⟩
          · rw [hg_hf _ (by omega) (by omega)] at a b
            have : hf (j + 1) ≤ 9223372036854775808 := by
              have : j = 0 ∨ j = 1 ∨ j = 2 ∨ j = 3 ∨ j = 4 ∨ j = 5 ∨ j = 6 ∨ j = 7 := by omega
              rcases this with rfl | rfl | rfl | rfl | rfl | rfl | rfl | rfl <;> simp [hf]
            exact ⟨by omega, by omega⟩
          · unfold pn
            rw [if_neg h4.1, h4.2, List.take_succ_cons, c]
/-- The numbers of the first i fields, and where the next one begins; or why there are none. -/
def gl (b : List Nat) (wh : Nat) : Nat → Except Int (List Int × Nat)
  | 0 => .ok ([], 2)
  | i + 1 => match gl b wh i with
    | .error e => .error e
    | .ok (l, p) => if wh / 2 ^ i % 2 = 0 then .ok (l ++ [0], p) else match gn (b.drop p) with
      | .error e => .error e
      | .ok (n, k) => .ok (l ++ [n], p + k)
/-- An event. -/
structure Ev where
  kind : Int
  cpu : Int
  id : Int
  mask : Int
  n : Int
  deriving DecidableEq
def s6 (m : Int) : Int := if m < 9223372036854775808 then m else m - 18446744073709551616
def u6 (n : Int) : Int := if n < 0 then n + 18446744073709551616 else n
def fs (e : Ev) : List Int := [e.cpu, e.id, s6 e.mask, e.n]
def wn (n : Int) (k : Nat) : Nat := if n = 0 then 0 else k
def wh4 (e : Ev) : Nat := wn e.cpu 1 + wn e.id 2 + wn (s6 e.mask) 4 + wn e.n 8
/-- The first i numbers' bytes. -/
def pa (l : List Int) (i : Nat) : List Nat := (l.take i).flatMap pn
def okk (k : Int) : Bool := decide (1 ≤ k) && decide (k ≤ 30)
/-- An event's bytes. -/
def putE (e : Ev) : List Nat := if okk e.kind then e.kind.toNat :: wh4 e :: pa (fs e) 4 else []
/-- Can it be an event's numbers? -/
structure Eok (e : Ev) : Prop where
  k : I6 e.kind
  c : I6 e.cpu
  i : I6 e.id
  m0 : 0 ≤ e.mask
  m1 : e.mask < 18446744073709551616
  n : I6 e.n
def z5 : Ev := ⟨0, 0, 0, 0, 0⟩
/-- The event that bytes begin with. -/
def getE : List Nat → Except Int (Ev × Nat)
  | [] => .error 14
  | [k] => if k < 1 ∨ 30 < k then .error 13 else .error 14
  | k :: wh :: r => if k < 1 ∨ 30 < k then .error 13 else if 15 < wh then .error 13 else match gl (k :: wh :: r) wh 4 with
    | .error e => .error e
    | .ok (l, p) => .ok (⟨k, l.getD 0 0, l.getD 1 0, u6 (l.getD 2 0), l.getD 3 0⟩, p)
theorem s6_i (m : Int) (h0 : 0 ≤ m) (h1 : m < 18446744073709551616) : I6 (s6 m) := by unfold s6; split <;> exact ⟨by omega, by omega⟩
theorem u6_s6 (m : Int) (h0 : 0 ≤ m) (h1 : m < 18446744073709551616) : u6 (s6 m) = m := by
  unfold s6 u6
  by_cases c : m < 9223372036854775808
  · rw [if_pos c, if_neg (by omega)]
  · rw [if_neg c, if_pos (by omega)]; omega
theorem s6_u6 (n : Int) (h : I6 n) : s6 (u6 n) = n := by
  obtain ⟨a, b⟩ := h
  unfold s6 u6
  by_cases c : n < 0
  · rw [if_pos c, if_neg (by omega)]; omega
  · rw [if_neg c, if_pos (by omega)]
theorem wh4_lt (e : Ev) : wh4 e ≤ 15 := by unfold wh4 wn; repeat' split
                                           all_goals omega
theorem pa_by (l : List Int) (i : Nat) : ∀ x ∈ pa l i, x < 256 := fun x hx => by
  obtain ⟨n, _, hn⟩ := List.mem_flatMap.1 hx
  exact pn_by n x hn
theorem putE_by (e : Ev) : ∀ x ∈ putE e, x < 256 := by
  unfold putE
  split
  · rename_i h
    simp only [okk, Bool.and_eq_true, decide_eq_true_eq] at h
    intro x hx
    rcases List.mem_cons.1 hx with rfl | hx
    · omega
    · rcases List.mem_cons.1 hx with rfl | hx
      · have := wh4_lt e; omega
      · exact pa_by _ _ x hx
  · simp
theorem putE_len (e : Ev) : (putE e).length ≤ 38 := by
  unfold putE
  split
  · have a := pn_len e.cpu; have b := pn_len e.id; have c := pn_len (s6 e.mask); have d := pn_len e.n
    simp only [pa, fs, List.take, List.flatMap_cons, List.flatMap_nil, List.length_cons, List.length_append, List.length_nil]
    omega
  · simp
set_option linter.unusedSimpArgs false in
theorem wbit0 (e : Ev) : wh4 e / 2 ^ 0 % 2 = 0 ↔ e.cpu = 0 := by
  unfold wh4 wn
  by_cases c0 : e.cpu = 0 <;> by_cases c1 : e.id = 0 <;> by_cases c2 : s6 e.mask = 0 <;> by_cases c3 : e.n = 0 <;> simp [c0, c1, c2, c3]
set_option linter.unusedSimpArgs false in
theorem wbit1 (e : Ev) : wh4 e / 2 ^ 1 % 2 = 0 ↔ e.id = 0 := by
  unfold wh4 wn
  by_cases c0 : e.cpu = 0 <;> by_cases c1 : e.id = 0 <;> by_cases c2 : s6 e.mask = 0 <;> by_cases c3 : e.n = 0 <;> simp [c0, c1, c2, c3]
set_option linter.unusedSimpArgs false in
theorem wbit2 (e : Ev) : wh4 e / 2 ^ 2 % 2 = 0 ↔ s6 e.mask = 0 := by
  unfold wh4 wn
  by_cases c0 : e.cpu = 0 <;> by_cases c1 : e.id = 0 <;> by_cases c2 : s6 e.mask = 0 <;> by_cases c3 : e.n = 0 <;> simp [c0, c1, c2, c3]
set_option linter.unusedSimpArgs false in
theorem wbit3 (e : Ev) : wh4 e / 2 ^ 3 % 2 = 0 ↔ e.n = 0 := by
  unfold wh4 wn
  by_cases c0 : e.cpu = 0 <;> by_cases c1 : e.id = 0 <;> by_cases c2 : s6 e.mask = 0 <;> by_cases c3 : e.n = 0 <;> simp [c0, c1, c2, c3]
theorem gl_step {b q : List Nat} {l : List Int} {wh i p : Nat} {x : Int} (h : gl b wh i = .ok (l, p)) (d : b.drop p = pn x ++ q) (z : wh / 2 ^ i % 2 = 0 ↔ x = 0) (hx : I6 x) : gl b wh (i + 1) = .ok (l ++ [x], p + (pn x).length) ∧ b.drop (p + (pn x).length) = q := by
  refine ⟨?_, by rw [← List.drop_drop, d, List.drop_left]⟩
  simp only [gl, h]
  by_cases e : x = 0
  · rw [if_pos (z.2 e)]
    subst e
    rfl
  · rw [if_neg (fun c => e (z.1 c)), d, gn_pn x q hx e]
/-- What was put is got, whatever stands behind it. -/
theorem get_put (e : Ev) (more : List Nat) (ok : Eok e) (hk : okk e.kind = true) : getE (putE e ++ more) = .ok (e, (putE e).length) := by
  have hk2 := hk
  simp only [okk, Bool.and_eq_true, decide_eq_true_eq] at hk2
  have hp : putE e = e.kind.toNat :: wh4 e :: pa (fs e) 4 := by unfold putE; rw [if_pos hk]
  have hb : pa (fs e) 4 = pn e.cpu ++ (pn e.id ++ (pn (s6 e.mask) ++ pn e.n)) := by simp [pa, fs]
  have hw := wh4_lt e
  have s0 : gl (putE e ++ more) (wh4 e) 0 = .ok ([], 2) := rfl
  have d0 : (putE e ++ more).drop 2 = pn e.cpu ++ (pn e.id ++ (pn (s6 e.mask) ++ (pn e.n ++ more))) := by rw [hp, hb]; simp
  have w0 : wh4 e / 2 ^ 0 % 2 = 0 ↔ e.cpu = 0 := wbit0 e
  have w1 : wh4 e / 2 ^ 1 % 2 = 0 ↔ e.id = 0 := wbit1 e
  have w2 : wh4 e / 2 ^ 2 % 2 = 0 ↔ s6 e.mask = 0 := wbit2 e
  have w3 : wh4 e / 2 ^ 3 % 2 = 0 ↔ e.n = 0 := wbit3 e
  obtain ⟨s1, d1⟩ := gl_step s0 d0 w0 ok.c
  obtain ⟨s2, d2⟩ := gl_step s1 d1 w1 ok.i
  obtain ⟨s3, d3⟩ := gl_step s2 d2 w2 (s6_i _ ok.m0 ok.m1)
  obtain ⟨s4, d4⟩ := gl_step s3 d3 w3 ok.n
  have hl : 2 + (pn e.cpu).length + (pn e.id).length + (pn (s6 e.mask)).length + (pn e.n).length = (putE e).length := by
    rw [hp, hb]; simp only [List.length_cons, List.length_append]; omega
  rw [hl] at s4
  have hg : getE (e.kind.toNat :: wh4 e :: (pa (fs e) 4 ++ more)) = .ok (⟨(e.kind.toNat : Nat), e.cpu, e.id, u6 (s6 e.mask), e.n⟩, (putE e).length) := by
    have s5 : gl (e.kind.toNat :: wh4 e :: (pa (fs e) 4 ++ more)) (wh4 e) 4 = .ok ([e.cpu, e.id, s6 e.mask, e.n], (putE e).length) := by
      have : putE e ++ more = e.kind.toNat :: wh4 e :: (pa (fs e) 4 ++ more) := by rw [hp]; rfl
      rw [← this]
      exact s4
    unfold getE
    simp only
    rw [if_neg (by omega), if_neg (by omega), s5]
    rfl
  rw [show putE e ++ more = e.kind.toNat :: wh4 e :: (pa (fs e) 4 ++ more) by rw [hp]; rfl, hg, u6_s6 _ ok.m0 ok.m1, Int.toNat_of_nonneg (by omega)]
theorem gl_back (b : List Nat) (wh : Nat) (hb : ∀ x ∈ b, x < 256) (h2 : 2 ≤ b.length) (i : Nat) : ∀ l p, gl b wh i = .ok (l, p) →
    l.length = i ∧ 2 ≤ p ∧ p ≤ b.length ∧ b.take p = b.take 2 ++ l.flatMap pn ∧ ∀ j, j < i → I6 (l.getD j 0) ∧ (wh / 2 ^ j % 2 = 0 ↔ l.getD j 0 = 0) := by
  induction i with
  | zero =>
    intro l p h
    simp only [gl, Except.ok.injEq, Prod.mk.injEq] at h
    obtain ⟨rfl, rfl⟩ := h
    exact ⟨rfl, by omega, h2, by simp, fun j hj => by omega⟩
  | succ i ih =>
    intro l p h
    simp only [gl] at h
    split at h
    · cases h
    · rename_i l0 p0 e0
      obtain ⟨a1, a2, a3, a4, a5⟩ := ih l0 p0 e0
      have ext : ∀ (x : Int), I6 x → (wh / 2 ^ i % 2 = 0 ↔ x = 0) → ∀ j, j < i + 1 → I6 ((l0 ++ [x]).getD j 0) ∧ (wh / 2 ^ j % 2 = 0 ↔ (l0 ++ [x]).getD j 0 = 0) := by
        intro x hx hz j hj
        by_cases e : j = i
        · subst e
          have : (l0 ++ [x]).getD j 0 = x := by rw [List.getD_eq_getElem?_getD, List.getElem?_append_right (by omega), a1]; simp
          rw [this]
          exact ⟨hx, hz⟩
        · have : (l0 ++ [x]).getD j 0 = l0.getD j 0 := by rw [List.getD_eq_getElem?_getD, List.getElem?_append_left (by omega), List.getD_eq_getElem?_getD]
          rw [this]
          exact a5 j (by omega)
      split at h
      · rename_i hz
        simp only [Except.ok.injEq, Prod.mk.injEq] at h
        obtain ⟨rfl, rfl⟩ := h
        refine ⟨by simp [a1], a2, a3, ?_, ext 0 ⟨by omega, by omega⟩ ⟨fun _ => rfl, fun _ => hz⟩⟩
        rw [List.flatMap_append, a4]
        simp [pn]
      · rename_i hz
        split at h
        · cases h
        · rename_i n k e1
          simp only [Except.ok.injEq, Prod.mk.injEq] at h
          obtain ⟨rfl, rfl⟩ := h
          obtain ⟨b1, b2, b3, b4, b5⟩ := gn_back _ (fun x hx => hb x (List.mem_of_mem_drop hx)) n k e1
          rw [List.length_drop] at b4
          refine ⟨by simp [a1], by omega, by omega, ?_, ext n b2 ⟨fun c => absurd c hz, fun c => absurd c b1⟩⟩
          rw [List.take_add, a4, b5, List.flatMap_append]
          simp
/-- What is got, put, is the bytes that it has. -/
theorem put_get (b : List Nat) (hb : ∀ x ∈ b, x < 256) (e : Ev) (p : Nat) (h : getE b = .ok (e, p)) : 2 ≤ p ∧ p ≤ b.length ∧ Eok e ∧ okk e.kind = true ∧ putE e = b.take p := by
  match b, hb, h with
  | [], _, h => simp [getE] at h
  | [k], _, h => simp only [getE] at h; split at h <;> cases h
  | k :: wh :: r, hb, h =>
    simp only [getE] at h
    split at h
    · cases h
    · split at h
      · cases h
      · rename_i h1 h2
        split at h
        · cases h
        · rename_i l q e0
          simp only [Except.ok.injEq, Prod.mk.injEq] at h
          obtain ⟨rfl, rfl⟩ := h
          obtain ⟨a1, a2, a3, a4, a5⟩ := gl_back (k :: wh :: r) wh hb (by simp) 4 l q e0
          match l, a1 with
          | [x0, x1, x2, x3], _ =>
            obtain ⟨i0, z0⟩ := a5 0 (by omega)
            obtain ⟨i1, z1⟩ := a5 1 (by omega)
            obtain ⟨i2, z2⟩ := a5 2 (by omega)
            obtain ⟨i3, z3⟩ := a5 3 (by omega)
            simp only [List.getD_cons_zero, List.getD_cons_succ] at i0 z0 i1 z1 i2 z2 i3 z3 ⊢
            have hu : 0 ≤ u6 x2 ∧ u6 x2 < 18446744073709551616 := by obtain ⟨c, d⟩ := i2; unfold u6; split <;> omega
            have hk : okk (k : Int) = true := by simp [okk]; omega
            refine ⟨a2, a3, ⟨⟨by show -9223372036854775808 ≤ (k : Int); omega, by show (k : Int) < _; omega⟩, i0, i1, hu.1, hu.2, i3⟩, hk, ?_⟩
            have hw : wh4 ⟨k, x0, x1, u6 x2, x3⟩ = wh := by
              unfold wh4 wn
              simp only [s6_u6 x2 i2]
              have p0 : wh / 2 ^ 0 = wh := by simp
              rw [p0] at z0
              have e1 : (2 : Nat) ^ 1 = 2 := rfl
              have e2 : (2 : Nat) ^ 2 = 4 := rfl
              have e3 : (2 : Nat) ^ 3 = 8 := rfl
              rw [e1] at z1
              rw [e2] at z2
              rw [e3] at z3
              by_cases c0 : x0 = 0 <;> by_cases c1 : x1 = 0 <;> by_cases c2 : x2 = 0 <;> by_cases c3 : x3 = 0 <;> simp only [c0, c1, c2, c3, if_true, if_false, iff_true, iff_false] at z0 z1 z2 z3 ⊢ <;> omega
            unfold putE
            rw [if_pos hk, hw, a4]
            simp only [Int.toNat_natCast, fs, s6_u6 x2 i2, pa, List.take]
            rfl
/-- The events that bytes are, behind those of l. -/
def rd : Nat → List Ev → List Nat → Except Int (List Ev)
  | 0, l, _ => .ok l
  | f + 1, l, b => if b = [] then .ok l else if l.length = 600 then .error 15 else match getE b with
    | .error e => .error e
    | .ok (e, p) => rd f (l ++ [e]) (b.drop p)
def readE (l : List Ev) (b : List Nat) : Except Int (List Ev) := rd (b.length + 1) l b
theorem rd_fuel (m : Nat) : ∀ f g l b, (∀ x ∈ b, x < 256) → b.length ≤ m → b.length < f → b.length < g → rd f l b = rd g l b := by
  induction m with
  | zero =>
    intro f g l b _ h hf hg
    obtain rfl : b = [] := List.eq_nil_of_length_eq_zero (by omega)
    obtain ⟨f', rfl⟩ : ∃ f', f = f' + 1 := ⟨f - 1, by omega⟩
    obtain ⟨g', rfl⟩ : ∃ g', g = g' + 1 := ⟨g - 1, by omega⟩
    simp [rd]
  | succ m ih =>
    intro f g l b hb h hf hg
    obtain ⟨f', rfl⟩ : ∃ f', f = f' + 1 := ⟨f - 1, by omega⟩
    obtain ⟨g', rfl⟩ : ∃ g', g = g' + 1 := ⟨g - 1, by omega⟩
    by_cases e : b = []
    · subst e; simp [rd]
    · simp only [rd, if_neg e]
      split
      · rfl
      · split
        · rfl
        · rename_i ev p h2
          obtain ⟨a1, a2, _⟩ := put_get b hb ev p h2
          have hd : (b.drop p).length = b.length - p := List.length_drop ..
          exact ih _ _ _ _ (fun x hx => hb x (List.mem_of_mem_drop hx)) (by omega) (by omega) (by omega)
theorem read_nil (l : List Ev) : readE l [] = .ok l := by simp [readE, rd]
theorem read_size (l : List Ev) (b : List Nat) (h : b ≠ []) (hl : l.length = 600) : readE l b = .error 15 := by simp only [readE, rd, if_neg h, if_pos hl]
theorem read_bad (l : List Ev) (b : List Nat) (h : b ≠ []) (hl : l.length ≠ 600) (c : Int) (e : getE b = .error c) : readE l b = .error c := by simp only [readE, rd, if_neg h, if_neg hl, e]
theorem read_more (l : List Ev) (b : List Nat) (hb : ∀ x ∈ b, x < 256) (h : b ≠ []) (hl : l.length ≠ 600) (ev : Ev) (p : Nat) (e : getE b = .ok (ev, p)) : readE l b = readE (l ++ [ev]) (b.drop p) := by
  obtain ⟨a1, a2, _⟩ := put_get b hb ev p e
  have hd : (b.drop p).length = b.length - p := List.length_drop ..
  simp only [readE]
  rw [show rd (b.length + 1) l b = rd b.length (l ++ [ev]) (b.drop p) by simp only [rd, if_neg h, if_neg hl, e]]
  exact rd_fuel b.length _ _ _ _ (fun x hx => hb x (List.mem_of_mem_drop hx)) (by omega) (by omega) (by omega)
end Go.Proofs.YtmlilgbochbbiaaGreatDoor.Wi0
namespace Go.Proofs.YtmlilgbochbbiaaGreatDoor.Wir
open Go.ChangeShapes Go.WideShapes Go.ChangeAt Go.RowKit
open Wi0
/-- A slice of bytes. -/
structure CRow (w : World) (a : Option Addr) (n cap : Nat) (xs : List Nat) : Prop where
  row : ORow by8 w (.slice a n cap) xs
  cp : n ≤ cap
  lt : ∀ x ∈ xs, x < 256
section
variable {w u : World} {a : Option Addr} {n cap : Nat} {xs : List Nat}
theorem CRow.nn (h : CRow w a n cap xs) : n = xs.length := orow_len h.row
theorem CRow.heap (h : CRow w a n cap xs) (e : u.heap = w.heap) : CRow u a n cap xs := ⟨h.row.heap e, h.cp, h.lt⟩
theorem CRow.below (h : CRow w a n cap xs) (e : Below w.heap.size w u) : CRow u a n cap xs := ⟨h.row.below e, h.cp, h.lt⟩
theorem CRow.cell (h : CRow w a n cap xs) {k x : Nat} (hk : xs[k]? = some x) : ∃ b off, a = some ⟨b, off, none⟩ ∧ b < w.heap.size ∧ w.cell? ⟨b, off + k, none⟩ = some (.int .u8 (x : Nat)) := orow_cell h.row hk
theorem get_some {xs : List Nat} {k : Nat} (h : k < xs.length) : ∃ x, xs[k]? = some x := ⟨_, List.getElem?_eq_getElem h⟩
end
theorem Tryz.info8 : (Tryz.prog.info? 5).map (fun i => (i.zero, i.size, i.bytes)) = some (some (.int .u8 0), 1, 1) := by kernel_rfl
theorem sl_from (w : World) (a : Option Addr) (n cap k : Nat) (h : k ≤ n) :
    (Instr.slice 26 (.slice a n cap) (some (.int .i64 (k : Int))) none none).run Tryz.prog w = .ok (.slice (if cap = k then a else a.map (·.add (k * 1))) (n - k) (cap - k)) w := by
  obtain ⟨i0, hi, hz0, hz1, hz2⟩ := info_parts Tryz.info8
  have l : (0 : Int) ≤ k ∧ (k : Int) ≤ n := by omega
  simp [Instr.slice, run_underlying Tryz.underlying26, Instr.sliceBounds, Instr.sliceBound, asIntOf, sizeOf, typeInfo, hi, hz1, h]
theorem sl_part (w : World) (a : Option Addr) (n cap k : Nat) (h : 1 + k ≤ cap) :
    (Instr.slice 26 (.slice a n cap) (some (.int .i64 1)) (some (.int .i64 (1 + (k : Int)))) none).run Tryz.prog w = .ok (.slice (if cap = 1 then a else a.map (·.add (1 * 1))) k (cap - 1)) w := by
  obtain ⟨i0, hi, hz0, hz1, hz2⟩ := info_parts Tryz.info8
  have l : (0 : Int) ≤ 1 + (k : Int) ∧ 1 + (k : Int) ≤ cap := by omega
  have e : (1 + (k : Int)).toNat = 1 + k := by omega
  simp [Instr.slice, run_underlying Tryz.underlying26, Instr.sliceBounds, Instr.sliceBound, asIntOf, sizeOf, typeInfo, hi, hz1, l, e]
  intro c
  omega
theorem crow_from {w : World} {a : Option Addr} {n cap k : Nat} {xs : List Nat} (h : CRow w a n cap xs) (hk : k ≤ n) : CRow w (if cap = k then a else a.map (·.add (k * 1))) (n - k) (cap - k) (xs.drop k) := by
  have nn := h.nn
  have cp := h.cp
  refine ⟨?_, by omega, fun x hx => h.lt x (List.mem_of_mem_drop hx)⟩
  by_cases e : k = n
  · rw [show xs.drop k = [] from List.drop_eq_nil_of_le (by omega)]
    exact Or.inl ⟨rfl, _, cap - k, by rw [e, Nat.sub_self]⟩
  · rw [if_neg (by omega)]
    have hk2 : k < xs.length := by omega
    obtain ⟨x, hx⟩ := get_some hk2
    obtain ⟨b, off, rfl, _⟩ := h.cell hx
    have := orow_drop (k := k) h.row (n - k) (cap - k) (by omega) (by omega)
    rw [Option.map_some, Addr.add_lit, Nat.mul_one]
    exact this
theorem crow_part {w : World} {a : Option Addr} {n cap k : Nat} {xs : List Nat} (h : CRow w a n cap xs) (hk : 1 + k ≤ n) (h0 : 1 ≤ k) : CRow w (if cap = 1 then a else a.map (·.add (1 * 1))) k (cap - 1) ((xs.drop 1).take k) := by
  have nn := h.nn
  have cp := h.cp
  have d := crow_from (k := 1) h (by omega)
  exact ⟨orow_take d.row (cap - 1) (by rw [List.length_drop]; omega), by omega, fun x hx => d.lt x (List.mem_of_mem_take hx)⟩
/-- A number below 0, turned over. -/
def fo (n : Int) : Nat := if n < 0 then (-n - 1).toNat else n.toNat
theorem xor_fold (n : Int) (h : I6 n) : bits .xor .i64 n (n / 9223372036854775808) = (fo n : Nat) := by
  obtain ⟨l1, l2⟩ := h
  have e0 : (BitVec.ofInt 64 n).toNat = (n % 18446744073709551616).toNat := by rw [BitVec.toNat_ofInt]; rfl
  show IntKind.i64.wrap (((BitVec.ofInt 64 n) ^^^ (BitVec.ofInt 64 (n / 9223372036854775808))).toNat : Int) = _
  unfold fo
  by_cases c : n < 0
  · rw [if_pos c, show n / 9223372036854775808 = -1 by omega, show BitVec.ofInt 64 (-1) = BitVec.allOnes 64 by decide, BitVec.xor_allOnes, BitVec.toNat_not, e0, IntKind.wrap_i64]
    omega
  · rw [if_neg c, show n / 9223372036854775808 = 0 by omega, show BitVec.ofInt 64 0 = 0#64 by decide, BitVec.xor_zero, e0, IntKind.wrap_i64]
    omega
theorem fo_lt (n : Int) (h : I6 n) : fo n < 9223372036854775808 := by obtain ⟨l1, l2⟩ := h; unfold fo; split <;> omega
theorem fo_fit (n : Int) (k : Nat) (h : 0 ≤ hf k) : fitk n k = true ↔ (fo n : Int) < hf k := by
  rw [fit_iff]
  unfold fo
  split <;> omega
theorem hf_pos (k : Nat) : 0 ≤ hf k := by unfold hf; split <;> omega
theorem wd_len (n : Int) (h : I6 n) : wd n = Lib.bitLen (fo n) / 8 + 1 := by
  have l := fo_lt n h
  have b63 : Lib.bitLen (fo n) ≤ 63 := Lib.bitLen_le (fo n) 63 (by omega) l
  have P : ∀ j : Nat, j ≤ 63 → (fo n < 2 ^ j ↔ Lib.bitLen (fo n) ≤ j) := by
    intro j hj
    constructor
    · exact Lib.bitLen_le (fo n) j (by omega)
    · intro q
      by_cases z : fo n = 0
      · rw [z]; exact Nat.two_pow_pos _
      · have := (Lib.bitLenAux_bounds 64 (fo n) (by omega) z).2.2
        exact Nat.lt_of_lt_of_le this (Nat.pow_le_pow_right (by omega) q)
  have p1 := P 7 (by omega); have p2 := P 15 (by omega); have p3 := P 23 (by omega); have p4 := P 31 (by omega); have p5 := P 39 (by omega); have p6 := P 47 (by omega); have p7 := P 55 (by omega); have p8 := P 63 (by omega)
  generalize Lib.bitLen (fo n) = B at *
  have f1 := fo_fit n 1 (hf_pos 1); have f2 := fo_fit n 2 (hf_pos 2); have f3 := fo_fit n 3 (hf_pos 3); have f4 := fo_fit n 4 (hf_pos 4); have f5 := fo_fit n 5 (hf_pos 5); have f6 := fo_fit n 6 (hf_pos 6); have f7 := fo_fit n 7 (hf_pos 7); have f8 := fo_fit n 8 (hf_pos 8)
  simp only [hf] at f1 f2 f3 f4 f5 f6 f7 f8
  generalize fo n = m at *
  clear P
  have nf : ∀ k, (¬ fitk n k = true) → fitk n k = false := fun k h => by simpa using h
  have : B / 8 = 0 ∨ B / 8 = 1 ∨ B / 8 = 2 ∨ B / 8 = 3 ∨ B / 8 = 4 ∨ B / 8 = 5 ∨ B / 8 = 6 ∨ B / 8 = 7 := by omega
  rcases this with q | q | q | q | q | q | q | q <;> rw [q, wd_cases n h _ (by omega) (by omega)]
  · exact ⟨f1.2 (by omega), Or.inl rfl⟩
  · exact ⟨f2.2 (by omega), Or.inr (nf _ fun c => by have := f1.1 c; omega)⟩
  · exact ⟨f3.2 (by omega), Or.inr (nf _ fun c => by have := f2.1 c; omega)⟩
  · exact ⟨f4.2 (by omega), Or.inr (nf _ fun c => by have := f3.1 c; omega)⟩
  · exact ⟨f5.2 (by omega), Or.inr (nf _ fun c => by have := f4.1 c; omega)⟩
  · exact ⟨f6.2 (by omega), Or.inr (nf _ fun c => by have := f5.1 c; omega)⟩
  · exact ⟨f7.2 (by omega), Or.inr (nf _ fun c => by have := f6.1 c; omega)⟩
  · exact ⟨f8.2 (by omega), Or.inr (nf _ fun c => by have := f7.1 c; omega)⟩
/-- A byte behind a number. -/
theorem or_low (n : Int) (x : Nat) (h1 : -36028797018963968 ≤ n) (h2 : n < 36028797018963968) (hx : x < 256) : bits .or .i64 (n * 256) (x : Int) = n * 256 + x := by
  have e0 : (BitVec.ofInt 64 (n * 256)).toNat = (n * 256 % 18446744073709551616).toNat := by rw [BitVec.toNat_ofInt]; rfl
  have e1 : (BitVec.ofInt 64 (x : Int)).toNat = x := by rw [BitVec.ofInt_natCast, BitVec.toNat_ofNat]; omega
  show IntKind.i64.wrap (((BitVec.ofInt 64 (n * 256)) ||| (BitVec.ofInt 64 (x : Int))).toNat : Int) = _
  rw [BitVec.toNat_or, e0, e1]
  obtain ⟨q, hq⟩ : ∃ q : Nat, (n * 256 % 18446744073709551616).toNat = 2 ^ 8 * q := ⟨(n * 256 % 18446744073709551616).toNat / 256, by omega⟩
  rw [hq, ← Nat.two_pow_add_eq_or_of_lt (by omega : x < 2 ^ 8), IntKind.wrap_i64]
  omega
theorem sb_wrap (x : Nat) (h : x < 256) : IntKind.i8.wrap (x : Int) = sb x := by
  unfold sb
  simp [IntKind.wrap, IntKind.bits, IntKind.signed]
  split <;> split <;> omega
theorem width_any (n : Int) (w : World) (h : I6 n) : Calls Tryz.prog 55 #[.int .i64 n] w fun e w' => e = .returned (.int .i64 (wd n : Nat)) ∧ w' = w := by
  have x0 := xor_fold n h
  have hw := wd_len n h
  have l := fo_lt n h
  obtain ⟨m, hm⟩ : ∃ m, fo n = m := ⟨_, rfl⟩
  rw [hm] at x0 hw l
  have u0 : IntKind.u64.wrap (m : Int) = (m : Int) := by rw [IntKind.wrap_u64]; omega
  have C : Hid (∀ w, _) := fun w => len_int (m : Int) w (by omega) (by omega)
  have b63 : Lib.bitLen m ≤ 63 := Lib.bitLen_le m 63 (by omega) l
  rw [Int.toNat_natCast] at C
  generalize Lib.bitLen m = B at *
  obtain ⟨z, hz⟩ : ∃ z, wd n = z := ⟨_, rfl⟩
  rw [hz] at hw ⊢
  have HN : Hid (wrap64 (wrap64 ((B : Int) / 8) + 1) = (z : Int)) := by show wrap64 (wrap64 ((B : Int) / 8) + 1) = (z : Int); simp only [wrap64]; omega
  clear h hw l hm hz b63
  go_enter Tryz.func55, Tryz.ntmps55
  go_wp2_with fail
  refine (C.out _).mono ?_
  rintro e w' ⟨rfl, rfl⟩
  go_wp2
  go_ret
  exact ⟨congrArg (fun y => Ending.returned (.int .i64 y)) HN.out, rfl⟩
theorem iskind_any (n : Int) (w : World) : Calls Tryz.prog 30 #[.int .i64 n] w fun e w' => e = .returned (.bool (okk n)) ∧ w' = w := by
  unfold okk
  by_cases h1 : 1 ≤ n
  · by_cases h2 : n ≤ 30
    · rw [decide_eq_true h1, decide_eq_true h2]
      go_enter Tryz.func30, Tryz.ntmps30
      go_wp2
      go_ret
      exact ⟨rfl, rfl⟩
    · rw [decide_eq_true h1, decide_eq_false h2]
      go_enter Tryz.func30, Tryz.ntmps30
      go_wp2
      go_ret
      exact ⟨rfl, rfl⟩
  · rw [decide_eq_false h1, Bool.false_and]
    go_enter Tryz.func30, Tryz.ntmps30
    go_wp2
    go_ret
    exact ⟨rfl, rfl⟩
end Go.Proofs.YtmlilgbochbbiaaGreatDoor.Wir
namespace Go.Proofs.YtmlilgbochbbiaaGreatDoor.Wir
open Go.ChangeShapes Go.WideShapes Go.ChangeAt Go.RowKit
open Wi0
theorem fold_take (x : Nat) (r : List Nat) (k y : Nat) (h : r[k]? = some y) : vl (x :: r.take (k + 1)) = vl (x :: r.take k) * 256 + y := by
  have hk : k < r.length := by
    rcases Nat.lt_or_ge k r.length with q | q
    · exact q
    · rw [List.getElem?_eq_none q] at h; cases h
  have e : r[k] = y := by rw [List.getElem?_eq_getElem hk] at h; exact Option.some.inj h
  rw [List.take_succ_eq_append_getElem hk, e]
  exact vl_snoc (x :: r.take k) y (by simp)
theorem fold_range (x : Nat) (r : List Nat) (k : Nat) (hk : k ≤ 6) (hl : k ≤ r.length) (hb : ∀ y ∈ x :: r, y < 256) : -36028797018963968 ≤ vl (x :: r.take k) ∧ vl (x :: r.take k) < 36028797018963968 := by
  have hlen : (x :: r.take k).length = k + 1 := by simp; omega
  obtain ⟨a, b, _⟩ := vl_range (x :: r.take k) k hlen (fun y hy => by
    rcases List.mem_cons.1 hy with rfl | hy
    · exact hb _ (by simp)
    · exact hb y (List.mem_cons_of_mem _ (List.mem_of_mem_take hy)))
  rw [hg_hf _ (by omega) (by omega)] at a b
  have : k = 0 ∨ k = 1 ∨ k = 2 ∨ k = 3 ∨ k = 4 ∨ k = 5 ∨ k = 6 := by omega
  rcases this with rfl | rfl | rfl | rfl | rfl | rfl | rfl <;> simp only [hf] at a b <;> omega
set_option maxRecDepth 100000 in
set_option maxHeartbeats 1000000 in
theorem number_any (w : World) (a : Option Addr) (n cap : Nat) (xs : List Nat) (h : CRow w a n cap xs) (h1 : 1 ≤ n) (h8 : n ≤ 8) :
    Calls Tryz.prog 95 #[.slice a n cap] w fun e w' => e = .returned (.int .i64 (vl xs)) ∧ w' = w := by
  obtain ⟨x, r, rfl⟩ : ∃ x r, xs = x :: r := by
    cases xs with
    | nil => have := h.nn; simp at this; omega
    | cons x r => exact ⟨x, r, rfl⟩
  have hl : n = r.length + 1 := by simpa using h.nn
  obtain ⟨b, off, rfl, _, c0⟩ := h.cell (k := 0) (x := x) rfl
  have hb := h.lt
  have hx := hb x (by simp)
  have SL : (Instr.slice 26 (.slice (some ⟨b, off, none⟩) n cap) (some (.int .i64 1)) none none).run Tryz.prog w = .ok (.slice (if cap = 1 then some (⟨b, off, none⟩ : Addr) else (some (⟨b, off, none⟩ : Addr)).map (·.add (1 * 1))) (n - 1) (cap - 1)) w := sl_from w (some ⟨b, off, none⟩) n cap 1 (by omega)
  have D := crow_from (k := 1) h (by omega)
  rw [show (x :: r).drop 1 = r from rfl] at D
  obtain ⟨a2, ha2⟩ : ∃ a2, (if cap = 1 then some (⟨b, off, none⟩ : Addr) else (some (⟨b, off, none⟩ : Addr)).map (·.add (1 * 1))) = a2 := ⟨_, rfl⟩
  rw [ha2] at SL D
  have HD : Hid (CRow w a2 (n - 1) (cap - 1) r) := D
  have HB : Hid (∀ y ∈ x :: r, y < 256) := hb
  have HL : Hid (n = r.length + 1 ∧ n ≤ 8) := ⟨hl, h8⟩
  have c0 : w.cell? ⟨b, off, none⟩ = some (.int .u8 (x : Nat)) := c0
  have w8 := sb_wrap x hx
  have s0 : Hid (sb x = vl (x :: r.take 0)) := by show sb x = vl (x :: r.take 0); rfl
  have w6 : IntKind.i64.wrap (sb x) = sb x := by rw [IntKind.wrap_i64]; unfold sb; split <;> omega
  obtain ⟨l, hl2⟩ : ∃ l, n - 1 = l := ⟨_, rfl⟩
  rw [hl2] at SL HD
  have HV : Hid (vl (x :: r) = vl (x :: r.take l)) := by show vl (x :: r) = vl (x :: r.take l); rw [List.take_of_length_le (by omega)]
  obtain ⟨V, hV⟩ : ∃ V, vl (x :: r) = V := ⟨_, rfl⟩
  rw [hV] at HV ⊢
  have HL2 : Hid (n - 1 = l) := hl2
  have n0 : (0 : Int) < n := by omega
  have l7 : (l : Int) ≤ 7 := by omega
  generalize sb x = y0 at *
  clear h D ha2 hb hx hl hl2 hV h1 h8
  go_enter Tryz.func95, Tryz.ntmps95
  go_wp2
  go_loop [3, 14] (fun v i => ∃ k : Nat, (k : Int) ≤ l ∧ v = .int .i64 (vl (x :: r.take k)) ∧ i = .int .i64 k) (fun _ i => l - (intOf i).toNat)
  case atStart => exact ⟨0, by omega, congrArg _ s0.out, rfl⟩
  case round =>
    obtain ⟨k, hk, rfl, rfl⟩ := hrel
    by_cases q : (k : Int) < l
    · obtain ⟨y, hy⟩ := get_some (xs := r) (k := k) (by have := HL.out; have := HL2.out; omega)
      obtain ⟨b2, off2, e2, _, cy⟩ := HD.out.cell hy
      subst e2
      have hyl := HB.out y (List.mem_cons_of_mem _ (List.mem_of_getElem? hy))
      have NX : Hid (vl (x :: r.take (k + 1)) = vl (x :: r.take k) * 256 + y) := fold_take x r k y hy
      obtain ⟨r1, r2⟩ := fold_range x r k (by omega) (by have := HL.out; have := HL2.out; omega) HB.out
      generalize vl (x :: r.take k) = v at *
      have o1 := or_low v y r1 r2 hyl
      have o2 : wrap64 (v * 256) = v * 256 := by simp only [wrap64]; omega
      have o3 : IntKind.i64.wrap (v * 256) = v * 256 := by rw [IntKind.wrap_i64]; omega
      have o4 : wrap64 (y : Int) = y := by simp only [wrap64]; omega
      rw [← NX.out] at o1
      obtain ⟨z, hz⟩ : ∃ z, vl (x :: r.take (k + 1)) = z := ⟨_, rfl⟩
      have HZ : Hid (vl (x :: r.take (k + 1)) = z) := hz
      rw [hz] at o1
      clear hy hyl r1 r2 NX hz s0
      go_wp2
      go_round
      case rel => exact ⟨k + 1, by omega, congrArg _ HZ.out.symm, by go_num⟩
      case measure => simp [intOf]; omega
    · obtain rfl : k = l := by omega
      go_wp2
      go_ret
      exact ⟨congrArg (fun z => Ending.returned (.int .i64 z)) HV.out.symm, rfl⟩
def gnV : Except Int (Int × Nat) → Value
  | .ok (n, k) => .tuple #[.int .i64 n, .int .i64 (k : Nat), .int .i64 0]
  | .error e => .tuple #[.int .i64 0, .int .i64 0, .int .i64 e]
set_option maxRecDepth 100000 in
set_option maxHeartbeats 1000000 in
theorem getnumber_any (w : World) (a : Option Addr) (n cap : Nat) (xs : List Nat) (h : CRow w a n cap xs) (hn : (n : Int) ≤ 100000) :
    Calls Tryz.prog 58 #[.slice a n cap] w fun e w' => e = .returned (gnV (gn xs)) ∧ w' = w := by
  have nn := h.nn
  cases xs with
  | nil =>
    obtain rfl : n = 0 := by simpa using nn
    rw [show gnV (gn []) = .tuple #[.int .i64 0, .int .i64 0, .int .i64 14] from rfl]
    clear h nn
    go_enter Tryz.func58, Tryz.ntmps58
    go_wp2
    go_ret3
    exact ⟨rfl, rfl⟩
  | cons x r =>
    have hl : n = r.length + 1 := by simpa using nn
    obtain ⟨b, off, rfl, _, c0⟩ := h.cell (k := 0) (x := x) rfl
    have c0 : w.cell? ⟨b, off, none⟩ = some (.int .u8 (x : Nat)) := c0
    have hx := h.lt x (by simp)
    have n0 : (0 : Int) < n := by omega
    have n1 : ¬ (n : Int) < 1 := by omega
    have u0 : IntKind.i64.wrap (x : Int) = x := by rw [IntKind.wrap_i64]; omega
    have u1 : wrap64 (x : Int) = x := by simp only [wrap64]; omega
    have cp := h.cp
    by_cases k1 : x < 1 ∨ 8 < x
    · have e : gn (x :: r) = .error 13 := by simp only [gn]; rw [if_pos k1]
      rw [e, show gnV (.error 13) = .tuple #[.int .i64 0, .int .i64 0, .int .i64 13] from rfl]
      clear nn hl h hx e cp
      rcases k1 with k1 | k1
      · have k2 : (x : Int) < 1 := by omega
        clear k1
        go_enter Tryz.func58, Tryz.ntmps58
        go_wp2
        go_ret3
        exact ⟨rfl, rfl⟩
      · have k2 : (8 : Int) < x := by omega
        have k3 : ¬ (x : Int) < 1 := by omega
        clear k1
        go_enter Tryz.func58, Tryz.ntmps58
        go_wp2
        go_ret3
        exact ⟨rfl, rfl⟩
    · have k2 : ¬ (x : Int) < 1 := by omega
      have k3 : ¬ (8 : Int) < x := by omega
      have u2 : wrap64 (1 + (x : Int)) = 1 + (x : Int) := by simp only [wrap64]; omega
      by_cases sh : r.length < x
      · have e : gn (x :: r) = .error 14 := by simp only [gn]; rw [if_neg k1, if_pos sh]
        rw [e, show gnV (.error 14) = .tuple #[.int .i64 0, .int .i64 0, .int .i64 14] from rfl]
        have q : (n : Int) < 1 + (x : Int) := by omega
        clear nn hl h hx e sh k1 cp
        go_enter Tryz.func58, Tryz.ntmps58
        go_wp2
        go_ret3
        exact ⟨rfl, rfl⟩
      · have q : ¬ (n : Int) < 1 + (x : Int) := by omega
        have SL : (Instr.slice 26 (.slice (some ⟨b, off, none⟩) n cap) (some (.int .i64 1)) (some (.int .i64 (1 + (x : Int)))) none).run Tryz.prog w = .ok (.slice (if cap = 1 then some (⟨b, off, none⟩ : Addr) else (some (⟨b, off, none⟩ : Addr)).map (·.add (1 * 1))) x (cap - 1)) w := sl_part w (some ⟨b, off, none⟩) n cap x (by omega)
        have D := crow_part (k := x) h (by omega) (by omega)
        rw [show (x :: r).drop 1 = r from rfl] at D
        obtain ⟨a2, ha2⟩ : ∃ a2, (if cap = 1 then some (⟨b, off, none⟩ : Addr) else (some (⟨b, off, none⟩ : Addr)).map (·.add (1 * 1))) = a2 := ⟨_, rfl⟩
        rw [ha2] at SL D
        have hlt : (r.take x).length = x := by rw [List.length_take]; omega
        have I : I6 (vl (r.take x)) := by
          obtain ⟨j, rfl⟩ : ∃ j, x = j + 1 := ⟨x - 1, by omega⟩
          obtain ⟨p1, p2, _⟩ := vl_range (r.take (j + 1)) j hlt D.lt
          rw [hg_hf _ (by omega) (by omega)] at p1 p2
          have : hf (j + 1) ≤ 9223372036854775808 := by
            have : j = 0 ∨ j = 1 ∨ j = 2 ∨ j = 3 ∨ j = 4 ∨ j = 5 ∨ j = 6 ∨ j = 7 := by omega
            rcases this with rfl | rfl | rfl | rfl | rfl | rfl | rfl | rfl <;> simp [hf]
          exact ⟨by omega, by omega⟩
        have N : Hid (∀ _ : Unit, _) := fun _ => number_any w a2 x (cap - 1) (r.take x) D (by omega) (by omega)
        have W : Hid (∀ _ : Unit, _) := fun _ => width_any (vl (r.take x)) w I
        have gq : gn (x :: r) = if vl (r.take x) = 0 ∨ wd (vl (r.take x)) ≠ x then .error 13 else .ok (vl (r.take x), x + 1) := by simp only [gn]; rw [if_neg k1, if_neg sh]
        rw [gq]
        generalize vl (r.take x) = v at *
        by_cases v0 : v = 0
        · rw [if_pos (Or.inl v0), show gnV (.error 13) = .tuple #[.int .i64 0, .int .i64 0, .int .i64 13] from rfl]
          subst v0
          clear nn hl h hx sh k1 cp D ha2 hlt I gq W
          go_enter Tryz.func58, Tryz.ntmps58
          go_wp2_with fail
          refine (N.out ()).mono ?_
          rintro e w' ⟨rfl, rfl⟩
          go_wp2
          go_ret3
          exact ⟨rfl, rfl⟩
        · have v1 : (v == 0) = false := beq_eq_false_iff_ne.2 v0
          by_cases wx : wd v = x
          · rw [if_neg (by simp [v0, wx]), show gnV (.ok (v, x + 1)) = .tuple #[.int .i64 v, .int .i64 ((x + 1 : Nat) : Int), .int .i64 0] from rfl]
            rw [wx] at W
            have u3 : (((x + 1 : Nat)) : Int) = 1 + (x : Int) := by omega
            rw [u3]
            clear nn hl h hx sh k1 cp D ha2 hlt I gq wx v0 u3
            go_enter Tryz.func58, Tryz.ntmps58
            go_wp2_with fail
            refine (N.out ()).mono ?_
            rintro e w' ⟨rfl, rfl⟩
            go_wp2_with fail
            refine (W.out ()).mono ?_
            rintro e w' ⟨rfl, rfl⟩
            go_wp2
            go_ret3
            exact ⟨rfl, rfl⟩
          · rw [if_pos (Or.inr wx), show gnV (.error 13) = .tuple #[.int .i64 0, .int .i64 0, .int .i64 13] from rfl]
            have w1 : ((wd v : Int) == (x : Int)) = false := by rw [beq_eq_false_iff_ne]; omega
            generalize wd v = y at *
            clear nn hl h hx sh k1 cp D ha2 hlt I gq wx v0
            go_enter Tryz.func58, Tryz.ntmps58
            go_wp2_with fail
            refine (N.out ()).mono ?_
            rintro e w' ⟨rfl, rfl⟩
            go_wp2_with fail
            refine (W.out ()).mono ?_
            rintro e w' ⟨rfl, rfl⟩
            go_wp2
            go_ret3
            exact ⟨rfl, rfl⟩
/-- What the first two bytes say. -/
def hdV : List Nat → Value
  | [] => .tuple #[.int .i64 0, .int .i64 0, .int .i64 14]
  | [k] => if okk k then .tuple #[.int .i64 0, .int .i64 0, .int .i64 14] else .tuple #[.int .i64 0, .int .i64 0, .int .i64 13]
  | k :: wh :: _ => if okk k then if 15 < wh then .tuple #[.int .i64 0, .int .i64 0, .int .i64 13] else .tuple #[.int .i64 (k : Nat), .int .i64 (wh : Nat), .int .i64 0] else .tuple #[.int .i64 0, .int .i64 0, .int .i64 13]
set_option maxRecDepth 100000 in
set_option maxHeartbeats 1000000 in
theorem gethead_any (w : World) (a : Option Addr) (n cap : Nat) (xs : List Nat) (h : CRow w a n cap xs) (hn : (n : Int) ≤ 100000) :
    Calls Tryz.prog 57 #[.slice a n cap] w fun e w' => e = .returned (hdV xs) ∧ Sm w' w := by
  have nn := h.nn
  rcases xs with _ | ⟨x, _ | ⟨y, r⟩⟩
  · skip
    obtain rfl : n = 0 := by simpa using nn
    rw [show hdV [] = .tuple #[.int .i64 0, .int .i64 0, .int .i64 14] from rfl]
    clear h nn hn
    go_enter Tryz.func57, Tryz.ntmps57
    go_wp2
    go_ret3
    exact ⟨rfl, rfl, rfl, rfl, rfl⟩
  · skip
    obtain rfl : n = 1 := by simpa using nn
    obtain ⟨b, off, rfl, _, c0⟩ := h.cell (k := 0) (x := x) rfl
    have c0 : w.cell? ⟨b, off, none⟩ = some (.int .u8 (x : Nat)) := c0
    have hx := h.lt x (by simp)
    have u0 : IntKind.i64.wrap (x : Int) = x := by rw [IntKind.wrap_i64]; omega
    have u1 : wrap64 (x : Int) = x := by simp only [wrap64]; omega
    have C : Hid (∀ w, _) := fun w => iskind_any (x : Int) w
    rw [show hdV [x] = if okk x then .tuple #[.int .i64 0, .int .i64 0, .int .i64 14] else .tuple #[.int .i64 0, .int .i64 0, .int .i64 13] from rfl]
    cases hk : okk (x : Int) with
    | false =>
      rw [hk] at C
      rw [if_neg (by simp)]
      clear nn hn h hx hk
      go_enter Tryz.func57, Tryz.ntmps57
      go_wp2_with fail
      refine (C.out _).mono ?_
      rintro e w' ⟨rfl, rfl⟩
      go_wp2
      go_ret3
      exact ⟨rfl, rfl, rfl, rfl, rfl⟩
    | true =>
      rw [hk] at C
      rw [if_pos rfl]
      clear nn hn h hk
      (try clear hw)
      (try clear hl)
      (try clear hx)
      (try clear hy)
      go_enter Tryz.func57, Tryz.ntmps57
      go_wp2_with fail
      refine (C.out _).mono ?_
      rintro e w' ⟨rfl, rfl⟩
      go_wp2
      go_ret3
      exact ⟨rfl, rfl, rfl, rfl, rfl⟩
  · skip
    have hl : n = r.length + 2 := by simpa using nn
    obtain ⟨b, off, rfl, _, c0⟩ := h.cell (k := 0) (x := x) rfl
    obtain ⟨b', off', e1, _, c1⟩ := h.cell (k := 1) (x := y) rfl
    simp only [Option.some.injEq, Addr.mk.injEq, and_true] at e1
    obtain ⟨rfl, rfl⟩ := e1
    have c0 : w.cell? ⟨b, off, none⟩ = some (.int .u8 (x : Nat)) := c0
    have hx := h.lt x (by simp)
    have hy := h.lt y (by simp)
    have u0 : IntKind.i64.wrap (x : Int) = x := by rw [IntKind.wrap_i64]; omega
    have u1 : wrap64 (x : Int) = x := by simp only [wrap64]; omega
    have v0 : IntKind.i64.wrap (y : Int) = y := by rw [IntKind.wrap_i64]; omega
    have v1 : wrap64 (y : Int) = y := by simp only [wrap64]; omega
    have n0 : (0 : Int) < n := by omega
    have n1 : ¬ (n : Int) < 1 := by omega
    have n2 : ¬ (n : Int) < 2 := by omega
    have n3 : (1 : Int) < n := by omega
    have C : Hid (∀ w, _) := fun w => iskind_any (x : Int) w
    rw [show hdV (x :: y :: r) = if okk x then if 15 < y then .tuple #[.int .i64 0, .int .i64 0, .int .i64 13] else .tuple #[.int .i64 (x : Nat), .int .i64 (y : Nat), .int .i64 0] else .tuple #[.int .i64 0, .int .i64 0, .int .i64 13] from rfl]
    cases hk : okk (x : Int) with
    | false =>
      rw [hk] at C
      rw [if_neg (by simp)]
      clear nn hn h hk
      (try clear hw)
      (try clear hl)
      (try clear hx)
      (try clear hy)
      go_enter Tryz.func57, Tryz.ntmps57
      go_wp2_with fail
      refine (C.out _).mono ?_
      rintro e w' ⟨rfl, rfl⟩
      go_wp2
      go_ret3
      exact ⟨rfl, rfl, rfl, rfl, rfl⟩
    | true =>
      rw [hk] at C
      rw [if_pos rfl]
      by_cases hw : 15 < y
      · rw [if_pos hw]
        have hw2 : (15 : Int) < y := (Int.ofNat_lt (n := 15) (m := y)).2 hw
        clear nn hn h hk
        (try clear hw)
        (try clear hl)
        (try clear hx)
        (try clear hy)
        go_enter Tryz.func57, Tryz.ntmps57
        go_wp2_with fail
        refine (C.out _).mono ?_
        rintro e w' ⟨rfl, rfl⟩
        go_wp2
        go_ret3
        exact ⟨rfl, rfl, rfl, rfl, rfl⟩
      · rw [if_neg hw]
        have hw2 : ¬ (15 : Int) < y := fun c => hw ((Int.ofNat_lt (n := 15) (m := y)).1 c)
        clear nn hn h hk
        (try clear hw)
        (try clear hl)
        (try clear hx)
        (try clear hy)
        go_enter Tryz.func57, Tryz.ntmps57
        go_wp2_with fail
        refine (C.out _).mono ?_
        rintro e w' ⟨rfl, rfl⟩
        go_wp2
        go_quiet (fail)
        go_wp2
        go_ret3
        exact ⟨rfl, rfl, rfl, rfl, rfl⟩
end Go.Proofs.YtmlilgbochbbiaaGreatDoor.Wir
