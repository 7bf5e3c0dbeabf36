/- What cores cost, as plain accounts, and as they lie in memory: each account of ten cells, in one block. No program in it. -/
import Derived.Test.YtmelbbojanomiaaFg
namespace Go.Proofs.Ytmelbbojanomiaa
open Go.ChangeShapes Go.WideShapes Go.ChangeAt Go.RowKit

namespace Mt
/-- A core's account: its energy, its ticks of work, its ticks of each way to rest. -/
structure Ac where
  e : Int
  wk : Int
  r : Nat → Int

def sm8 (r : Nat → Int) : Int := r 0 + r 1 + r 2 + r 3 + r 4 + r 5 + r 6 + r 7
/-- All its ticks. -/
def tk (a : Ac) : Int := a.wk + sm8 a.r
/-- The program's ten cells. -/
def pcel (a : Ac) (j : Nat) : Int := if j = 0 then a.e else if j = 1 then tk a else a.r (j - 2)
/-- The document's ten cells. -/
def rcel (a : Ac) (j : Nat) : Int := if j = 0 then a.wk else if j = 9 then a.e else a.r (j - 1)
def ups {β : Type} (F : Nat → β) (k : Nat) (x : β) : Nat → β := fun i => if i = k then x else F i
theorem ups_at {β : Type} (F : Nat → β) (k : Nat) (x : β) : ups F k x k = x := if_pos rfl
theorem ups_ne {β : Type} (F : Nat → β) (k i : Nat) (x : β) (h : i ≠ k) : ups F k x i = F i := if_neg h
theorem ups_ups {β : Type} (F : Nat → β) (k : Nat) (x y : β) : ups (ups F k x) k y = ups F k y := by
  funext i
  unfold ups
  split <;> rfl
def za : Ac := ⟨0, 0, fun _ => 0⟩

/-- Can it be a number of ticks, or power? -/
def okT (n : Int) : Bool := decide (0 ≤ n) && decide (n ≤ 2147483648)
/-- What is answered where ticks of some power come to an energy. -/
def adE (e t p : Int) : Int := if okT t && okT p then if 4611686018427387904 < e + t * p then 16 else 0 else 2
def pay (a : Ac) (t p : Int) : Ac := ⟨a.e + t * p, a.wk + t, a.r⟩
def rest (a : Ac) (m : Nat) (t p : Int) : Ac := ⟨a.e + t * p, a.wk, ups a.r m (a.r m + t)⟩
def inr (n : Nat) (c : Int) : Bool := decide (0 ≤ c) && decide (c < (n : Int))
def wkE (n : Nat) (F : Nat → Ac) (c t p : Int) : Int := if inr n c then adE (F c.toNat).e t p else 3
def wkF (n : Nat) (F : Nat → Ac) (c t p : Int) : Nat → Ac := if wkE n F c t p = 0 then ups F c.toNat (pay (F c.toNat) t p) else F
def rsE (n : Nat) (F : Nat → Ac) (c m t p : Int) : Int := if inr n c && inr 8 m then adE (F c.toNat).e t p else 3
def rsF (n : Nat) (F : Nat → Ac) (c m t p : Int) : Nat → Ac := if rsE n F c m t p = 0 then ups F c.toNat (rest (F c.toNat) m.toNat t p) else F
def enB (n : Nat) (F : Nat → Ac) (c : Int) : Int := if inr n c then (F c.toNat).e else 0
def tkB (n : Nat) (F : Nat → Ac) (c : Int) : Int := if inr n c then tk (F c.toNat) else 0
def rsB (n : Nat) (F : Nat → Ac) (c m : Int) : Int := if inr n c && inr 8 m then (F c.toNat).r m.toNat else 0

/-- An account that can be, with at most B ticks. -/
structure Oka (a : Ac) (B : Int) : Prop where
  e0 : 0 ≤ a.e
  e1 : a.e ≤ 4611686018427387904
  w0 : 0 ≤ a.wk
  r0 : ∀ j, 0 ≤ a.r j
  tb : tk a ≤ B

theorem mul_ok {t p : Int} (h1 : okT t = true) (h2 : okT p = true) : 0 ≤ t ∧ t ≤ 2147483648 ∧ 0 ≤ t * p ∧ t * p ≤ 4611686018427387904 := by
  simp only [okT, Bool.and_eq_true, decide_eq_true_eq] at h1 h2
  refine ⟨h1.1, h1.2, Int.mul_nonneg h1.1 h2.1, ?_⟩
  have := Int.mul_le_mul h1.2 h2.2 h2.1 (by omega)
  omega

theorem sm8_up (r : Nat → Int) (m : Nat) (t : Int) (hm : m < 8) : sm8 (ups r m (r m + t)) = sm8 r + t := by
  have : m = 0 ∨ m = 1 ∨ m = 2 ∨ m = 3 ∨ m = 4 ∨ m = 5 ∨ m = 6 ∨ m = 7 := by omega
  rcases this with rfl | rfl | rfl | rfl | rfl | rfl | rfl | rfl <;> simp [sm8, ups] <;> omega
theorem adE_zero {e t p : Int} (h : adE e t p = 0) : okT t = true ∧ okT p = true ∧ e + t * p ≤ 4611686018427387904 := by
  unfold adE at h
  cases h1 : okT t <;> cases h2 : okT p <;> simp only [h1, h2, Bool.and_self, Bool.and_true, Bool.and_false, Bool.false_eq_true, if_true, if_false] at h <;> first | omega | skip
  split at h
  · omega
  · exact ⟨rfl, rfl, by omega⟩
theorem Oka.pay {a : Ac} {B t p : Int} (h : Oka a B) (e : adE a.e t p = 0) : Oka (pay a t p) (B + 2147483648) := by
  obtain ⟨h1, h2, h3⟩ := adE_zero e
  obtain ⟨m1, m2, m3, m4⟩ := mul_ok h1 h2
  have := h.e0; have := h.e1; have := h.w0; have q := h.tb
  unfold tk at q
  refine ⟨?_, ?_, ?_, h.r0, ?_⟩
  · show 0 ≤ a.e + t * p; omega
  · show a.e + t * p ≤ _; omega
  · show 0 ≤ a.wk + t; omega
  · show a.wk + t + sm8 a.r ≤ _; omega
theorem Oka.rest {a : Ac} {B t p : Int} {m : Nat} (h : Oka a B) (hm : m < 8) (e : adE a.e t p = 0) : Oka (rest a m t p) (B + 2147483648) := by
  obtain ⟨h1, h2, h3⟩ := adE_zero e
  obtain ⟨m1, m2, m3, m4⟩ := mul_ok h1 h2
  have := h.e0; have := h.e1; have := h.w0; have q := h.tb; have q0 := h.r0 m
  unfold tk at q
  refine ⟨?_, ?_, h.w0, fun j => ?_, ?_⟩
  · show 0 ≤ a.e + t * p; omega
  · show a.e + t * p ≤ _; omega
  · show 0 ≤ ups a.r m (a.r m + t) j
    unfold ups
    split
    · omega
    · exact h.r0 j
  · show a.wk + sm8 (ups a.r m (a.r m + t)) ≤ _
    rw [sm8_up _ _ _ hm]; omega
theorem Oka.mono {a : Ac} {B C : Int} (h : Oka a B) (l : B ≤ C) : Oka a C := ⟨h.e0, h.e1, h.w0, h.r0, Int.le_trans h.tb l⟩
def OkF (n : Nat) (F : Nat → Ac) (B : Int) : Prop := ∀ k, k < n → Oka (F k) B
theorem OkF.ups {n k : Nat} {F : Nat → Ac} {B C : Int} {a : Ac} (h : OkF n F B) (l : B ≤ C) (q : Oka a C) : OkF n (ups F k a) C := fun i hi => by
  unfold Mt.ups
  split
  · exact q
  · exact (h i hi).mono l
theorem inr_yes {n : Nat} {c : Int} (h : inr n c = true) : ∃ k : Nat, c = (k : Int) ∧ k < n := by
  simp only [inr, Bool.and_eq_true, decide_eq_true_eq] at h
  exact ⟨c.toNat, by omega, by omega⟩
theorem inr_nat (n k : Nat) (h : k < n) : inr n (k : Int) = true := by simp [inr]; omega
theorem OkF.wkF {n : Nat} {F : Nat → Ac} {B : Int} (h : OkF n F B) (c t p : Int) : OkF n (wkF n F c t p) (B + 2147483648) := by
  unfold Mt.wkF
  split
  · rename_i e
    unfold wkE at e
    split at e
    · rename_i q
      obtain ⟨k, rfl, hk⟩ := inr_yes q
      exact h.ups (by omega) ((h k hk).pay e)
    · omega
  · exact fun k hk => (h k hk).mono (by omega)
theorem OkF.rsF {n : Nat} {F : Nat → Ac} {B : Int} (h : OkF n F B) (c m t p : Int) : OkF n (rsF n F c m t p) (B + 2147483648) := by
  unfold Mt.rsF
  split
  · rename_i e
    unfold rsE at e
    split at e
    · rename_i q
      rw [Bool.and_eq_true] at q
      obtain ⟨k, rfl, hk⟩ := inr_yes q.1
      obtain ⟨j, rfl, hj⟩ := inr_yes q.2
      exact h.ups (by omega) ((h k hk).rest hj e)
    · omega
  · exact fun k hk => (h k hk).mono (by omega)
theorem okF_new (n : Nat) : OkF n (fun _ => za) 0 := fun k _ => ⟨Int.le_refl 0, by show (0 : Int) ≤ 4611686018427387904; omega, Int.le_refl 0, fun _ => Int.le_refl 0, Int.le_refl 0⟩
end Mt
open Mt

/-- A block's cells are accounts. -/
def Cs (L : Ac → Nat → Int) (cs : List Value) (n : Nat) (F : Nat → Ac) : Prop := cs.length = n * 10 ∧ ∀ k, k < n → ∀ j, j < 10 → cs[k * 10 + j]? = some (.int .i64 (L (F k) j))

theorem cs_set {L : Ac → Nat → Int} {cs : List Value} {n : Nat} {F : Nat → Ac} (h : Cs L cs n F) (k j : Nat) (hk : k < n) (hj : j < 10) (a : Ac) (x : Int) (h1 : L a j = x) (h2 : ∀ i, i < 10 → i ≠ j → L a i = L (F k) i) :
    Cs L (cs.set (k * 10 + j) (.int .i64 x)) n (ups F k a) := by
  refine ⟨by rw [List.length_set]; exact h.1, fun q hq i hi => ?_⟩
  rw [List.getElem?_set]
  by_cases e : q = k
  · subst e
    rw [ups_at]
    by_cases d : i = j
    · subst d
      rw [if_pos rfl, if_pos (by have := h.1; omega), h1]
    · rw [if_neg (by omega), h2 i hi d]
      exact h.2 q hq i hi
  · rw [if_neg (by omega), ups_ne _ _ _ _ e]
    exact h.2 q hq i hi

theorem cs_new (L : Ac → Nat → Int) (n : Nat) (h : ∀ j, L za j = 0) : Cs L (List.replicate (n * 10) (.int .i64 0)) n fun _ => za :=
  ⟨by simp, fun k hk j hj => by rw [h, List.getElem?_replicate, if_pos (by omega)]⟩

/-- A meter at block s, its accounts at block g. -/
structure MT (L : Ac → Nat → Int) (tm tc : TypeId) (w : World) (s g n : Nat) (F : Nat → Ac) : Prop where
  sb : Blk w s [.slice (some ⟨g, 0, none⟩) n n] tm
  gb : ∃ cs, Blk w g cs tc ∧ Cs L cs n F
  ne : s ≠ g
  nn : n ≤ 64

section
variable {L : Ac → Nat → Int} {tm tc : TypeId} {w w1 : World} {s g n : Nat} {F : Nat → Ac}
theorem MT.heap (h : MT L tm tc w s g n F) (e : w1.heap = w.heap) : MT L tm tc w1 s g n F := by
  obtain ⟨cs, a, b⟩ := h.gb
  exact ⟨h.sb.heap e, ⟨cs, a.heap e, b⟩, h.ne, h.nn⟩
theorem MT.slt (h : MT L tm tc w s g n F) : s < w.heap.size := h.sb.lt
theorem MT.glt (h : MT L tm tc w s g n F) : g < w.heap.size := by obtain ⟨cs, a, _⟩ := h.gb; exact a.lt
theorem MT.keep {B : Nat} {S : List Nat} (h : MT L tm tc w s g n F) (f : Fr B S w w1) (hb : s < B) (gb : g < B) (hs : s ∉ S) (gs : g ∉ S) : MT L tm tc w1 s g n F := by
  obtain ⟨cs, a, b⟩ := h.gb
  exact ⟨h.sb.keep f hb hs, ⟨cs, a.keep f gb gs, b⟩, h.ne, h.nn⟩
theorem MT.below (h : MT L tm tc w s g n F) (f : Below w.heap.size w w1) : MT L tm tc w1 s g n F := h.keep (Fr.of_below f) h.slt h.glt (by simp) (by simp)
theorem MT.hdr (h : MT L tm tc w s g n F) : w.cell? ⟨s, 0, none⟩ = some (.slice (some ⟨g, 0, none⟩) n n) := h.sb.cell 0
theorem MT.cell (h : MT L tm tc w s g n F) {k : Nat} (hk : k < n) (j : Nat) (hj : j < 10) : w.cell? ⟨g, k * 10 + j, none⟩ = some (.int .i64 (L (F k) j)) := by
  obtain ⟨cs, a, b⟩ := h.gb
  rw [a.cell]
  exact b.2 k hk j hj
theorem MT.free (h : MT L tm tc w s g n F) (i : Nat) : w.frozen? ⟨g, i, none⟩ = false := by
  obtain ⟨cs, a, _⟩ := h.gb
  exact a.free i
theorem MT.set (h : MT L tm tc w s g n F) {k : Nat} (hk : k < n) (j : Nat) (hj : j < 10) (a : Ac) (x : Int) (h1 : L a j = x) (h2 : ∀ i, i < 10 → i ≠ j → L a i = L (F k) i) : MT L tm tc (w.setCell ⟨g, k * 10 + j, none⟩ (.int .i64 x)) s g n (ups F k a) := by
  obtain ⟨cs, b, c⟩ := h.gb
  exact ⟨h.sb.other h.ne _, ⟨_, b.set _ _, cs_set c k j hk hj a x h1 h2⟩, h.ne, h.nn⟩
end
end Go.Proofs.Ytmelbbojanomiaa
