/- The texts Mtm Flo MeA MeD MeE of one layer, laid together. -/
import Derived.Test.YtfipiifickdeiaaGreatDoorRows
import Derived.Test.YtfipiifickdeiaaGreatDoorXa
import Derived.WalkKit
import Derived.Laws.FloatArith
import Derived.ProofKit
import Derived.OpenShut
import Derived.BigQuiet
import Derived.Laws.Externs
import Derived.Laws.Bits64
import Derived.WalkLawsBesides
import Derived.Laws.MakeOwn
import Derived.Shelf.RegionOpenPlain
namespace Go.Proofs.YtfipiifickdeiaaGreatDoor.Met
open Go.ChangeShapes Go.WideShapes Go.ChangeAt Go.RowKit
namespace Mt
/-- A core's account: its energy, its ticks of work, its ticks of each way to rest. -/
structure Ac where
  e : Int
  wk : Int
  r : Nat → Int
def sm8 (r : Nat → Int) : Int := r 0 + r 1 + r 2 + r 3 + r 4 + r 5 + r 6 + r 7
/-- All its ticks. -/
def tk (a : Ac) : Int := a.wk + sm8 a.r
/-- The program's ten cells. -/
def pcel (a : Ac) (j : Nat) : Int := if j = 0 then a.e else if j = 1 then tk a else a.r (j - 2)
def ups {β : Type} (F : Nat → β) (k : Nat) (x : β) : Nat → β := fun i => if i = k then x else F i
theorem ups_at {β : Type} (F : Nat → β) (k : Nat) (x : β) : ups F k x k = x := if_pos rfl
theorem ups_ne {β : Type} (F : Nat → β) (k i : Nat) (x : β) (h : i ≠ k) : ups F k x i = F i := if_neg h
def za : Ac := ⟨0, 0, fun _ => 0⟩
/-- Can it be a number of ticks, or power? -/
def okT (n : Int) : Bool := decide (0 ≤ n) && decide (n ≤ 2147483648)
/-- What is answered where ticks of some power come to an energy. -/
def adE (e t p : Int) : Int := if okT t && okT p then if 4611686018427387904 < e + t * p then 16 else 0 else 2
def rest (a : Ac) (m : Nat) (t p : Int) : Ac := ⟨a.e + t * p, a.wk, ups a.r m (a.r m + t)⟩
def inr (n : Nat) (c : Int) : Bool := decide (0 ≤ c) && decide (c < (n : Int))
def wkE (n : Nat) (F : Nat → Ac) (c t p : Int) : Int := if inr n c then adE (F c.toNat).e t p else 3
def rsE (n : Nat) (F : Nat → Ac) (c m t p : Int) : Int := if inr n c && inr 8 m then adE (F c.toNat).e t p else 3
/-- An account that can be, with at most B ticks. -/
structure Oka (a : Ac) (B : Int) : Prop where
  e0 : 0 ≤ a.e
  e1 : a.e ≤ 4611686018427387904
  w0 : 0 ≤ a.wk
  r0 : ∀ j, 0 ≤ a.r j
  tb : tk a ≤ B
theorem mul_ok {t p : Int} (h1 : okT t = true) (h2 : okT p = true) : 0 ≤ t ∧ t ≤ 2147483648 ∧ 0 ≤ t * p ∧ t * p ≤ 4611686018427387904 := by
  simp only [okT, Bool.and_eq_true, decide_eq_true_eq] at h1 h2
  refine ⟨h1.1, h1.2, Int.mul_nonneg h1.1 h2.1, ?_⟩
  have := Int.mul_le_mul h1.2 h2.2 h2.1 (by omega)
  omega
theorem sm8_up (r : Nat → Int) (m : Nat) (t : Int) (hm : m < 8) : sm8 (ups r m (r m + t)) = sm8 r + t := by
  have : m = 0 ∨ m = 1 ∨ m = 2 ∨ m = 3 ∨ m = 4 ∨ m = 5 ∨ m = 6 ∨ m = 7 := by omega
  rcases this with rfl | rfl | rfl | rfl | rfl | rfl | rfl | rfl <;> simp [sm8, ups] <;> omega
theorem adE_zero {e t p : Int} (h : adE e t p = 0) : okT t = true ∧ okT p = true ∧ e + t * p ≤ 4611686018427387904 := by
  unfold adE at h
  cases h1 : okT t <;> cases h2 : okT p <;> simp only [h1, h2, Bool.and_self, Bool.and_true, Bool.and_false, Bool.false_eq_true, if_true, if_false] at h <;> first | omega | skip
  split at h
  · omega
  · exact ⟨rfl, rfl, by omega⟩
theorem Oka.rest {a : Ac} {B t p : Int} {m : Nat} (h : Oka a B) (hm : m < 8) (e : adE a.e t p = 0) : Oka (rest a m t p) (B + 2147483648) := by
  obtain ⟨h1, h2, h3⟩ := adE_zero e
  obtain ⟨m1, m2, m3, m4⟩ := mul_ok h1 h2
  have := h.e0; have := h.e1; have := h.w0; have q := h.tb; have q0 := h.r0 m
  unfold tk at q
  refine ⟨?_, ?_, h.w0, fun j => ?_, ?_⟩
  · show 0 ≤ a.e + t * p; omega
  · show a.e + t * p ≤ _; omega
  · show 0 ≤ ups a.r m (a.r m + t) j
    unfold ups
    split
    · omega
    · exact h.r0 j
  · show a.wk + sm8 (ups a.r m (a.r m + t)) ≤ _
    rw [sm8_up _ _ _ hm]; omega
theorem Oka.mono {a : Ac} {B C : Int} (h : Oka a B) (l : B ≤ C) : Oka a C := ⟨h.e0, h.e1, h.w0, h.r0, Int.le_trans h.tb l⟩
def OkF (n : Nat) (F : Nat → Ac) (B : Int) : Prop := ∀ k, k < n → Oka (F k) B
theorem OkF.ups {n k : Nat} {F : Nat → Ac} {B C : Int} {a : Ac} (h : OkF n F B) (l : B ≤ C) (q : Oka a C) : OkF n (ups F k a) C := fun i hi => by
  unfold Mt.ups
  split
  · exact q
  · exact (h i hi).mono l
end Mt
open Mt
/-- A block's cells are accounts. -/
def Cs (L : Ac → Nat → Int) (cs : List Value) (n : Nat) (F : Nat → Ac) : Prop := cs.length = n * 10 ∧ ∀ k, k < n → ∀ j, j < 10 → cs[k * 10 + j]? = some (.int .i64 (L (F k) j))
theorem cs_set {L : Ac → Nat → Int} {cs : List Value} {n : Nat} {F : Nat → Ac} (h : Cs L cs n F) (k j : Nat) (hk : k < n) (hj : j < 10) (a : Ac) (x : Int) (h1 : L a j = x) (h2 : ∀ i, i < 10 → i ≠ j → L a i = L (F k) i) :
    Cs L (cs.set (k * 10 + j) (.int .i64 x)) n (ups F k a) := by
  refine ⟨by rw [List.length_set]; exact h.1, fun q hq i hi => ?_⟩
  rw [List.getElem?_set]
  by_cases e : q = k
  · subst e
    rw [ups_at]
    by_cases d : i = j
    · subst d
      rw [if_pos rfl, if_pos (by have := h.1; omega), h1]
    · rw [if_neg (by omega), h2 i hi d]
      exact h.2 q hq i hi
  · rw [if_neg (by omega), ups_ne _ _ _ _ e]
    exact h.2 q hq i hi
theorem cs_new (L : Ac → Nat → Int) (n : Nat) (h : ∀ j, L za j = 0) : Cs L (List.replicate (n * 10) (.int .i64 0)) n fun _ => za :=
  ⟨by simp, fun k hk j hj => by rw [h, List.getElem?_replicate, if_pos (by omega)]⟩
/-- A meter at block s, its accounts at block g. -/
structure MT (L : Ac → Nat → Int) (tm tc : TypeId) (w : World) (s g n : Nat) (F : Nat → Ac) : Prop where
  sb : Blk w s [.slice (some ⟨g, 0, none⟩) n n] tm
  gb : ∃ cs, Blk w g cs tc ∧ Cs L cs n F
  ne : s ≠ g
  nn : n ≤ 64
section
variable {L : Ac → Nat → Int} {tm tc : TypeId} {w w1 : World} {s g n : Nat} {F : Nat → Ac}
theorem MT.heap (h : MT L tm tc w s g n F) (e : w1.heap = w.heap) : MT L tm tc w1 s g n F := by
  obtain ⟨cs, a, b⟩ := h.gb
  exact ⟨h.sb.heap e, ⟨cs, a.heap e, b⟩, h.ne, h.nn⟩
theorem MT.slt (h : MT L tm tc w s g n F) : s < w.heap.size := h.sb.lt
theorem MT.glt (h : MT L tm tc w s g n F) : g < w.heap.size := by obtain ⟨cs, a, _⟩ := h.gb; exact a.lt
theorem MT.keep {B : Nat} {S : List Nat} (h : MT L tm tc w s g n F) (f : Fr B S w w1) (hb : s < B) (gb : g < B) (hs : s ∉ S) (gs : g ∉ S) : MT L tm tc w1 s g n F := by
  obtain ⟨cs, a, b⟩ := h.gb
  exact ⟨h.sb.keep f hb hs, ⟨cs, a.keep f gb gs, b⟩, h.ne, h.nn⟩
theorem MT.below (h : MT L tm tc w s g n F) (f : Below w.heap.size w w1) : MT L tm tc w1 s g n F := h.keep (Fr.of_below f) h.slt h.glt (by simp) (by simp)
theorem MT.cell (h : MT L tm tc w s g n F) {k : Nat} (hk : k < n) (j : Nat) (hj : j < 10) : w.cell? ⟨g, k * 10 + j, none⟩ = some (.int .i64 (L (F k) j)) := by
  obtain ⟨cs, a, b⟩ := h.gb
  rw [a.cell]
  exact b.2 k hk j hj
theorem MT.free (h : MT L tm tc w s g n F) (i : Nat) : w.frozen? ⟨g, i, none⟩ = false := by
  obtain ⟨cs, a, _⟩ := h.gb
  exact a.free i
theorem MT.set (h : MT L tm tc w s g n F) {k : Nat} (hk : k < n) (j : Nat) (hj : j < 10) (a : Ac) (x : Int) (h1 : L a j = x) (h2 : ∀ i, i < 10 → i ≠ j → L a i = L (F k) i) : MT L tm tc (w.setCell ⟨g, k * 10 + j, none⟩ (.int .i64 x)) s g n (ups F k a) := by
  obtain ⟨cs, b, c⟩ := h.gb
  exact ⟨h.sb.other h.ne _, ⟨_, b.set _ _, cs_set c k j hk hj a x h1 h2⟩, h.ne, h.nn⟩
end
end Go.Proofs.YtfipiifickdeiaaGreatDoor.Met
namespace Go.Proofs.YtfipiifickdeiaaGreatDoor.Flo
open Met
/-- What a word is without its sign. -/
def rg (x : Nat) : Nat := x % 9223372036854775808
/-- Whether it has a sign. -/
def ng (x : Nat) : Bool := decide (9223372036854775808 ≤ x)
/-- Whether it is no number. -/
def isN (x : Nat) : Bool := decide (9218868437227405312 < rg x)
/-- A number by which floats stand in order. -/
def ky (x : Nat) : Nat := if isN x then 18446744073709551615 else if ng x then 18446744073709551615 - x else x + 9223372036854775808
/-- The word without its sign, with the sign put ahead. -/
def sr (x : Nat) : Int := if ng x then -(rg x : Int) else (rg x : Int)
def mg (r : Nat) : Nat := if r < 4503599627370496 then r else (4503599627370496 + r % 4503599627370496) * 2 ^ (r / 4503599627370496 - 1)
theorem mg_lt {r s : Nat} (h : r < s) : mg r < mg s := by
  unfold mg
  by_cases h1 : r < 4503599627370496
  · rw [if_pos h1]
    by_cases h2 : s < 4503599627370496
    · rw [if_pos h2]; exact h
    · rw [if_neg h2]
      have p : 1 ≤ 2 ^ (s / 4503599627370496 - 1) := Nat.one_le_two_pow
      have := Nat.mul_le_mul_left (4503599627370496 + s % 4503599627370496) p
      omega
  · have h2 : ¬ s < 4503599627370496 := by omega
    rw [if_neg h1, if_neg h2]
    by_cases e : r / 4503599627370496 = s / 4503599627370496
    · rw [e]
      exact Nat.mul_lt_mul_of_pos_right (by omega) (Nat.two_pow_pos _)
    · have l : r / 4503599627370496 < s / 4503599627370496 := by omega
      have hr : 1 ≤ r / 4503599627370496 := by omega
      generalize r / 4503599627370496 = q at *
      generalize s / 4503599627370496 = q' at *
      have a : (4503599627370496 + r % 4503599627370496) * 2 ^ (q - 1) < 9007199254740992 * 2 ^ (q - 1) := Nat.mul_lt_mul_of_pos_right (by omega) (Nat.two_pow_pos _)
      have b : 9007199254740992 * 2 ^ (q - 1) = 4503599627370496 * 2 ^ q := by
        obtain ⟨k, rfl⟩ : ∃ k, q = k + 1 := ⟨q - 1, by omega⟩
        rw [Nat.add_sub_cancel, Nat.pow_succ]
        omega
      have c : 2 ^ q ≤ 2 ^ (q' - 1) := Nat.pow_le_pow_right (by omega) (by omega)
      have d := Nat.mul_le_mul (show 4503599627370496 ≤ 4503599627370496 + s % 4503599627370496 by omega) c
      omega
theorem mg_iff (r s : Nat) : mg r < mg s ↔ r < s := by
  constructor
  · intro h
    rcases Nat.lt_trichotomy r s with h1 | h1 | h1
    · exact h1
    · rw [h1] at h; omega
    · have := mg_lt h1; omega
  · exact mg_lt
theorem mg_zero : mg 0 = 0 := rfl
theorem mg_pos (r : Nat) : 0 < mg r ↔ 0 < r := by have := mg_iff 0 r; rwa [mg_zero] at this
theorem cmp_congr {a b c d : Int} (h1 : a < b ↔ c < d) (h2 : b < a ↔ d < c) : compare a b = compare c d := by
  simp only [compare, compareOfLessAndEq]
  by_cases h : a < b
  · rw [if_pos h, if_pos (h1.1 h)]
  · rw [if_neg h, if_neg (fun e => h (h1.2 e))]
    by_cases k : b < a
    · rw [if_neg (by omega), if_neg (by have := h2.1 k; omega)]
    · have : ¬ d < c := fun e => k (h2.2 e)
      have : ¬ c < d := fun e => h (h1.2 e)
      rw [if_pos (by omega), if_pos (by omega)]
def sg (s : Bool) (n : Nat) : Int := if s then -(n : Int) else (n : Int)
theorem signed_is (s : Bool) (m u : Nat) : Ieee.signed s m u = sg s (m * 2 ^ u) := by
  unfold Ieee.signed sg
  rw [Nat.shiftLeft_eq]
theorem sg_lt (s t : Bool) (m n c : Nat) (hc : 0 < c) : sg s m < sg t n ↔ sg s (m * c) < sg t (n * c) := by
  have e1 := Nat.mul_lt_mul_right (a := c) (b := m) (c := n) hc
  have e2 := Nat.mul_lt_mul_right (a := c) (b := n) (c := m) hc
  have z1 : m * c = 0 ↔ m = 0 := ⟨fun h => by rcases Nat.mul_eq_zero.1 h with h | h <;> omega, fun h => by rw [h, Nat.zero_mul]⟩
  have z2 : n * c = 0 ↔ n = 0 := ⟨fun h => by rcases Nat.mul_eq_zero.1 h with h | h <;> omega, fun h => by rw [h, Nat.zero_mul]⟩
  generalize m * c = M at *
  generalize n * c = N at *
  cases s <;> cases t <;> simp only [sg, if_true, if_false, Bool.false_eq_true] <;> omega
theorem num_order (s t : Bool) (m n a b : Nat) (L : Int) :
    Ieee.Datum.order (.number s m (L + a)) (.number t n (L + b)) = some (compare (sg s (m * 2 ^ a)) (sg t (n * 2 ^ b))) := by
  simp only [Ieee.Datum.order, signed_is, Option.some.injEq]
  rcases Nat.le_total a b with h | h
  · obtain ⟨d, rfl⟩ : ∃ d, b = a + d := ⟨b - a, by omega⟩
    rw [show min (L + (a : Int)) (L + ((a + d : Nat) : Int)) = L + a by omega, show (L + (a : Int) - (L + a)).toNat = 0 by omega, show (L + ((a + d : Nat) : Int) - (L + a)).toNat = d by omega, Nat.pow_add, Nat.pow_zero, Nat.mul_one, show n * (2 ^ a * 2 ^ d) = n * 2 ^ d * 2 ^ a by rw [Nat.mul_comm (2 ^ a), Nat.mul_assoc]]
    exact cmp_congr (sg_lt s t _ _ _ (Nat.two_pow_pos _)) (sg_lt t s _ _ _ (Nat.two_pow_pos _))
  · obtain ⟨d, rfl⟩ : ∃ d, a = b + d := ⟨a - b, by omega⟩
    rw [show min (L + ((b + d : Nat) : Int)) (L + (b : Int)) = L + b by omega, show (L + (b : Int) - (L + b)).toNat = 0 by omega, show (L + ((b + d : Nat) : Int) - (L + b)).toNat = d by omega, Nat.pow_add, Nat.pow_zero, Nat.mul_one, show m * (2 ^ b * 2 ^ d) = m * 2 ^ d * 2 ^ b by rw [Nat.mul_comm (2 ^ b), Nat.mul_assoc]]
    exact cmp_congr (sg_lt s t _ _ _ (Nat.two_pow_pos _)) (sg_lt t s _ _ _ (Nat.two_pow_pos _))
theorem sg_mg (s t : Bool) (r q : Nat) : compare (sg s (mg r)) (sg t (mg q)) = compare (sg s r) (sg t q) := by
  have e1 := mg_iff r q
  have e2 := mg_iff q r
  have e3 := mg_pos r
  have e4 := mg_pos q
  apply cmp_congr <;> cases s <;> cases t <;> simp only [sg, if_true, if_false, Bool.false_eq_true] <;> omega
theorem w_sign : Ieee.double.signWeight = 9223372036854775808 := by decide +kernel
theorem w_bin : Ieee.double.binade = 4503599627370496 := by decide +kernel
theorem w_inf : Ieee.double.infRung = 9218868437227405312 := by decide +kernel
/-- What a word stands for. -/
theorem read_is (x : Nat) (hx : x < 18446744073709551616) :
    (isN x = false ∧ rg x < 9218868437227405312 ∧ ∃ m a, Ieee.double.read x = .number (ng x) m (Ieee.double.leastPlace + (a : Nat)) ∧ m * 2 ^ a = mg (rg x)) ∨
    (isN x = false ∧ rg x = 9218868437227405312 ∧ Ieee.double.read x = .infinity (ng x)) ∨ (isN x = true ∧ ∃ f, Ieee.double.read x = .nan (ng x) f) := by
  have hn : (x / 9223372036854775808 % 2 == 1) = ng x := by
    unfold ng
    by_cases h : 9223372036854775808 ≤ x
    · rw [decide_eq_true h, beq_iff_eq]; omega
    · rw [decide_eq_false h, beq_eq_false_iff_ne]; omega
  unfold Ieee.Format.read
  simp only [w_sign, w_bin, w_inf, hn, show x % 9223372036854775808 = rg x from rfl]
  unfold isN
  generalize rg x = r
  by_cases h1 : r < 4503599627370496
  · refine Or.inl ⟨decide_eq_false (by omega), by omega, r, 0, ?_, ?_⟩
    · rw [if_pos h1]; simp
    · unfold mg; rw [if_pos h1]; simp
  · rw [if_neg h1]
    by_cases h2 : r < 9218868437227405312
    · refine Or.inl ⟨decide_eq_false (by omega), h2, _, _, by rw [if_pos h2], ?_⟩
      unfold mg
      rw [if_neg h1]
    · rw [if_neg h2]
      by_cases h3 : r = 9218868437227405312
      · exact Or.inr (Or.inl ⟨decide_eq_false (by omega), h3, by rw [if_pos h3]⟩)
      · exact Or.inr (Or.inr ⟨decide_eq_true (by omega), _, by rw [if_neg h3]⟩)
theorem sr_sg (x : Nat) : sr x = sg (ng x) (rg x) := rfl
/-- How two words compare. -/
theorem order_is (x y : Nat) (hx : x < 18446744073709551616) (hy : y < 18446744073709551616) :
    Ieee.double.order x y = if isN x || isN y then none else some (compare (sr x) (sr y)) := by
  unfold Ieee.Format.order
  rw [sr_sg, sr_sg]
  rcases read_is x hx with ⟨n1, l1, m, a, e1, v1⟩ | ⟨n1, l1, e1⟩ | ⟨n1, f, e1⟩ <;> rcases read_is y hy with ⟨n2, l2, m2, a2, e2, v2⟩ | ⟨n2, l2, e2⟩ | ⟨n2, f2, e2⟩ <;> rw [e1, e2, n1, n2]
  · rw [num_order, v1, v2, sg_mg]; rfl
  · simp only [Ieee.Datum.order, Bool.or_self, Bool.false_eq_true, if_false, Option.some.injEq]
    rw [l2]
    cases ng x <;> cases ng y <;> simp only [sg, if_true, if_false, Bool.false_eq_true, compare, compareOfLessAndEq] <;> first | rw [if_pos (by omega)] | rw [if_neg (by omega), if_neg (by omega)]
  · rfl
  · simp only [Ieee.Datum.order, Bool.or_self, Bool.false_eq_true, if_false, Option.some.injEq]
    rw [l1]
    cases ng x <;> cases ng y <;> simp only [sg, if_true, if_false, Bool.false_eq_true, compare, compareOfLessAndEq] <;> first | rw [if_pos (by omega)] | rw [if_neg (by omega), if_neg (by omega)]
  · simp only [Ieee.Datum.order, Bool.or_self, Bool.false_eq_true, if_false, Option.some.injEq]
    rw [l1, l2]
    cases ng x <;> cases ng y <;> decide +kernel
  · rfl
  · rfl
  · rfl
  · rfl
theorem gt_is (x y : Nat) (hx : x < 18446744073709551616) (hy : y < 18446744073709551616) (h1 : isN x = false) (h2 : isN y = false) : (Ieee.double.order x y == some .gt) = decide (sr y < sr x) := by
  rw [order_is x y hx hy, h1, h2]
  simp only [Bool.or_self, Bool.false_eq_true, if_false, compare, compareOfLessAndEq]
  by_cases h : sr x < sr y
  · rw [if_pos h]; simp; omega
  · rw [if_neg h]; split <;> simp <;> omega
/-- A whole number as a float. -/
def ni (n : Int) : Nat := floatOfInt .f64 n
/-- Where a quotient stands in order. -/
def rt (a b : Int) : Nat := match Ieee.double.div (ni a) (ni b) with
  | some r => ky r
  | none => 18446744073709551615
/-- What is drawn where there is no number. -/
def nb (w : World) (x y : Nat) : Nat := (Question.nanBits .f64 x y).cut (w.tape w.drawn (.nanBits .f64 x y))
end Go.Proofs.YtfipiifickdeiaaGreatDoor.Flo
namespace Go.Proofs.YtfipiifickdeiaaGreatDoor.Met
open Go.ChangeShapes Go.WideShapes Go.ChangeAt Go.RowKit
open Flo
end Go.Proofs.YtfipiifickdeiaaGreatDoor.Met
namespace Go.Proofs.YtfipiifickdeiaaGreatDoor.Met
open Go.ChangeShapes Go.WideShapes Go.ChangeAt Go.RowKit
open Mt Flo
/-- The program's meter. -/
def PM : World → Nat → Nat → Nat → (Nat → Ac) → Prop := MT pcel 174 344
theorem Tryz.infoAc : (Tryz.prog.info? 344).map (fun i => (i.zero, i.size, i.bytes)) = some (some (.agg (List.replicate 10 (.int .i64 0)).toArray), 10, 80) := by kernel_rfl
theorem made_ten (n : Nat) : madeCells (Value.agg (List.replicate 10 (.int .i64 0)).toArray).cells n = (List.replicate n (.int .i64 0)).toArray := by
  have hz : (Value.agg (List.replicate 10 (Value.int .i64 0)).toArray).cells = (List.replicate 10 (.int .i64 0)).toArray := rfl
  rw [hz]
  apply Array.ext
  · simp [size_madeCells]
  · intro i h1 h2
    have hm : i % 10 < 10 := Nat.mod_lt _ (by omega)
    simp only [madeCells, Array.getElem_map, Array.getElem_range, List.getElem_toArray, List.getElem_replicate, List.size_toArray, List.length_replicate]
    rw [getElem!_pos _ _ (by simpa using hm)]
    simp only [List.getElem_toArray, List.getElem_replicate]
set_option maxRecDepth 100000 in
theorem mtnew_any (n : Nat) (w : World) (h1 : (1 : Int) ≤ n) (h2 : (n : Int) ≤ 64) :
    Calls Tryz.prog 30 #[.int .i64 (n : Int)] w fun e w' => e = .returned (.tuple #[.pointer (some ⟨w.heap.size + 1, 0, none⟩), .int .i64 0]) ∧ PM w' (w.heap.size + 1) w.heap.size n (fun _ => za) ∧ Below w.heap.size w w' := by
  obtain ⟨i0, hi, hz0, hz1, hz2⟩ := info_parts Tryz.infoAc
  have hm := run_make (P := Tryz.prog) w 172 344 i0 _ Tryz.underlying172 hi hz0 .i64 .i64 n n (by omega) (by omega) (by rw [hz2]; omega) (by omega)
  rw [hz1, made_ten, Int.toNat_natCast] at hm
  have hj : Hid (Cs pcel (List.replicate (n * 10) (.int .i64 0)) n fun _ => za) := cs_new pcel n (fun j => by unfold pcel; repeat' split
                                                                                                              all_goals rfl)
  have F : Hid (∀ o1 o2, Below w.heap.size w ((w.alloc o1).alloc o2)) := fun o1 o2 => ((Below.refl _ _).alloc (Nat.le_refl _) o1).alloc (by simp) o2
  generalize List.replicate (n * 10) (Value.int .i64 0) = Z at *
  clear hi hz0 hz1 hz2
  go_enter Tryz.func30, Tryz.ntmps30
  go_wp2
  go_ret2
  refine ⟨rfl, ⟨?_, ⟨Z, (Blk.new w Z 344).alloc _, hj.out⟩, by omega, by omega⟩, F.out _ _⟩
  have := Blk.new (w.alloc (.cells Z.toArray 344)) [.slice (some ⟨w.heap.size, 0, none⟩) n n] 174
  simpa using this
end Go.Proofs.YtfipiifickdeiaaGreatDoor.Met
namespace Go.Proofs.YtfipiifickdeiaaGreatDoor.Met
open Go.ChangeShapes Go.WideShapes Go.ChangeAt Go.RowKit
open Mt Flo
end Go.Proofs.YtfipiifickdeiaaGreatDoor.Met
