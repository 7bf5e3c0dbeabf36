/- The texts Wm Wb Wc Wd We Wf Wg Wh Wi Wj Wk Wl Wn Wo Wp Wr Zm Za Zb Zc Zd Ze Zf Zg of one layer, laid together. -/
import Derived.Test.YtfdmcbcomknebaaGreatDoorRows
import Derived.Test.YtfdmcbcomknebaaGreatDoorXs
import Derived.Test.YtfdmcbcomknebaaGreatDoorXl
import Derived.Lib.BitFns
import Derived.Lib.AppendZerosOnto
import Derived.Lib.Overlaps
import Derived.Laws.CopyRow
import Derived.WalkKit
import Derived.ProofKit
import Derived.OpenShut
import Derived.BigQuiet
import Derived.Deep.RegionLaw
import Derived.Laws.Externs
import Derived.Lib.JoinLaws
import Derived.ArgAppend
import Derived.Deep.RegionHeld3
import Derived.Maps.OwnSet
import Derived.Lib.Zigzag
import Derived.WalkSpells
import Derived.Lib.SliceRun
import Derived.WalkMore
namespace Go.Proofs.YtfdmcbcomknebaaGreatDoor.Wm
open Slt
/-- How high two ticks part. -/
def lv (a b : Nat) : Nat := (Lib.bitLen (a ^^^ b) - 1) / 3
theorem bl_lt : ∀ (k x : Nat), x < 2 ^ k → k ≤ 64 → Lib.bitLen x ≤ k
  | 0, x, h, _ => by
    obtain rfl : x = 0 := by omega
    exact Nat.le_refl _
  | k + 1, x, h, hk => by
    by_cases e : x = 0
    · subst e
      exact Nat.zero_le _
    · have h64 : x < 2 ^ 64 := Nat.lt_of_lt_of_le h (Nat.pow_le_pow_right (by decide) hk)
      rw [Lib.bitLen_half x e h64]
      have := bl_lt k (x / 2) (by rw [Nat.pow_succ] at h; omega) (by omega)
      omega
theorem bl_ge (k x : Nat) (h : 2 ^ k ≤ x) (hx : x < 2 ^ 64) : k + 1 ≤ Lib.bitLen x := by
  have e0 : x / 2 ^ k ≠ 0 := by
    have := Nat.div_pos h (Nat.two_pow_pos k)
    omega
  have l0 : x / 2 ^ k < 2 ^ 64 := Nat.lt_of_le_of_lt (Nat.div_le_self _ _) hx
  rw [Lib.bitLen_shift k x h hx, Lib.bitLen_half _ e0 l0]
  omega
theorem p8 (k : Nat) : 8 ^ k = 2 ^ (3 * k) := by rw [Nat.pow_mul]
theorem same8 (a b k : Nat) : a / 8 ^ k = b / 8 ^ k ↔ (a ^^^ b) < 8 ^ k := by
  rw [p8]
  have e := @Nat.xor_div_two_pow a b (3 * k)
  constructor
  · intro h
    rw [h, Nat.xor_self] at e
    have := (Nat.div_eq_zero_iff).1 e
    rcases this with h | h
    · have := Nat.two_pow_pos (3 * k)
      omega
    · exact h
  · intro h
    rw [Nat.div_eq_of_lt h] at e
    have e2 := congrArg (fun z => z ^^^ (b / 2 ^ (3 * k))) e
    simp only [Nat.zero_xor, Nat.xor_assoc, Nat.xor_self, Nat.xor_zero] at e2
    exact e2.symm
/-- Ticks are below 2^61. -/
def tk (a : Nat) : Prop := a ≤ 1152921504606846976
theorem xor_small {a b : Nat} (ha : tk a) (hb : tk b) : a ^^^ b < 2 ^ 61 := Nat.xor_lt_two_pow (by unfold tk at ha; omega) (by unfold tk at hb; omega)
theorem lv_hi {a b : Nat} (ha : tk a) (hb : tk b) : a / 8 ^ (lv a b + 1) = b / 8 ^ (lv a b + 1) := by
  rw [same8, p8]
  have hx := xor_small ha hb
  unfold lv
  refine Nat.not_le.1 fun h => ?_
  have := bl_ge _ _ h (Nat.lt_trans hx (by decide))
  omega
theorem lv_lo {a b : Nat} (ha : tk a) (hb : tk b) (h : lv a b ≠ 0) : a / 8 ^ lv a b ≠ b / 8 ^ lv a b := by
  rw [Ne, same8, p8]
  have hx := xor_small ha hb
  intro h2
  have l : 3 * lv a b ≤ 64 := by
    have := bl_lt 61 _ hx (by decide)
    unfold lv
    omega
  have := bl_lt _ _ h2 l
  unfold lv at *
  omega
theorem lv_le {a b : Nat} (ha : tk a) (hb : tk b) : lv a b ≤ 20 := by
  have := bl_lt 61 _ (xor_small ha hb) (by decide)
  unfold lv
  omega
theorem up8 {a b : Nat} {k m : Nat} (h : a / 8 ^ k = b / 8 ^ k) (hk : k ≤ m) : a / 8 ^ m = b / 8 ^ m := by
  obtain ⟨d, rfl⟩ := Nat.exists_eq_add_of_le hk
  rw [Nat.pow_add, ← Nat.div_div_eq_div_mul, ← Nat.div_div_eq_div_mul, h]
theorem div8 (a k : Nat) : a / 8 ^ k / 8 = a / 8 ^ (k + 1) := by rw [Nat.div_div_eq_div_mul, Nat.pow_succ]
/-- The room of a tick, as the wheel's tick is: 0 is what is due. -/
def rn (a d : Nat) : Nat := if d ≤ a then 0 else 1 + 8 * lv a d + d / 8 ^ lv a d % 8
theorem rn_lt {a d : Nat} (ha : tk a) (hd : tk d) : rn a d < 169 := by
  unfold rn
  split
  · omega
  · have := lv_le ha hd
    have := Nat.mod_lt (d / 8 ^ lv a d) (show 0 < 8 by decide)
    omega
theorem rn_due (a d : Nat) (h : d ≤ a) : rn a d = 0 := if_pos h
theorem rn_not (a d : Nat) (h : a < d) : rn a d = 1 + 8 * lv a d + d / 8 ^ lv a d % 8 := if_neg (by omega)
theorem rn_mono {a d e : Nat} (ha : tk a) (hd : tk d) (he : tk e) (h : d ≤ e) : rn a d ≤ rn a e := by
  by_cases c : d ≤ a
  · rw [rn_due a d c]
    exact Nat.zero_le _
  rw [rn_not a d (by omega), rn_not a e (by omega)]
  have dd : ∀ k, d / 8 ^ k ≤ e / 8 ^ k := fun k => Nat.div_le_div_right h
  have ad : ∀ k, a / 8 ^ k ≤ d / 8 ^ k := fun k => Nat.div_le_div_right (by omega)
  have l1 := lv_hi ha hd
  have l2 := lv_hi ha he
  have m1 := Nat.mod_lt (d / 8 ^ lv a d) (show 0 < 8 by decide)
  rcases Nat.lt_trichotomy (lv a d) (lv a e) with q | q | q
  · omega
  · rw [← q] at l2 ⊢
    have := dd (lv a d)
    rw [← div8 a, ← div8 d] at l1
    rw [← div8 a, ← div8 e] at l2
    omega
  · have x := up8 l2 (show lv a e + 1 ≤ lv a d by omega)
    have y := lv_lo ha hd (by omega)
    have := dd (lv a d)
    have := ad (lv a d)
    omega
/- Things in order. -/
/-- A thing: its tick, its number. -/
abbrev It := Int × Int
def lt (x y : It) : Prop := x.1 < y.1 ∨ (x.1 = y.1 ∧ x.2 < y.2)
instance (x y : It) : Decidable (lt x y) := by unfold lt; infer_instance
def Srt (L : List It) : Prop := L.Pairwise lt
theorem lt_trans {x y z : It} (h : lt x y) (k : lt y z) : lt x z := by unfold lt at *; omega
theorem lt_irrefl (x : It) : ¬ lt x x := by unfold lt; omega
/-- How many come ahead of x. -/
def at_ (L : List It) (x : It) : Nat := (L.filter fun y => decide (lt y x)).length
/-- x put in; things that are not x. -/
def ins (x : It) (L : List It) : List It := L.filter (fun y => decide (lt y x)) ++ x :: L.filter (fun y => decide (lt x y))
def rid (i : Int) (L : List It) : List It := L.filter fun y => decide (y.2 ≠ i)
theorem filter_split : ∀ {L : List It} (_ : Srt L) (x : It), L = L.filter (fun y => decide (lt y x)) ++ L.filter (fun y => !decide (lt y x))
  | [], _, _ => rfl
  | y :: L, h, x => by
    have h' := List.pairwise_cons.1 h
    by_cases e : lt y x
    · rw [List.filter_cons_of_pos (by simpa using e), List.filter_cons_of_neg (by simpa using e), List.cons_append, ← filter_split h'.2 x]
    · rw [List.filter_cons_of_neg (by simpa using e), List.filter_cons_of_pos (by simpa using e)]
      have e1 : L.filter (fun y => decide (lt y x)) = [] := List.filter_eq_nil_iff.2 fun z hz g => e (lt_trans (h'.1 z hz) (by simpa using g))
      have e2 : L.filter (fun y => !decide (lt y x)) = L := List.filter_eq_self.2 fun z hz => by simp; exact fun g => e (lt_trans (h'.1 z hz) g)
      rw [e1, e2]
      rfl
theorem take_at {L : List It} (h : Srt L) (x : It) : L.take (at_ L x) = L.filter fun y => decide (lt y x) := by
  have e := congrArg (List.take (at_ L x)) (filter_split h x)
  rw [e]
  exact List.take_left' rfl
theorem drop_at {L : List It} (h : Srt L) (x : It) : L.drop (at_ L x) = L.filter fun y => !decide (lt y x) := by
  have e := congrArg (List.drop (at_ L x)) (filter_split h x)
  rw [e]
  exact List.drop_left' rfl
theorem at_le (L : List It) (x : It) : at_ L x ≤ L.length := List.length_filter_le _ _
theorem srt_filter {L : List It} (h : Srt L) (p : It → Bool) : Srt (L.filter p) := List.Pairwise.filter p h
/-- The thing at its place. -/
theorem at_get {L : List It} (h : Srt L) {x : It} (hx : x ∈ L) : L = L.take (at_ L x) ++ x :: L.drop (at_ L x + 1) := by
  have e := filter_split h x
  have hm : x ∈ L.filter (fun y => !decide (lt y x)) := List.mem_filter.2 ⟨hx, by simpa using lt_irrefl x⟩
  have hs := srt_filter h (fun y => !decide (lt y x))
  rw [← List.drop_drop, take_at h, drop_at h]
  cases q : L.filter (fun y => !decide (lt y x)) with
  | nil => rw [q] at hm; cases hm
  | cons z M =>
    rw [q] at hm hs e
    have hz : ¬ lt z x := by
      have : z ∈ L.filter (fun y => !decide (lt y x)) := by rw [q]; exact List.mem_cons_self
      simpa using (List.mem_filter.1 this).2
    obtain rfl : x = z := by
      rcases List.mem_cons.1 hm with g | g
      · exact g
      · exact absurd ((List.pairwise_cons.1 hs).1 x g) hz
    simpa using e
theorem at_lt {L : List It} (h : Srt L) {x : It} (hx : x ∈ L) : at_ L x < L.length := by
  have e := congrArg List.length (at_get h hx)
  rw [List.length_append, List.length_cons, List.length_take, List.length_drop] at e
  have := at_le L x
  omega
/-- Numbers are each once. -/
def Uni (L : List It) : Prop := L.Pairwise fun x y => x.2 ≠ y.2
theorem uni_filter {L : List It} (h : Uni L) (p : It → Bool) : Uni (L.filter p) := List.Pairwise.filter p h
theorem rid_is {L : List It} (h : Srt L) (u : Uni L) {x : It} (hx : x ∈ L) : rid x.2 L = L.take (at_ L x) ++ L.drop (at_ L x + 1) := by
  have e := at_get h hx
  have u2 := u
  rw [e] at u2
  unfold Uni at u2
  rw [List.pairwise_append, List.pairwise_cons] at u2
  have f := congrArg (rid x.2) e
  rw [f]
  unfold rid
  rw [List.filter_append, List.filter_cons_of_neg (by simp)]
  congr 1
  · exact List.filter_eq_self.2 fun z hz => by simpa using u2.2.2 z hz x List.mem_cons_self
  · exact List.filter_eq_self.2 fun z hz => by simpa using fun g => u2.2.1.1 z hz g.symm
theorem rid_none {L : List It} {i : Int} (h : ∀ x ∈ L, x.2 ≠ i) : rid i L = L := List.filter_eq_self.2 fun z hz => by simpa using h z hz
theorem srt_rid {L : List It} (h : Srt L) (i : Int) : Srt (rid i L) := srt_filter h _
theorem uni_rid {L : List It} (h : Uni L) (i : Int) : Uni (rid i L) := uni_filter h _
theorem mem_rid {L : List It} {i : Int} {x : It} : x ∈ rid i L ↔ x ∈ L ∧ x.2 ≠ i := by
  unfold rid
  rw [List.mem_filter]
  simp
theorem rid_len {L : List It} (h : Srt L) (u : Uni L) {x : It} (hx : x ∈ L) : (rid x.2 L).length + 1 = L.length := by
  have l := at_lt h hx
  rw [rid_is h u hx, List.length_append, List.length_take, List.length_drop]
  omega
/-- The tick of a number. -/
def wn (L : List It) (i : Int) : Option Int := (L.find? fun y => decide (y.2 = i)).map (·.1)
theorem wn_none {L : List It} {i : Int} : wn L i = none ↔ ∀ x ∈ L, x.2 ≠ i := by
  unfold wn
  rw [Option.map_eq_none_iff, List.find?_eq_none]
  simp
theorem wn_mem {L : List It} {i d : Int} (h : wn L i = some d) : (d, i) ∈ L := by
  unfold wn at h
  cases e : L.find? fun y => decide (y.2 = i) with
  | none => rw [e] at h; cases h
  | some y =>
    rw [e] at h
    have h1 := List.mem_of_find?_eq_some e
    have h2 : y.2 = i := by simpa using List.find?_some e
    simp at h
    rw [← h, ← h2]
    exact h1
/- Rooms. -/
/-- The things of a room. -/
def rl (f : It → Nat) (L : List It) (r : Nat) : List It := L.filter fun x => decide (f x = r)
/-- The room of a thing, as the wheel's tick is. -/
def rm (now : Int) (x : It) : Nat := rn now.toNat x.1.toNat
/-- Ticks that may be. -/
def Tks (L : List It) : Prop := ∀ x ∈ L, 0 ≤ x.1 ∧ x.1 ≤ 1152921504606846976
theorem cat_rooms (f : It → Nat) : ∀ (N : Nat) (L : List It), L.Pairwise (fun x y => f x ≤ f y) → (List.range N).flatMap (rl f L) = L.filter fun x => decide (f x < N)
  | 0, L, _ => by simp
  | N + 1, L, h => by
    rw [List.range_succ, List.flatMap_append, cat_rooms f N L h]
    simp only [List.flatMap_cons, List.flatMap_nil, List.append_nil]
    induction L with
    | nil => rfl
    | cons y L ih =>
      have h' := List.pairwise_cons.1 h
      have ih' := ih h'.2
      unfold rl at *
      by_cases c : f y < N
      · rw [List.filter_cons_of_pos (by simpa using c), List.filter_cons_of_neg (by simp; omega), List.filter_cons_of_pos (by simp; omega), List.cons_append, ih']
      · have e0 : L.filter (fun x => decide (f x < N)) = [] := List.filter_eq_nil_iff.2 fun z hz => by have := h'.1 z hz; simp; omega
        rw [e0, List.nil_append] at ih'
        rw [List.filter_cons_of_neg (by simpa using c), e0, List.nil_append]
        by_cases c2 : f y = N
        · rw [List.filter_cons_of_pos (by simpa using c2), List.filter_cons_of_pos (by simp; omega), ih']
        · rw [List.filter_cons_of_neg (by simpa using c2), List.filter_cons_of_neg (by simp; omega), ih']
theorem mono_rm {now : Int} {L : List It} (h : Srt L) (t : Tks L) (h1 : 0 ≤ now) (h2 : now ≤ 1152921504606846976) : L.Pairwise fun x y => rm now x ≤ rm now y := by
  refine List.Pairwise.imp_of_mem ?_ h
  intro x y hx hy l
  have a := t x hx
  have b := t y hy
  unfold rm
  refine rn_mono (by unfold tk; omega) (by unfold tk; omega) (by unfold tk; omega) ?_
  unfold lt at l
  omega
theorem rm_lt {now : Int} {x : It} (h1 : 0 ≤ now) (h2 : now ≤ 1152921504606846976) (t : 0 ≤ x.1 ∧ x.1 ≤ 1152921504606846976) : rm now x < 169 := by
  unfold rm
  exact rn_lt (by unfold tk; omega) (by unfold tk; omega)
theorem cat_all {now : Int} {L : List It} (h : Srt L) (t : Tks L) (h1 : 0 ≤ now) (h2 : now ≤ 1152921504606846976) : (List.range 169).flatMap (rl (rm now) L) = L := by
  rw [cat_rooms _ _ _ (mono_rm h t h1 h2)]
  exact List.filter_eq_self.2 fun x hx => by simpa using rm_lt h1 h2 (t x hx)
theorem rl_len (f : It → Nat) (L : List It) (r : Nat) : (rl f L r).length ≤ L.length := List.length_filter_le _ _
end Go.Proofs.YtfdmcbcomknebaaGreatDoor.Wm
namespace Go.Proofs.YtfdmcbcomknebaaGreatDoor.Tim
open Slt
open Go.ChangeShapes Go.WideShapes Go.ChangeAt Go.RowKit
open Wm
def cel (x : It) : List Value := [.int .i64 x.2, .int .i64 x.1]
def cls (L : List It) : List Value := L.flatMap cel
theorem cls_cons (x : It) (L : List It) : cls (x :: L) = .int .i64 x.2 :: .int .i64 x.1 :: cls L := rfl
theorem cls_len (L : List It) : (cls L).length = L.length * 2 := by
  induction L with
  | nil => rfl
  | cons x L ih => rw [cls_cons, List.length_cons, List.length_cons, List.length_cons, ih]; omega
theorem cls_get : ∀ (L : List It) (i : Nat) (x : It), L[i]? = some x → (cls L)[i * 2]? = some (.int .i64 x.2) ∧ (cls L)[i * 2 + 1]? = some (.int .i64 x.1)
  | [], i, x, h => by simp at h
  | y :: L, 0, x, h => by
    simp at h
    subst h
    exact ⟨rfl, rfl⟩
  | y :: L, i + 1, x, h => by
    have := cls_get L i x (by simpa using h)
    rw [cls_cons, show (i + 1) * 2 = i * 2 + 1 + 1 by omega]
    simpa using this
theorem cls_drop : ∀ (L : List It) (k : Nat), (cls L).drop (k * 2) = cls (L.drop k)
  | [], k => by simp [cls]
  | y :: L, 0 => by simp
  | y :: L, k + 1 => by
    rw [cls_cons, show (k + 1) * 2 = k * 2 + 1 + 1 by omega, List.drop_succ_cons, List.drop_succ_cons, List.drop_succ_cons, cls_drop L k]
/-- v is a slice of one's own that holds L. -/
def Own (t : TypeId) (w : World) (v : Value) (L : List It) : Prop := w.ownsRow 0 t 2 v L.length (cls L)
theorem own_nil (t : TypeId) (w : World) : Own t w (.slice none 0 0) [] := World.ownsRow_nil w 0 t 2
theorem Own.cases {t : TypeId} {w : World} {v : Value} {L : List It} (h : Own t w v L) : (v = .slice none 0 0 ∧ L = []) ∨ ∃ (g cap : Nat) (cur : List Value), v = .slice (some ⟨g, 0, none⟩) L.length cap ∧ Blk w g cur t ∧ L.length ≤ cap ∧ cap ≤ maxLen ∧ cur.length = cap * 2 ∧ cur.take (L.length * 2) = cls L := by
  rcases h.2 with ⟨h1, h2⟩ | ⟨g, cap, cur, h1, _, h2, h3, h4, h5, h6⟩
  · exact Or.inl ⟨h1, List.eq_nil_of_length_eq_zero h2⟩
  · exact Or.inr ⟨g, cap, cur.toList, h1, by unfold Blk; rw [Array.toArray_toList]; exact h2, h3, h4, by rw [Array.length_toList]; exact h5, h6⟩
theorem own_mk {t : TypeId} {w : World} {g n cap : Nat} {cur : List Value} {L : List It} (h : Blk w g cur t) (hn : n = L.length) (h1 : L.length ≤ cap) (h2 : cap ≤ maxLen) (h3 : cur.length = cap * 2) (h4 : cur.take (L.length * 2) = cls L) : Own t w (.slice (some ⟨g, 0, none⟩) n cap) L := by
  subst hn
  exact ⟨cls_len L, Or.inr ⟨g, cap, cur.toArray, rfl, Nat.zero_le _, h, h1, h2, by simpa using h3, by simpa using h4⟩⟩
theorem Own.shape {t : TypeId} {w : World} {v : Value} {L : List It} (h : Own t w v L) : ∃ a cap, v = .slice a L.length cap := owng_shape h
theorem Own.keep {B : Nat} {S : List Nat} {t : TypeId} {w w' : World} {v : Value} {L : List It} (h : Own t w v L) (f : Fr B S w w') (hg : ∀ g, v.ownBlock = some g → g < B ∧ g ∉ S) : Own t w' v L := owng_keep h f hg
theorem Own.lt {t : TypeId} {w : World} {v : Value} {L : List It} (h : Own t w v L) {g : Nat} (e : v.ownBlock = some g) : g < w.heap.size := owng_lt h e
theorem Own.heap {t : TypeId} {w w1 : World} {v : Value} {L : List It} (h : Own t w v L) (e : w1.heap = w.heap) : Own t w1 v L := by
  rcases h.cases with ⟨rfl, rfl⟩ | ⟨g, cap, cur, rfl, hb, h1, h2, h3, h4⟩
  · exact own_nil t w1
  · exact own_mk (hb.heap e) rfl h1 h2 h3 h4
theorem Own.ne {t u : TypeId} {w : World} {v : Value} {L : List It} {b : Nat} {cs : List Value} (h : Own t w v L) (k : Blk w b cs u) (ne : t ≠ u) {g : Nat} (e : v.ownBlock = some g) : b ≠ g := owng_ne h k ne e
/-- What cells of it hold. -/
theorem Own.cell {t : TypeId} {w : World} {a : Option Addr} {n cap : Nat} {L : List It} (h : Own t w (.slice a n cap) L) {i : Nat} (hi : i < L.length) : ∃ g, a = some ⟨g, 0, none⟩ ∧ ∀ x, L[i]? = some x → w.cell? ⟨g, i * 2, none⟩ = some (.int .i64 x.2) ∧ w.cell? ⟨g, i * 2 + 1, none⟩ = some (.int .i64 x.1) := by
  rcases h.cases with ⟨_, rfl⟩ | ⟨g, c, cur, e, hb, h1, h2, h3, h4⟩
  · simp at hi
  · simp only [Value.slice.injEq] at e
    refine ⟨g, e.1, fun x hx => ?_⟩
    obtain ⟨c1, c2⟩ := cls_get L i x hx
    rw [← h4, List.getElem?_take] at c1 c2
    rw [if_pos (by omega)] at c1 c2
    rw [hb.cell, hb.cell]
    exact ⟨c1, c2⟩
theorem Own.cells {t : TypeId} {w : World} {g n cap : Nat} {L : List It} (h : Own t w (.slice (some ⟨g, 0, none⟩) n cap) L) (k : Nat) : ∀ j v, (cls (L.drop k))[j]? = some v → w.cell? ⟨g, k * 2 + j, none⟩ = some v := by
  intro j v hj
  rcases h.cases with ⟨e, _⟩ | ⟨g2, c, cur, e, hb, h1, h2, h3, h4⟩
  · simp at e
  · simp only [Value.slice.injEq, Option.some.injEq, Addr.mk.injEq] at e
    obtain ⟨⟨rfl, _⟩, _⟩ := e
    have hl := (List.getElem?_eq_some_iff.1 hj).1
    rw [cls_len, List.length_drop] at hl
    rw [← cls_drop, List.getElem?_drop, ← h4, List.getElem?_take, if_pos (by omega)] at hj
    rw [hb.cell]
    exact hj
/- Stores of a row of cells. -/
section
variable {P : Program}
end
end Go.Proofs.YtfdmcbcomknebaaGreatDoor.Tim
namespace Go.Proofs.YtfdmcbcomknebaaGreatDoor.Tim
open Slt
open Go.ChangeShapes Go.WideShapes Go.ChangeAt Go.RowKit
open Wm
/-- The blocks of a list. -/
def ob (v : Value) : List Nat := v.ownBlock.toList
theorem mem_ob {v : Value} {g : Nat} : g ∈ ob v ↔ v.ownBlock = some g := by
  unfold ob
  cases v.ownBlock with
  | none => simp
  | some b => simp [eq_comm]
end Go.Proofs.YtfdmcbcomknebaaGreatDoor.Tim
namespace Go.Proofs.YtfdmcbcomknebaaGreatDoor.Tim
open Slt
open Go.ChangeShapes Go.WideShapes Go.ChangeAt Go.RowKit
open Wm
end Go.Proofs.YtfdmcbcomknebaaGreatDoor.Tim
namespace Go.Proofs.YtfdmcbcomknebaaGreatDoor.Tim
open Slt
open Go.ChangeShapes Go.WideShapes Go.ChangeAt Go.RowKit
open Wm
theorem own_at {w : World} {a : Option Addr} {n cap : Nat} {L : List It} (ho : Own 280 w (.slice a n cap) L) {i : Nat} (hi : i < L.length) : ∃ g y, a = some ⟨g, 0, none⟩ ∧ g < w.heap.size ∧ L[i]? = some y ∧ w.cell? ⟨g, i * 2, none⟩ = some (.int .i64 y.2) ∧ w.cell? ⟨g, i * 2 + 1, none⟩ = some (.int .i64 y.1) := by
  obtain ⟨g, e, h⟩ := ho.cell hi
  have hy := List.getElem?_eq_getElem hi
  obtain ⟨h1, h2⟩ := h _ hy
  exact ⟨g, L[i], e, World.block_lt_of_cell? w _ h1, hy, h1, h2⟩
end Go.Proofs.YtfdmcbcomknebaaGreatDoor.Tim
namespace Go.Proofs.YtfdmcbcomknebaaGreatDoor.Tim
open Slt
open Go.ChangeShapes Go.WideShapes Go.ChangeAt Go.RowKit
/-- The map at block b, of m entries with elements of type te, is f. -/
def MQ (te : TypeId) (w : World) (b m : Nat) (f : Int → Option Int) : Prop :=
  ∃ D : DataW Unit, w.ownsMap Tryz.prog 3 (plainElem Tryz.prog te) b m D ∧ Maps.size D = m ∧ ∀ id, (Lit.int .i64 id).wf = true → Maps.has D (.int .i64 id) = (f id).isSome ∧ D.atKey (.int .i64 id) (.lit (.int .i64 0)) = .lit (.int .i64 ((f id).getD 0))
theorem MQ.lt {te : TypeId} {w : World} {b m : Nat} {f : Int → Option Int} (h : MQ te w b m f) : b < w.heap.size := by obtain ⟨D, o, _⟩ := h; exact o.lt
theorem MQ.same {te : TypeId} {w w' : World} {b m : Nat} {f : Int → Option Int} (h : MQ te w b m f) (e : w'.heap[b]? = w.heap[b]?) : MQ te w' b m f := by
  obtain ⟨D, ⟨es, clock, hb, rest⟩, k⟩ := h
  exact ⟨D, ⟨es, clock, e.trans hb, rest⟩, k⟩
theorem MQ.keep {te : TypeId} {B : Nat} {S : List Nat} {w w' : World} {b m : Nat} {f : Int → Option Int} (h : MQ te w b m f) (k : Fr B S w w') (hb : b < B) (hs : b ∉ S) : MQ te w' b m f := h.same (k.block b hb hs)
theorem MQ.blk {te : TypeId} {w : World} {b m : Nat} {f : Int → Option Int} (h : MQ te w b m f) {g : Nat} {cs : List Value} {t : TypeId} (k : Blk w g cs t) : b ≠ g := by
  intro e
  subst e
  obtain ⟨D, ⟨es, clock, hb, _⟩, _⟩ := h
  have := (show w.heap[b]? = _ from k).symm.trans hb
  cases this
theorem MQ.congr {te : TypeId} {w : World} {b m : Nat} {f g : Int → Option Int} (h : MQ te w b m f) (e : ∀ i, g i = f i) : MQ te w b m g := by
  have : g = f := funext e
  rw [this]
  exact h
theorem mq_new {te : TypeId} (w : World) : MQ te (w.alloc (.map #[] 0)) w.heap.size 0 (fun _ => none) :=
  ⟨_, World.ownsMap_made w Tryz.prog 3 _, rfl, fun _ _ => ⟨rfl, rfl⟩⟩
section
variable {te tm : TypeId}
end
end Go.Proofs.YtfdmcbcomknebaaGreatDoor.Tim
namespace Go.Proofs.YtfdmcbcomknebaaGreatDoor.Tim
open Slt
open Go.ChangeShapes Go.WideShapes Go.ChangeAt Go.RowKit
open Wm
/-- A tick that may be. -/
def isT (d : Int) : Prop := 0 ≤ d ∧ d ≤ 1152921504606846976
instance (d : Int) : Decidable (isT d) := by unfold isT; infer_instance
theorem can_any (d : Int) (w : World) : Calls Tryz.prog 120 #[.int .i64 d] w fun e w' => e = .returned (.bool (decide (isT d))) ∧ w' = w := by
  by_cases c1 : 0 ≤ d
  · by_cases c2 : d ≤ 1152921504606846976
    · rw [decide_eq_true (show isT d from ⟨c1, c2⟩)]
      go_enter Tryz.func120, Tryz.ntmps120
      go_wp2
      go_ret
      exact ⟨rfl, rfl⟩
    · rw [decide_eq_false (fun h : isT d => c2 h.2)]
      go_enter Tryz.func120, Tryz.ntmps120
      go_wp2
      go_ret
      exact ⟨rfl, rfl⟩
  · rw [decide_eq_false (fun h : isT d => c1 h.1)]
    go_enter Tryz.func120, Tryz.ntmps120
    go_wp2
    go_ret
    exact ⟨rfl, rfl⟩
end Go.Proofs.YtfdmcbcomknebaaGreatDoor.Tim
namespace Go.Proofs.YtfdmcbcomknebaaGreatDoor.Tim
open Slt
open Go.ChangeShapes Go.WideShapes Go.ChangeAt Go.RowKit
open Wm
def nv : Value := .slice none 0 0
/-- The blocks of the rooms. -/
def bl (V : List Value) : List Nat := V.flatMap ob
/-- A wheel's struct at block s, and its rooms. -/
structure WR (w : World) (s : Nat) (now : Int) (mp : Option Nat) (V : List Value) (R : Nat → List It) : Prop where
  st : Blk w s (.int .i64 now :: .map mp :: V) 254
  vl : V.length = 169
  own : ∀ r, r < 169 → Own 280 w (V.getD r nv) (R r)
  apart : ∀ r q, r < 169 → q < 169 → r ≠ q → ∀ g, g ∈ ob (V.getD r nv) → g ∉ ob (V.getD q nv)
theorem bl_get {V : List Value} {r g : Nat} (h : g ∈ ob (V.getD r nv)) : g ∈ bl V := by
  rw [List.getD_eq_getElem?_getD] at h
  cases e : V[r]? with
  | none => rw [e] at h; simp [nv, ob, Value.ownBlock] at h
  | some v =>
    rw [e] at h
    exact List.mem_flatMap.2 ⟨v, List.mem_of_getElem? e, h⟩
theorem bl_mem {V : List Value} {g : Nat} (h : g ∈ bl V) : ∃ r, r < V.length ∧ g ∈ ob (V.getD r nv) := by
  obtain ⟨v, hv, hg⟩ := List.mem_flatMap.1 h
  obtain ⟨i, hi, e⟩ := List.mem_iff_getElem.1 hv
  refine ⟨i, hi, ?_⟩
  rw [List.getD_eq_getElem?_getD, List.getElem?_eq_getElem hi, Option.getD_some, e]
  exact hg
theorem WR.c0 {w : World} {s : Nat} {now : Int} {mp : Option Nat} {V : List Value} {R : Nat → List It} (h : WR w s now mp V R) : w.cell? ⟨s, 0, none⟩ = some (.int .i64 now) := h.st.cell 0
theorem WR.c1 {w : World} {s : Nat} {now : Int} {mp : Option Nat} {V : List Value} {R : Nat → List It} (h : WR w s now mp V R) : w.cell? ⟨s, 1, none⟩ = some (.map mp) := h.st.cell 1
theorem WR.cr {w : World} {s : Nat} {now : Int} {mp : Option Nat} {V : List Value} {R : Nat → List It} (h : WR w s now mp V R) {r : Nat} (hr : r < 169) : w.cell? ⟨s, 2 + r, none⟩ = some (V.getD r nv) := by
  have hv := h.vl
  rw [h.st.cell, show 2 + r = r + 1 + 1 by omega, List.getElem?_cons_succ, List.getElem?_cons_succ, List.getD_eq_getElem?_getD, List.getElem?_eq_getElem (by omega)]
  rfl
theorem WR.shape {w : World} {s : Nat} {now : Int} {mp : Option Nat} {V : List Value} {R : Nat → List It} (h : WR w s now mp V R) {r : Nat} (hr : r < 169) : ∃ a cap, V.getD r nv = .slice a (R r).length cap := (h.own r hr).shape
theorem WR.lt {w : World} {s : Nat} {now : Int} {mp : Option Nat} {V : List Value} {R : Nat → List It} (h : WR w s now mp V R) {g : Nat} (hg : g ∈ bl V) : g < w.heap.size := by
  obtain ⟨r, hr, hm⟩ := bl_mem hg
  exact (h.own r (by have := h.vl; omega)).lt (mem_ob.1 hm)
theorem WR.keep {B : Nat} {S : List Nat} {w w' : World} {s : Nat} {now : Int} {mp : Option Nat} {V : List Value} {R : Nat → List It} (h : WR w s now mp V R) (f : Fr B S w w') (hB : w.heap.size ≤ B) (h1 : s ∉ S) (h2 : ∀ g ∈ bl V, g ∉ S) : WR w' s now mp V R :=
  ⟨h.st.keep f (Nat.lt_of_lt_of_le h.st.lt hB) h1, h.vl, fun r hr => (h.own r hr).keep f fun g hg => ⟨Nat.lt_of_lt_of_le ((h.own r hr).lt hg) hB, h2 g (bl_get (mem_ob.2 hg))⟩, h.apart⟩
theorem WR.below {w w' : World} {s : Nat} {now : Int} {mp : Option Nat} {V : List Value} {R : Nat → List It} (h : WR w s now mp V R) (f : Below w.heap.size w w') : WR w' s now mp V R := h.keep (Fr.of_below f) (Nat.le_refl _) (by simp) (by simp)
theorem WR.heap {w w1 : World} {s : Nat} {now : Int} {mp : Option Nat} {V : List Value} {R : Nat → List It} (h : WR w s now mp V R) (e : w1.heap = w.heap) : WR w1 s now mp V R := ⟨h.st.heap e, h.vl, fun r hr => (h.own r hr).heap e, h.apart⟩
theorem WR.congr {w : World} {s : Nat} {now : Int} {mp : Option Nat} {V : List Value} {R R' : Nat → List It} (h : WR w s now mp V R) (e : ∀ r, r < 169 → R' r = R r) : WR w s now mp V R' := ⟨h.st, h.vl, fun r hr => by rw [e r hr]; exact h.own r hr, h.apart⟩
end Go.Proofs.YtfdmcbcomknebaaGreatDoor.Tim
namespace Go.Proofs.YtfdmcbcomknebaaGreatDoor.Tim
open Slt
open Go.ChangeShapes Go.WideShapes Go.ChangeAt Go.RowKit
open Wm
/-- A wheel of the tick now that has the things L. -/
structure WH (w : World) (s : Nat) (now : Int) (mp : Option Nat) (V : List Value) (L : List It) : Prop where
  wr : WR w s now mp V (rl (rm now) L)
  mq : (mp = none ∧ L = []) ∨ ∃ b, mp = some b ∧ MQ 2 w b L.length (wn L)
  srt : Srt L
  uni : Uni L
  tks : Tks L
  now : isT now
  ids : ∀ x ∈ L, (Lit.int .i64 x.2).wf = true
/-- The wheel's blocks. -/
def fp (s : Nat) (mp : Option Nat) (V : List Value) : List Nat := s :: (mp.toList ++ bl V)
theorem mem_fp {s : Nat} {mp : Option Nat} {V : List Value} {g : Nat} : g ∈ fp s mp V ↔ g = s ∨ mp = some g ∨ g ∈ bl V := by
  unfold fp
  cases mp with
  | none => simp
  | some b => simp [eq_comm]
/-- .. told by its blocks alone. -/
def WW (w : World) (s : Nat) (now : Int) (L : List It) (F : List Nat) : Prop := ∃ mp V, WH w s now mp V L ∧ F = fp s mp V
/-- A change within blocks F; the blocks are F' then. -/
structure Mv (w w' : World) (F F' : List Nat) : Prop where
  fr : Fr w.heap.size F w w'
  sub : ∀ g ∈ F', g ∈ F ∨ w.heap.size ≤ g
theorem Mv.refl (w : World) (F : List Nat) : Mv w w F F := ⟨Fr.refl _ _ _, fun _ h => Or.inl h⟩
theorem Mv.trans {a b c : World} {F G H : List Nat} (h : Mv a b F G) (k : Mv b c G H) : Mv a c F H := by
  have hs := h.fr.size
  refine ⟨⟨k.fr.os.trans h.fr.os, k.fr.tape.trans h.fr.tape, k.fr.output.trans h.fr.output, Nat.le_trans hs k.fr.size, fun i hi hn => ?_⟩, fun g hg => ?_⟩
  · rw [k.fr.block i (by omega) (fun hm => by rcases h.sub i hm with q | q; exact hn q; omega)]
    exact h.fr.block i hi hn
  · rcases k.sub g hg with q | q
    · exact h.sub g q
    · exact Or.inr (by omega)
theorem Mv.below {w w' : World} (f : Below w.heap.size w w') (F : List Nat) : Mv w w' F F := ⟨(Fr.of_below f).mono (Nat.le_refl _) (by simp), fun _ h => Or.inl h⟩
theorem WH.map_keep {B : Nat} {S : List Nat} {w w' : World} {mp : Option Nat} {L : List It} (h : (mp = none ∧ L = []) ∨ ∃ b, mp = some b ∧ MQ 2 w b L.length (wn L)) (f : Fr B S w w') (hB : w.heap.size ≤ B) (hS : ∀ b, mp = some b → b ∉ S) : (mp = none ∧ L = []) ∨ ∃ b, mp = some b ∧ MQ 2 w' b L.length (wn L) := by
  rcases h with h | ⟨b, e, m⟩
  · exact Or.inl h
  · exact Or.inr ⟨b, e, m.keep f (Nat.lt_of_lt_of_le m.lt hB) (hS b e)⟩
theorem WH.keep {B : Nat} {S : List Nat} {w w' : World} {s : Nat} {now : Int} {mp : Option Nat} {V : List Value} {L : List It} (h : WH w s now mp V L) (f : Fr B S w w') (hB : w.heap.size ≤ B) (hS : ∀ g ∈ fp s mp V, g ∉ S) : WH w' s now mp V L :=
  ⟨h.wr.keep f hB (hS _ (mem_fp.2 (Or.inl rfl))) fun g hg => hS g (mem_fp.2 (Or.inr (Or.inr hg))), WH.map_keep h.mq f hB fun b e => hS b (mem_fp.2 (Or.inr (Or.inl e))), h.srt, h.uni, h.tks, h.now, h.ids⟩
theorem WH.lt {w : World} {s : Nat} {now : Int} {mp : Option Nat} {V : List Value} {L : List It} (h : WH w s now mp V L) {g : Nat} (hg : g ∈ fp s mp V) : g < w.heap.size := by
  rcases mem_fp.1 hg with e | e | e
  · rw [e]; exact h.wr.st.lt
  · rcases h.mq with ⟨e2, _⟩ | ⟨b, e2, m⟩
    · rw [e2] at e; cases e
    · rw [e2] at e
      cases e
      exact m.lt
  · exact h.wr.lt e
theorem WW.keep {B : Nat} {S : List Nat} {w w' : World} {s : Nat} {now : Int} {L : List It} {F : List Nat} (h : WW w s now L F) (f : Fr B S w w') (hB : w.heap.size ≤ B) (hS : ∀ g ∈ F, g ∉ S) : WW w' s now L F := by
  obtain ⟨mp, V, h, rfl⟩ := h
  exact ⟨mp, V, h.keep f hB hS, rfl⟩
theorem WW.below {w w' : World} {s : Nat} {now : Int} {L : List It} {F : List Nat} (h : WW w s now L F) (f : Below w.heap.size w w') : WW w' s now L F := h.keep (Fr.of_below f) (Nat.le_refl _) (by simp)
theorem WW.lt {w : World} {s : Nat} {now : Int} {L : List It} {F : List Nat} (h : WW w s now L F) {g : Nat} (hg : g ∈ F) : g < w.heap.size := by
  obtain ⟨mp, V, h, rfl⟩ := h
  exact h.lt hg
theorem WW.heap {w w1 : World} {s : Nat} {now : Int} {L : List It} {F : List Nat} (h : WW w s now L F) (e : Sm w1 w) : WW w1 s now L F := h.below (e.below (Below.refl _ _))
/-- A wheel of no rooms filled. -/
theorem wr_new (w : World) (now : Int) : WR (w.alloc (.cells ((.int .i64 now :: .map none :: List.replicate 169 nv) : List Value).toArray 254)) w.heap.size now none (List.replicate 169 nv) (fun _ => []) := by
  refine ⟨Blk.new w _ _, List.length_replicate, fun r hr => ?_, fun r q hr hq hn g hg => ?_⟩
  · rw [List.getD_eq_getElem?_getD, List.getElem?_replicate, if_pos hr]
    exact own_nil _ _
  · rw [List.getD_eq_getElem?_getD, List.getElem?_replicate, if_pos hr] at hg
    simp [nv, ob, Value.ownBlock] at hg
theorem wh_new (w : World) (now : Int) (h : isT now) : WH (w.alloc (.cells ((.int .i64 now :: .map none :: List.replicate 169 nv) : List Value).toArray 254)) w.heap.size now none (List.replicate 169 nv) [] :=
  ⟨wr_new w now, Or.inl ⟨rfl, rfl⟩, List.Pairwise.nil, List.Pairwise.nil, fun x hx => (by cases hx), h, fun x hx => (by cases hx)⟩
theorem zero_wheel : ∃ Z : Array Value, Hid (∀ now : Int, Z.setIfInBounds 0 (.int .i64 now) = ((.int .i64 now :: .map none :: List.replicate 169 nv) : List Value).toArray) ∧ (¬ Z = #[]) ∧ ∀ w, (zeroValue 254).run Tryz.prog w = .ok (.agg Z) w :=
  ⟨((.int .i64 0 :: .map none :: List.replicate 169 nv) : List Value).toArray, fun now => by simp, by simp, fun w => by kernel_rfl⟩
set_option maxRecDepth 100000 in
set_option maxHeartbeats 2000000 in
theorem wnew_any (now : Int) (w : World) (hn : isT now) :
    Calls Tryz.prog 92 #[.int .i64 now] w fun e w' => e = .returned (.tuple #[.pointer (some ⟨w.heap.size, 0, none⟩), .int .i64 0]) ∧ WW w' w.heap.size now [] [w.heap.size] ∧ Below w.heap.size w w' := by
  have C : Hid (∀ w, _) := fun w => can_any now w
  rw [decide_eq_true hn] at C
  obtain ⟨Z, hZ, hne, hz⟩ := zero_wheel
  have F : Hid (WW (w.alloc (.cells (Z.setIfInBounds 0 (.int .i64 now)) 254)) w.heap.size now [] [w.heap.size] ∧ Below w.heap.size w (w.alloc (.cells (Z.setIfInBounds 0 (.int .i64 now)) 254))) := by
    rw [hZ.out]
    exact ⟨⟨_, _, wh_new w now hn, by kernel_rfl⟩, (Below.refl _ _).alloc (Nat.le_refl _) _⟩
  clear hn hZ
  go_enter Tryz.func92, Tryz.ntmps92
  go_wp2_with fail
  refine (C.out _).mono ?_
  rintro e w' ⟨rfl, rfl⟩
  go_wp2
  go_ret2
  exact ⟨rfl, F.out⟩
end Go.Proofs.YtfdmcbcomknebaaGreatDoor.Tim
namespace Go.Proofs.YtfdmcbcomknebaaGreatDoor.Tim
open Slt
open Go.ChangeShapes Go.WideShapes Go.ChangeAt Go.RowKit
open Wm
def adL (L : List It) (id d : Int) : List It := if isT d then (if (wn L id).isSome = true then L else ins (d, id) L) else L
end Go.Proofs.YtfdmcbcomknebaaGreatDoor.Tim
namespace Go.Proofs.YtfdmcbcomknebaaGreatDoor.Tim
open Slt
open Go.ChangeShapes Go.WideShapes Go.ChangeAt Go.RowKit
open Wm
end Go.Proofs.YtfdmcbcomknebaaGreatDoor.Tim
namespace Go.Proofs.YtfdmcbcomknebaaGreatDoor.Tim
open Slt
open Go.ChangeShapes Go.WideShapes Go.ChangeAt Go.RowKit
open Wm
end Go.Proofs.YtfdmcbcomknebaaGreatDoor.Tim
namespace Go.Proofs.YtfdmcbcomknebaaGreatDoor.Tim
open Slt
open Go.ChangeShapes Go.WideShapes Go.ChangeAt Go.RowKit
open Wm
end Go.Proofs.YtfdmcbcomknebaaGreatDoor.Tim
namespace Go.Proofs.YtfdmcbcomknebaaGreatDoor.Tim
open Slt
open Go.ChangeShapes Go.WideShapes Go.ChangeAt Go.RowKit
open Wm
/-- The numbers of things. -/
def ids (L : List It) : List Int := L.map (·.2)
/-- Those that are due. -/
def duL (now : Int) (L : List It) : List It := L.filter fun x => decide (x.1 ≤ now)
theorem ids_take (L : List It) {i : Nat} {x : It} (h : L[i]? = some x) : ids (L.take (i + 1)) = ids (L.take i) ++ [x.2] := by
  obtain ⟨hl, e⟩ := List.getElem?_eq_some_iff.1 h
  unfold ids
  rw [List.take_succ_eq_append_getElem hl, e, List.map_append]
  rfl
set_option maxRecDepth 100000 in
set_option maxHeartbeats 2000000 in
theorem numbers_any {w0 w : World} {v : Value} {G : List Int} {a : Option Addr} {cap : Nat} {L : List It} (ho : Own 280 w0 (.slice a L.length cap) L) (g : Gt w0 w v G) (hl : G.length + L.length ≤ 2900) :
    Calls Tryz.prog 136 #[v, .slice a L.length cap] w fun e w' => ∃ v', e = .returned v' ∧ Gt w0 w' v' (G ++ ids L) := by
  obtain ⟨i0, hi, hz0, hz1, hz2⟩ := info_parts Tryz.info3
  obtain ⟨p, c, rfl⟩ := own_shape g.own
  have ST : Hid (∀ (wr : World) (i : Nat), Below w0.heap.size w0 wr → i < L.length → ∃ (q : Nat) (x : It), a = some ⟨q, 0, none⟩ ∧ wr.cell? ⟨q, i * 2, none⟩ = some (.int .i64 x.2) ∧ wr.cell? ⟨q, i * 2 + 1, none⟩ = some (.int .i64 x.1) ∧ Hid (G ++ ids (L.take (i + 1)) = (G ++ ids (L.take i)) ++ [x.2])) := fun wr i hb hi => by
    obtain ⟨q, x, e, hq, hx, h1, h2⟩ := own_at ho hi
    refine ⟨q, x, e, ?_, ?_, ?_⟩
    · rw [hb.cell (p := ⟨q, i * 2, none⟩) hq]; exact h1
    · rw [hb.cell (p := ⟨q, i * 2 + 1, none⟩) hq]; exact h2
    · show G ++ ids (L.take (i + 1)) = (G ++ ids (L.take i)) ++ [x.2]
      rw [ids_take L hx, List.append_assoc]
  have HE : Hid (G ++ ids (L.take L.length) = G ++ ids L) := by
    show G ++ ids (L.take L.length) = G ++ ids L
    rw [List.take_length]
  have HL : Hid (∀ i, (G ++ ids (L.take i)).length ≤ 2900) := fun i => by
    unfold ids
    simp
    omega
  obtain ⟨H, hH⟩ : ∃ H : Nat → List Int, ∀ i, H i = G ++ ids (L.take i) := ⟨_, fun _ => rfl⟩
  have H0 : Gt w0 w (.slice p G.length c) (H 0) := by
    rw [hH]
    simpa [ids] using g
  simp only [← hH] at ST HE HL
  obtain ⟨E, hE⟩ : ∃ E, E = G ++ ids L := ⟨_, rfl⟩
  rw [← hE] at HE ⊢
  have gl : (G.length : Int) ≤ 2900 := by omega
  generalize G.length = m at *
  generalize L.length = n at *
  have nl : (n : Int) ≤ 2900 := by omega
  clear ho g hl hH hE
  go_enter Tryz.func136, Tryz.ntmps136
  go_wp2
  go_loopw [0, 9] (fun v i wr => ∃ k : Nat, (k : Int) ≤ n ∧ i = .int .i64 k ∧ Gt w0 wr v (H k)) (fun _ i _ => n - (intOf i).toNat)
  case atStart => exact ⟨0, by omega, rfl, H0⟩
  case round =>
    clear H0
    obtain ⟨k, hk, rfl, gt⟩ := hrel
    by_cases h : (k : Int) < n
    · obtain ⟨q, x, rfl, k1, k2, HS⟩ := ST.out wr k gt.bel (by omega)
      have s : Hid (H k ++ [x.2] = H (k + 1)) := HS.out.symm
      have hgl : (((H k).length : Nat) : Int) ≤ 2900 := by have := HL.out k; omega
      have hsz := gt.bel.size
      have gb : Gt w0 (wr.alloc (.cells #[.int .i64 x.2, .int .i64 x.1] 280)) u0 (H k) := ⟨gt.own.alloc _, gt.bel.alloc hsz _⟩
      have hsz2 : w0.heap.size ≤ (wr.alloc (.cells #[.int .i64 x.2, .int .i64 x.1] 280)).heap.size := gb.bel.size
      clear HS gt
      go_wp2_with (at_builtin; refine wpList_append_own _ rfl _ _ 224 rfl w0.heap.size 3 i0 (.int .i64 0) 1 8 Tryz.underlying224 hi hz0 hz1 hz2 rfl (by decide) _ _ _ rfl (gb.own.alloc _) ⟨_, 0, none⟩ 1 1 [.int .i64 x.2] rfl rfl ?c1 ?c2 ?c3 ?c4 ?c5 ?_)
      case c1 =>
        intro j u hj
        match j, hj with
        | 0, hj => simp at hj; subst hj; simp [Addr.add]
      case c2 => intro u hu; simp at hu; subst hu; rfl
      case c3 => unfold maxLen; omega
      case c4 => omega
      case c5 => simp; omega
      intro v' w2 hown' hgrow _
      have G3 := gt_app gb hown' hgrow
      rw [s.out] at G3
      clear hown' hgrow gb
      go_wp2
      go_roundw
      case rel => exact ⟨k + 1, by omega, by go_num, G3⟩
      case measure => simp [intOf]; omega
    · obtain rfl : k = n := by omega
      rw [HE.out] at gt
      go_wp2
      go_ret
      exact ⟨_, rfl, gt⟩
/-- The things of the first rooms. -/
def fst (now : Int) (L : List It) (j : Nat) : List It := (List.range j).flatMap (rl (rm now) L)
theorem fst_succ (now : Int) (L : List It) (j : Nat) : fst now L (j + 1) = fst now L j ++ rl (rm now) L j := by
  unfold fst
  rw [List.range_succ, List.flatMap_append]
  simp
theorem fst_len {now : Int} {L : List It} (h : Srt L) (t : Tks L) (hn : isT now) (j : Nat) : (fst now L j).length ≤ L.length := by
  unfold fst
  rw [cat_rooms _ _ _ (mono_rm h t hn.1 hn.2)]
  exact List.length_filter_le _ _
theorem fst_all {now : Int} {L : List It} (h : Srt L) (t : Tks L) (hn : isT now) : fst now L 169 = L := cat_all h t hn.1 hn.2
set_option maxRecDepth 100000 in
set_option maxHeartbeats 4000000 in
theorem list_any {w : World} {s : Nat} {now : Int} {L : List It} {F : List Nat} (h : WW w s now L F) (hl : L.length ≤ 1000) :
    Calls Tryz.prog 127 #[.pointer (some ⟨s, 0, none⟩)] w fun e w' => ∃ v, e = .returned v ∧ Gt w w' v (ids L) := by
  obtain ⟨mp, V, h, rfl⟩ := h
  obtain ⟨G, hG⟩ : ∃ G : Nat → List Int, ∀ j, G j = ids (fst now L j) := ⟨_, fun _ => rfl⟩
  have G0 : Hid (Gt w w (.slice none 0 0) (G 0)) := by
    rw [hG]
    exact gt_start w
  have GE : Hid (G 169 = ids L) := by
    rw [hG, fst_all h.srt h.tks h.now]
    exact rfl
  have CN : Hid (∀ (wr : World) (v : Value) (j : Nat), j < 169 → Gt w wr v (G j) → ∃ a n cap, wr.cell? ⟨s, 2 + j, none⟩ = some (.slice a n cap) ∧ Calls Tryz.prog 136 #[v, .slice a n cap] wr fun e w' => ∃ v', e = .returned v' ∧ Gt w w' v' (G (j + 1))) := fun wr v j hj g => by
    obtain ⟨a, cap, ev⟩ := h.wr.shape hj
    have o := h.wr.own j hj
    have c := (h.wr.below g.bel).cr hj
    rw [ev] at o c
    refine ⟨a, _, cap, c, ?_⟩
    have := numbers_any (v := v) o g (by have := fst_len h.srt h.tks h.now j; have := rl_len (rm now) L j; rw [hG]; unfold ids; rw [List.length_map]; omega)
    rw [show G (j + 1) = G j ++ ids (rl (rm now) L j) by rw [hG, hG, fst_succ]; unfold ids; rw [List.map_append]]
    exact this
  rw [← GE.out]
  clear h hl hG GE
  obtain ⟨a0, n0, p0, c0, C0⟩ := CN.out w _ 0 (by decide) G0.out
  have D0 : Hid (∀ _ : Unit, _) := fun _ => C0
  clear C0 G0
  go_enter Tryz.func127, Tryz.ntmps127
  go_wp2_with fail
  refine (D0.out ()).mono ?_
  rintro e w1 ⟨v, rfl, g⟩
  obtain ⟨p, c, ev⟩ := own_shape g.own
  have G1 : Hid (Gt w w1 v (G 1)) := g
  clear g
  subst ev
  go_wp2_with fail
  go_loopw [3, 13] (fun v i wr => ∃ l : Nat, (l : Int) ≤ 21 ∧ i = .int .i64 l ∧ Hid (Gt w wr v (G (1 + 8 * l)))) (fun _ i _ => 21 - (intOf i).toNat)
  case atStart => exact ⟨0, by omega, rfl, G1⟩
  case round =>
    obtain ⟨l, hl, rfl, S⟩ := hrel
    obtain ⟨q, cq, e3⟩ := own_shape S.out.own
    by_cases h : (l : Int) < 21
    · go_wp2_with fail
      obtain ⟨wo, rfl⟩ : ∃ wo, wo = wr := ⟨_, rfl⟩
      go_loopw [3, 16] (fun v i wr => ∃ k : Nat, (k : Int) ≤ 8 ∧ i = .int .i64 k ∧ Hid (Gt w wr v (G (1 + 8 * l + k)))) (fun _ i _ => 8 - (intOf i).toNat)
      case atStart => exact ⟨0, by omega, rfl, S⟩
      case round =>
        clear e3
        obtain ⟨k, hk, rfl, S2⟩ := hrel
        by_cases h5 : (k : Int) < 8
        · obtain ⟨a5, n5, p5, c5, C5⟩ := CN.out wr _ (1 + 8 * l + k) (by omega) S2.out
          rw [show 2 + (1 + 8 * l + k) = 3 + l * 8 + k by omega] at c5
          obtain ⟨q5, cq5, e5⟩ := own_shape S2.out.own
          have D5 : Hid (∀ _ : Unit, _) := fun _ => C5
          clear C5 S2 S
          subst e5
          go_wp2_with fail
          refine (D5.out ()).mono ?_
          rintro e w5 ⟨v5, rfl, g5⟩
          obtain ⟨p6, c6, e6⟩ := own_shape g5.own
          have G6 : Hid (Gt w w5 v5 (G (1 + 8 * l + (k + 1)))) := g5
          clear g5
          subst e6
          go_wp2
          go_roundw
          case rel => exact ⟨k + 1, by omega, by go_num, G6⟩
          case measure => simp [intOf]; omega
        · obtain rfl : k = 8 := by omega
          have G6 : Hid (Gt w wr _ (G (1 + 8 * (l + 1)))) := S2.out
          clear S2 S
          go_wp2
          go_roundw
          case rel => exact ⟨l + 1, by omega, by go_num, G6⟩
          case measure => simp [intOf]; omega
    · obtain rfl : l = 21 := by omega
      have G6 : Hid (Gt w wr _ (G 169)) := S.out
      clear S
      subst e3
      go_wp2
      go_ret
      exact ⟨_, rfl, G6.out⟩
end Go.Proofs.YtfdmcbcomknebaaGreatDoor.Tim
namespace Go.Proofs.YtfdmcbcomknebaaGreatDoor.Tim
open Slt
open Go.ChangeShapes Go.WideShapes Go.ChangeAt Go.RowKit
open Wm
def nxE (L : List It) : Int := match L with | [] => 12 | _ :: _ => 0
end Go.Proofs.YtfdmcbcomknebaaGreatDoor.Tim
namespace Go.Proofs.YtfdmcbcomknebaaGreatDoor.Tim
open Slt
open Go.ChangeShapes Go.WideShapes Go.ChangeAt Go.RowKit
theorem wnil_list (w : World) : Calls Tryz.prog 127 #[.pointer none] w fun e w' => e = .returned (.slice none 0 0) ∧ w' = w := by
  go_enter Tryz.func127, Tryz.ntmps127
  go_wp2
  go_ret
  exact ⟨rfl, rfl⟩
end Go.Proofs.YtfdmcbcomknebaaGreatDoor.Tim
namespace Go.Proofs.YtfdmcbcomknebaaGreatDoor.Zm
open Slt Tim
open Wm Sl
abbrev Ks := Nat → List It
def up (K : Ks) (c : Nat) (X : List It) : Ks := fun j => if j = c then X else K j
theorem up_same (K : Ks) (c : Nat) (X : List It) : up K c X c = X := if_pos rfl
theorem up_other {K : Ks} {c j : Nat} (X : List It) (h : j ≠ c) : up K c X j = K j := if_neg h
def has (L : List It) (id : Int) : Bool := (wn L id).isSome
theorem has_mem {L : List It} {id : Int} (h : has L id = true) : ∃ d, (d, id) ∈ L := by
  unfold has at h
  cases e : wn L id with
  | none => rw [e] at h; cases h
  | some d => exact ⟨d, wn_mem e⟩
theorem has_of {L : List It} {x : It} (hx : x ∈ L) : has L x.2 = true := by
  unfold has
  cases e : wn L x.2 with
  | none => exact absurd rfl (wn_none.1 e x hx)
  | some d => rfl
theorem has_no {L : List It} {id : Int} (h : has L id = false) : ∀ y ∈ L, y.2 ≠ id := by
  intro y hy e
  have := has_of hy
  rw [e, h] at this
  cases this
/-- The core that a timer is on. -/
def onc (n : Nat) (K : Ks) (id : Int) : Option Nat := (List.range n).find? fun c => has (K c) id
/-- Each list is as it must be, each timer on one core. -/
structure Al (n : Nat) (K : Ks) : Prop where
  uni : ∀ c, c < n → Uni (K c)
  srt : ∀ c, c < n → Srt (K c)
  one : ∀ c d, c < n → d < n → ∀ id, has (K c) id = true → has (K d) id = true → c = d
  rg : ∀ c, c < n → ∀ id, has (K c) id = true → 1 ≤ id ∧ id ≤ 48
theorem onc_none {n : Nat} {K : Ks} {id : Int} : onc n K id = none ↔ ∀ c, c < n → has (K c) id = false := by
  unfold onc
  rw [List.find?_eq_none]
  simp
theorem al_nil (n : Nat) : Al n fun _ => [] :=
  ⟨fun _ _ => List.Pairwise.nil, fun _ _ => List.Pairwise.nil, fun _ _ _ _ id h => by simp [has, wn] at h, fun _ _ id h => by simp [has, wn] at h⟩
theorem onc_nil (n : Nat) (id : Int) : onc n (fun _ => []) id = none := onc_none.2 fun c _ => by simp [has, wn]
/-- At most so many, whose numbers go so far. -/
theorem few : ∀ (m : Nat) (L : List It), Srt L → Uni L → (∀ x ∈ L, 1 ≤ x.2 ∧ x.2 ≤ (m : Int)) → L.length ≤ m
  | 0, L, _, _, h => by
    cases L with
    | nil => exact Nat.le_refl _
    | cons x r => have := h x (by simp); omega
  | m + 1, L, s, u, h => by
    have ih := few m (rid ((m : Int) + 1) L) (srt_rid s _) (uni_rid u _) fun x hx => by
      obtain ⟨h1, h2⟩ := mem_rid.1 hx
      have := h x h1
      omega
    cases e : has L ((m : Int) + 1) with
    | true =>
      obtain ⟨d, hd⟩ := has_mem e
      have := rid_len s u hd
      simp only at this
      omega
    | false =>
      rw [rid_none (has_no e)] at ih
      omega
theorem Al.len {n : Nat} {K : Ks} (h : Al n K) {c : Nat} (hc : c < n) : (K c).length ≤ 48 :=
  few 48 (K c) (h.srt c hc) (h.uni c hc) fun x hx => h.rg c hc x.2 (has_of hx)
/-- As the program's map has it, and its table of numbers. -/
def cq (n : Nat) (K : Ks) (id : Int) : Option Int := (onc n K id).map fun c : Nat => (c : Int)
def oc (n : Nat) (K : Ks) (i : Nat) : Bool := (onc n K (i : Int)).isSome
def cnt (O : Nat → Bool) : Nat := (List.range 48).countP fun i => O (i + 1)
theorem cq_none {n : Nat} {K : Ks} {id : Int} : cq n K id = none ↔ onc n K id = none := by
  unfold cq
  rw [Option.map_eq_none_iff]
/-- Is there such a core? -/
def isC (n : Nat) (c : Int) : Prop := 0 ≤ c ∧ c < n
instance (n : Nat) (c : Int) : Decidable (isC n c) := by unfold isC; exact inferInstance
/-- What Arm answers and leaves, if there is the core, and the tick is one. -/
def arK (n : Nat) (K : Ks) (c : Nat) (d : Int) : Ks := match ff 48 (oc n K) with | some i => up K c (ins (d, ((i + 1 : Nat) : Int)) (K c)) | none => K
def caK (n : Nat) (K : Ks) (id : Int) : Ks := match onc n K id with | some c => up K c (rid id (K c)) | none => K
def caE (n : Nat) (K : Ks) (id : Int) : Int := if (onc n K id).isSome = true then 0 else 4
def fiN (now : Int) (L : List It) : Int := match duL now L with | [] => 0 | x :: _ => x.2
def fiK (now : Int) (K : Ks) (c : Nat) : Ks := match duL now (K c) with | [] => K | x :: _ => up K c (rid x.2 (K c))
end Go.Proofs.YtfdmcbcomknebaaGreatDoor.Zm
namespace Go.Proofs.YtfdmcbcomknebaaGreatDoor.Tim
open Slt
open Go.ChangeShapes Go.WideShapes Go.ChangeAt Go.RowKit
open Wm Zm
def upd {α : Type} (f : Nat → α) (c : Nat) (x : α) : Nat → α := fun j => if j = c then x else f j
theorem upd_same {α : Type} (f : Nat → α) (c : Nat) (x : α) : upd f c x c = x := if_pos rfl
theorem upd_other {α : Type} {f : Nat → α} {c j : Nat} (x : α) (h : j ≠ c) : upd f c x j = f j := if_neg h
/-- All of it, with wheels of their own ticks. -/
structure TB (w : World) (t sb sg tb mb n : Nat) (N : Nat → Int) (S : Nat → Nat) (K : Ks) (G : Nat → List Nat) (W : List Nat) (O : Nat → Bool) (m : Nat) (f : Int → Option Int) : Prop where
  st : Blk w t [.pointer (some ⟨sb, 0, none⟩), .slice (some ⟨tb, 0, none⟩) n n, .map (some mb)] 171
  tab : Blk w tb ((List.range n).map fun c => .pointer (some ⟨S c, 0, none⟩)) 172
  sl : T w sb sg 48 W O
  mp : MQ 3 w mb m f
  ws : ∀ c, c < n → WW w (S c) (N c) (K c) (G c)
  dis : ∀ c d, c < n → d < n → c ≠ d → ∀ g ∈ G c, g ∉ G d
  nb : ∀ c, c < n → ∀ g ∈ G c, g ∉ [t, sb, sg, tb, mb]
  n1 : 1 ≤ n
  n2 : n ≤ 64
def foot (t sb sg tb mb n : Nat) (G : Nat → List Nat) : List Nat := [t, sb, sg, tb, mb] ++ (List.range n).flatMap G
theorem mem_foot {t sb sg tb mb n : Nat} {G : Nat → List Nat} {g : Nat} : g ∈ foot t sb sg tb mb n G ↔ g ∈ [t, sb, sg, tb, mb] ∨ ∃ c, c < n ∧ g ∈ G c := by
  unfold foot
  rw [List.mem_append, List.mem_flatMap]
  simp
section
variable {w : World} {t sb sg tb mb n : Nat} {N : Nat → Int} {S : Nat → Nat} {K : Ks} {G : Nat → List Nat} {W : List Nat} {O : Nat → Bool} {m : Nat} {f : Int → Option Int}
theorem TB.c0 (h : TB w t sb sg tb mb n N S K G W O m f) : w.cell? ⟨t, 0, none⟩ = some (.pointer (some ⟨sb, 0, none⟩)) := h.st.cell 0
theorem TB.c1 (h : TB w t sb sg tb mb n N S K G W O m f) : w.cell? ⟨t, 1, none⟩ = some (.slice (some ⟨tb, 0, none⟩) n n) := h.st.cell 1
theorem TB.c2 (h : TB w t sb sg tb mb n N S K G W O m f) : w.cell? ⟨t, 2, none⟩ = some (.map (some mb)) := h.st.cell 2
theorem TB.cw (h : TB w t sb sg tb mb n N S K G W O m f) {c : Nat} (hc : c < n) : w.cell? ⟨tb, c, none⟩ = some (.pointer (some ⟨S c, 0, none⟩)) := by
  rw [h.tab.cell c, List.getElem?_map, List.getElem?_range hc]
  rfl
theorem TB.lt (h : TB w t sb sg tb mb n N S K G W O m f) {g : Nat} (hg : g ∈ [t, sb, sg, tb, mb]) : g < w.heap.size := by
  simp only [List.mem_cons, List.not_mem_nil, or_false] at hg
  rcases hg with rfl | rfl | rfl | rfl | rfl
  · exact h.st.lt
  · exact h.sl.sb.lt
  · exact h.sl.sg.lt
  · exact h.tab.lt
  · exact h.mp.lt
theorem TB.hi (h : TB w t sb sg tb mb n N S K G W O m f) {g : Nat} (hg : g ∈ foot t sb sg tb mb n G) : g < w.heap.size := by
  rcases mem_foot.1 hg with q | ⟨c, hc, q⟩
  · exact h.lt q
  · exact (h.ws c hc).lt q
theorem TB.keep {B : Nat} {Z : List Nat} {w' : World} (h : TB w t sb sg tb mb n N S K G W O m f) (k : Fr B Z w w') (hB : w.heap.size ≤ B) (hZ : ∀ g ∈ foot t sb sg tb mb n G, g ∉ Z) : TB w' t sb sg tb mb n N S K G W O m f := by
  have z : ∀ g ∈ [t, sb, sg, tb, mb], g < B ∧ g ∉ Z := fun g hg => ⟨Nat.lt_of_lt_of_le (h.lt hg) hB, hZ g (mem_foot.2 (Or.inl hg))⟩
  refine ⟨h.st.keep k (z t (by simp)).1 (z t (by simp)).2, h.tab.keep k (z tb (by simp)).1 (z tb (by simp)).2, h.sl.keep k ⟨(z sb (by simp)).1, (z sg (by simp)).1⟩ ⟨(z sb (by simp)).2, (z sg (by simp)).2⟩, h.mp.keep k (z mb (by simp)).1 (z mb (by simp)).2, fun c hc => (h.ws c hc).keep k hB fun g hg => hZ g (mem_foot.2 (Or.inr ⟨c, hc, hg⟩)), h.dis, h.nb, h.n1, h.n2⟩
/-- One wheel is another one now. -/
theorem TB.wheel {w' : World} (h : TB w t sb sg tb mb n N S K G W O m f) {c : Nat} (hc : c < n) {now : Int} {X : List It} {F' : List Nat} (q : WW w' (S c) now X F') (v : Mv w w' (G c) F') :
    TB w' t sb sg tb mb n (upd N c now) S (up K c X) (upd G c F') W O m f ∧ Mv w w' (foot t sb sg tb mb n G) (foot t sb sg tb mb n (upd G c F')) := by
  have z : ∀ g ∈ [t, sb, sg, tb, mb], g < w.heap.size ∧ g ∉ G c := fun g hg => ⟨h.lt hg, fun e => h.nb c hc g e hg⟩
  refine ⟨⟨h.st.keep v.fr (z t (by simp)).1 (z t (by simp)).2, h.tab.keep v.fr (z tb (by simp)).1 (z tb (by simp)).2, h.sl.keep v.fr ⟨(z sb (by simp)).1, (z sg (by simp)).1⟩ ⟨(z sb (by simp)).2, (z sg (by simp)).2⟩, h.mp.keep v.fr (z mb (by simp)).1 (z mb (by simp)).2, fun d hd => ?_, fun d e hd he hn g hg => ?_, fun d hd g hg => ?_, h.n1, h.n2⟩, ?_, fun g hg => ?_⟩
  · by_cases e : d = c
    · subst e
      rw [upd_same, upd_same, up_same]
      exact q
    · rw [upd_other _ e, upd_other _ e, up_other _ e]
      exact (h.ws d hd).keep v.fr (Nat.le_refl _) fun g hg hg2 => h.dis d c hd hc e g hg hg2
  · have key : ∀ d, d < n → d ≠ c → ∀ g ∈ G d, g ∉ F' := fun d hd hn g hg hg2 => by
      rcases v.sub g hg2 with r | r
      · exact h.dis d c hd hc hn g hg r
      · have := (h.ws d hd).lt hg; omega
    by_cases e1 : d = c
    · subst e1
      rw [upd_same] at hg
      rw [upd_other _ (fun r => hn r.symm)]
      exact fun hg2 => key e he (fun r => hn r.symm) g hg2 hg
    · rw [upd_other _ e1] at hg
      by_cases e2 : e = c
      · subst e2
        rw [upd_same]
        exact key d hd e1 g hg
      · rw [upd_other _ e2]
        exact h.dis d e hd he hn g hg
  · by_cases e : d = c
    · subst e
      rw [upd_same] at hg
      rcases v.sub g hg with r | r
      · exact h.nb d hd g r
      · exact fun hg2 => by have := h.lt hg2; omega
    · rw [upd_other _ e] at hg
      exact h.nb d hd g hg
  · exact v.fr.mono (Nat.le_refl _) fun k _ hk hk2 => hk (mem_foot.2 (Or.inr ⟨c, hc, hk2⟩))
  · rcases mem_foot.1 hg with r | ⟨d, hd, r⟩
    · exact Or.inl (mem_foot.2 (Or.inl r))
    · by_cases e : d = c
      · subst e
        rw [upd_same] at r
        rcases v.sub g r with r | r
        · exact Or.inl (mem_foot.2 (Or.inr ⟨d, hd, r⟩))
        · exact Or.inr r
      · rw [upd_other _ e] at r
        exact Or.inl (mem_foot.2 (Or.inr ⟨d, hd, r⟩))
/-- The map is another one. -/
theorem TB.map {w' : World} (h : TB w t sb sg tb mb n N S K G W O m f) {m' : Nat} {f' : Int → Option Int} (q : MQ 3 w' mb m' f') (v : Fr w.heap.size [mb] w w') :
    TB w' t sb sg tb mb n N S K G W O m' f' ∧ Mv w w' (foot t sb sg tb mb n G) (foot t sb sg tb mb n G) := by
  have n1 := h.mp.blk h.st
  have n2 := h.mp.blk h.tab
  have n3 := h.mp.blk h.sl.sb
  have n4 := h.mp.blk h.sl.sg
  refine ⟨⟨h.st.keep v h.st.lt (by simp [n1.symm]), h.tab.keep v h.tab.lt (by simp [n2.symm]), h.sl.keep v ⟨h.sl.sb.lt, h.sl.sg.lt⟩ ⟨by simp [n3.symm], by simp [n4.symm]⟩, q, fun c hc => (h.ws c hc).keep v (Nat.le_refl _) fun g hg hg2 => h.nb c hc g hg (by simp at hg2; simp [hg2]), h.dis, h.nb, h.n1, h.n2⟩, v.mono (Nat.le_refl _) fun k _ hk hk2 => hk (mem_foot.2 (Or.inl (by simp at hk2; simp [hk2]))), fun g hg => Or.inl hg⟩
end
/-- Timers of n cores at the tick now; core c has K c; the blocks are F. -/
def TX (w : World) (t n : Nat) (now : Int) (K : Ks) (F : List Nat) : Prop :=
  ∃ sb sg tb mb S G W O, TB w t sb sg tb mb n (fun _ => now) S K G W O (cnt (oc n K)) (cq n K) ∧ Al n K ∧ (∀ i, 1 ≤ i → i ≤ 48 → O i = oc n K i) ∧ F = foot t sb sg tb mb n G
theorem TX.keep {B : Nat} {Z : List Nat} {w w' : World} {t n : Nat} {now : Int} {K : Ks} {F : List Nat} (h : TX w t n now K F) (k : Fr B Z w w') (hB : w.heap.size ≤ B) (hZ : ∀ g ∈ F, g ∉ Z) : TX w' t n now K F := by
  obtain ⟨sb, sg, tb, mb, S, G, W, O, b, a, o, rfl⟩ := h
  exact ⟨sb, sg, tb, mb, S, G, W, O, b.keep k hB hZ, a, o, rfl⟩
theorem TX.below {w w' : World} {t n : Nat} {now : Int} {K : Ks} {F : List Nat} (h : TX w t n now K F) (k : Below w.heap.size w w') : TX w' t n now K F := h.keep (Fr.of_below k) (Nat.le_refl _) (by simp)
theorem TX.lt {w : World} {t n : Nat} {now : Int} {K : Ks} {F : List Nat} (h : TX w t n now K F) {g : Nat} (hg : g ∈ F) : g < w.heap.size := by
  obtain ⟨sb, sg, tb, mb, S, G, W, O, b, a, o, rfl⟩ := h
  exact b.hi hg
theorem TX.al {w : World} {t n : Nat} {now : Int} {K : Ks} {F : List Nat} (h : TX w t n now K F) : Al n K := by
  obtain ⟨sb, sg, tb, mb, S, G, W, O, b, a, o, rfl⟩ := h
  exact a
theorem TX.n2 {w : World} {t n : Nat} {now : Int} {K : Ks} {F : List Nat} (h : TX w t n now K F) : 1 ≤ n ∧ n ≤ 64 := by
  obtain ⟨sb, sg, tb, mb, S, G, W, O, b, a, o, rfl⟩ := h
  exact ⟨b.n1, b.n2⟩
/-- The wheel of a core. -/
theorem on_yes {w : World} {t tb n : Nat} {S : Nat → Nat} (c : Nat) (hc : (c : Int) < n) (c1 : w.cell? ⟨t, 1, none⟩ = some (.slice (some ⟨tb, 0, none⟩) n n)) (cw : w.cell? ⟨tb, c, none⟩ = some (.pointer (some ⟨S c, 0, none⟩))) :
    Calls Tryz.prog 126 #[.pointer (some ⟨t, 0, none⟩), .int .i64 (c : Int)] w fun e w' => e = .returned (.tuple #[.pointer (some ⟨S c, 0, none⟩), .int .i64 0]) ∧ w' = w := by
  generalize S c = s at *
  go_enter Tryz.func126, Tryz.ntmps126
  go_wp2
  go_ret2
  exact ⟨rfl, rfl⟩
theorem on_no {w : World} {t tb n : Nat} (c : Int) (hc : ¬ isC n c) (c1 : w.cell? ⟨t, 1, none⟩ = some (.slice (some ⟨tb, 0, none⟩) n n)) :
    Calls Tryz.prog 126 #[.pointer (some ⟨t, 0, none⟩), .int .i64 c] w fun e w' => e = .returned (.tuple #[.pointer none, .int .i64 3]) ∧ w' = w := by
  unfold isC at hc
  by_cases q : c < 0
  · go_enter Tryz.func126, Tryz.ntmps126
    go_wp2
    go_ret2
    exact ⟨rfl, rfl⟩
  · have q2 : ¬ c < n := fun z => hc ⟨by omega, z⟩
    go_enter Tryz.func126, Tryz.ntmps126
    go_wp2
    go_ret2
    exact ⟨rfl, rfl⟩
end Go.Proofs.YtfdmcbcomknebaaGreatDoor.Tim
namespace Go.Proofs.YtfdmcbcomknebaaGreatDoor.Tim
open Slt
open Go.ChangeShapes Go.WideShapes Go.ChangeAt Go.RowKit
open Wm Zm Sl
end Go.Proofs.YtfdmcbcomknebaaGreatDoor.Tim
namespace Go.Proofs.YtfdmcbcomknebaaGreatDoor.Tim
open Slt
open Go.ChangeShapes Go.WideShapes Go.ChangeAt Go.RowKit
open Wm Zm Sl
/-- What Arm answers. -/
def arN (n : Nat) (K : Ks) (c d : Int) : Int := if isC n c then (if isT d then tN (ff 48 (oc n K)) else 0) else 0
def arE (n : Nat) (K : Ks) (c d : Int) : Int := if isC n c then (if isT d then tE (ff 48 (oc n K)) else 2) else 3
def arL (n : Nat) (K : Ks) (c d : Int) : Ks := if isC n c then (if isT d then arK n K c.toNat d else K) else K
end Go.Proofs.YtfdmcbcomknebaaGreatDoor.Tim
namespace Go.Proofs.YtfdmcbcomknebaaGreatDoor.Tim
open Slt
open Go.ChangeShapes Go.WideShapes Go.ChangeAt Go.RowKit
open Wm Zm Sl
theorem Tryz.infoPW : (Tryz.prog.info? 172).map (fun i => (i.zero, i.size, i.bytes)) = some (some (.pointer none), 1, 8) := by kernel_rfl
/-- The table while wheels are made: the first k are there. -/
def wtab (S : Nat → Nat) (n k : Nat) : List Value := (List.range n).map fun c => if c < k then .pointer (some ⟨S c, 0, none⟩) else .pointer none
theorem wtab_get (S : Nat → Nat) (n k c : Nat) (h : c < n) : (wtab S n k)[c]? = some (if c < k then .pointer (some ⟨S c, 0, none⟩) else .pointer none) := by
  unfold wtab
  rw [List.getElem?_map, List.getElem?_range h]
  rfl
theorem wtab_set (S : Nat → Nat) (n k s : Nat) (_ : k < n) : (wtab S n k).set k (.pointer (some ⟨s, 0, none⟩)) = wtab (upd S k s) n (k + 1) := by
  apply List.ext_getElem?
  intro c
  by_cases hc : c < n
  · rw [wtab_get _ _ _ _ hc, List.getElem?_set]
    by_cases e : k = c
    · subst e
      rw [if_pos rfl, if_pos (by simpa [wtab] using hc), if_pos (by omega), upd_same]
    · rw [if_neg e, wtab_get _ _ _ _ hc, upd_other _ (fun q => e q.symm)]
      by_cases q : c < k
      · rw [if_pos q, if_pos (by omega)]
      · rw [if_neg q, if_neg (by omega)]
  · rw [List.getElem?_eq_none (by simp [wtab]; omega), List.getElem?_eq_none (by simp [wtab]; omega)]
theorem wtab_all (S : Nat → Nat) (n : Nat) : wtab S n n = (List.range n).map fun c => .pointer (some ⟨S c, 0, none⟩) := by
  unfold wtab
  apply List.map_congr_left
  intro c hc
  rw [if_pos (List.mem_range.1 hc)]
theorem made_wptr (S : Nat → Nat) (n : Nat) : madeCells #[Value.pointer none] n = (wtab S n 0).toArray := by
  apply Array.ext
  · simp [size_madeCells, wtab]
  · intro i h1 h2
    simp [madeCells, wtab, Nat.mod_one]
structure TN (w wr : World) (t sb sg tb mb n k : Nat) (S : Nat → Nat) : Prop where
  bel : Below w.heap.size w wr
  lo : ∀ g ∈ [t, sb, sg, tb, mb], w.heap.size ≤ g
  st : Blk wr t [.pointer (some ⟨sb, 0, none⟩), .slice (some ⟨tb, 0, none⟩) n n, .map (some mb)] 171
  tab : Blk wr tb (wtab S n k) 172
  sl : ∃ W, T wr sb sg 48 W fun _ => false
  mp : MQ 3 wr mb 0 fun _ => none
  ws : ∀ c, c < k → WW wr (S c) 0 [] [S c]
  dis : ∀ c d, c < k → d < k → c ≠ d → S c ≠ S d
  nb : ∀ c, c < k → S c ∉ [t, sb, sg, tb, mb] ∧ w.heap.size ≤ S c
theorem TN.lt {w wr : World} {t sb sg tb mb n k : Nat} {S : Nat → Nat} (h : TN w wr t sb sg tb mb n k S) {g : Nat} (hg : g ∈ [t, sb, sg, tb, mb]) : g < wr.heap.size := by
  obtain ⟨W, s⟩ := h.sl
  simp only [List.mem_cons, List.not_mem_nil, or_false] at hg
  rcases hg with rfl | rfl | rfl | rfl | rfl
  · exact h.st.lt
  · exact s.sb.lt
  · exact s.sg.lt
  · exact h.tab.lt
  · exact h.mp.lt
theorem tn_step {w wr w1 : World} {t sb sg tb mb n k : Nat} {S : Nat → Nat} (h : TN w wr t sb sg tb mb n k S) (hk : k < n) (q : WW w1 wr.heap.size 0 [] [wr.heap.size]) (f : Below wr.heap.size wr w1) :
    TN w (w1.setCell ⟨tb, k, none⟩ (.pointer (some ⟨wr.heap.size, 0, none⟩))) t sb sg tb mb n (k + 1) (upd S k wr.heap.size) := by
  obtain ⟨W, s⟩ := h.sl
  have hw := h.bel.size
  have hz := f.size
  have f1 := Fr.of_below f
  have n1 : t ≠ tb := h.st.ne h.tab (by decide)
  have n2 : sb ≠ tb := s.sb.ne h.tab (by decide)
  have n3 : sg ≠ tb := s.sg.ne h.tab (by decide)
  have n4 : mb ≠ tb := h.mp.blk h.tab
  have fs : Fr w1.heap.size [tb] w1 (w1.setCell ⟨tb, k, none⟩ (.pointer (some ⟨wr.heap.size, 0, none⟩))) := (Fr.refl _ _ _).setCell (Or.inr (by simp)) _
  have ltb := h.lt (g := tb) (by simp)
  have mem1 := h.lo tb (by simp)
  refine ⟨(h.bel.trans (f.mono hw)).setCell (p := ⟨tb, k, none⟩) mem1 _, h.lo, (h.st.keep f1 h.st.lt (by simp)).other (p := ⟨tb, k, none⟩) n1 _, ?_, ⟨W, ?_⟩, ?_, fun c hc => ?_, fun c d hc hd hn => ?_, fun c hc => ?_⟩
  · rw [← wtab_set _ _ _ _ hk]
    exact (h.tab.keep f1 h.tab.lt (by simp)).set k _
  · have s1 := s.keep f1 ⟨s.sb.lt, s.sg.lt⟩ (by simp)
    exact s1.keep fs ⟨s1.sb.lt, s1.sg.lt⟩ ⟨by simp [n2], by simp [n3]⟩
  · have m1 := h.mp.keep f1 h.mp.lt (by simp)
    exact m1.keep fs m1.lt (by simp [n4])
  · by_cases e : c = k
    · subst e
      rw [upd_same]
      exact q.keep fs (Nat.le_refl _) (by simp; omega)
    · rw [upd_other _ e]
      have := (h.nb c (by omega)).1
      simp only [List.mem_cons, List.not_mem_nil, or_false, not_or] at this
      exact ((h.ws c (by omega)).below f).keep fs (Nat.le_refl _) (by simp; exact this.2.2.2.1)
  · have key : ∀ c, c < k → S c ≠ wr.heap.size := fun c hc => by
      have := (h.ws c hc).lt (g := S c) (by simp)
      omega
    by_cases e1 : c = k
    · subst e1
      rw [upd_same, upd_other _ (fun z => hn z.symm)]
      exact fun z => key d (by omega) z.symm
    · rw [upd_other _ e1]
      by_cases e2 : d = k
      · subst e2
        rw [upd_same]
        exact key c (by omega)
      · rw [upd_other _ e2]
        exact h.dis c d (by omega) (by omega) hn
  · by_cases e : c = k
    · subst e
      rw [upd_same]
      exact ⟨fun hm => by have := h.lt hm; omega, hw⟩
    · rw [upd_other _ e]
      exact h.nb c (by omega)
theorem tn_end {w wr : World} {t sb sg tb mb n : Nat} {S : Nat → Nat} (h : TN w wr t sb sg tb mb n n S) (h1 : 1 ≤ n) (h2 : n ≤ 64) :
    ∃ F, TX wr t n 0 (fun _ => []) F ∧ (∀ g ∈ F, w.heap.size ≤ g) ∧ Below w.heap.size w wr := by
  obtain ⟨W, s⟩ := h.sl
  have e1 : oc n (fun _ => []) = fun _ => false := funext fun i => by unfold oc; rw [onc_nil]; rfl
  have e2 : cq n (fun _ => []) = fun _ => none := funext fun i => cq_none.2 (onc_nil n i)
  have e3 : cnt (fun _ => false) = 0 := by decide
  refine ⟨foot t sb sg tb mb n fun c => [S c], ⟨sb, sg, tb, mb, S, fun c => [S c], W, fun _ => false, ⟨h.st, by rw [← wtab_all]; exact h.tab, s, by rw [e1, e2, e3]; exact h.mp, h.ws, fun c d hc hd hn g hg => ?_, fun c hc g hg => ?_, h1, h2⟩, al_nil n, fun i _ _ => by rw [e1], rfl⟩, fun g hg => ?_, h.bel⟩
  · simp at hg ⊢
    rw [hg]
    exact h.dis c d hc hd hn
  · simp only [List.mem_singleton] at hg
    rw [hg]
    exact (h.nb c hc).1
  · rcases mem_foot.1 hg with q | ⟨c, hc, q⟩
    · exact h.lo g q
    · simp only [List.mem_singleton] at q
      rw [q]
      exact (h.nb c hc).2
set_option maxRecDepth 100000 in
set_option maxHeartbeats 1000000 in
theorem tnew_any (n : Nat) (w : World) (h1 : (1 : Int) ≤ n) (h2 : (n : Int) ≤ 64) :
    Calls Tryz.prog 32 #[.int .i64 (n : Int)] w fun e w' => ∃ t, e = .returned (.tuple #[.pointer (some ⟨t, 0, none⟩), .int .i64 0]) ∧ ∃ F, TX w' t n 0 (fun _ => []) F ∧ (∀ g ∈ F, w.heap.size ≤ g) ∧ Below w.heap.size w w' := by
  have NS : Hid (∀ _ : Unit, _) := fun _ => new_any 48 w (by decide) (by decide)
  have C : Hid (∀ w, _) := fun w => wnew_any 0 w (by decide)
  have hmk := run_make_row' (P := Tryz.prog) 169 172 (.pointer none) 8 Tryz.underlying169 Tryz.infoPW rfl .i64 .i64 n (by omega) (by omega)
  rw [made_wptr (fun _ => 0) n] at hmk
  have hmm := @run_makeMap Tryz.prog
  obtain ⟨T0, hT⟩ : ∃ T0, wtab (fun _ => 0) n 0 = T0 := ⟨_, rfl⟩
  have HT : Hid (wtab (fun _ => 0) n 0 = T0) := hT
  rw [hT] at hmk
  clear hT
  go_enter Tryz.func32, Tryz.ntmps32
  go_wp2_with fail
  refine (NS.out ()).mono ?_
  rintro e w1 ⟨rfl, ⟨W, s⟩, f1⟩
  have hs := s.sb.lt
  have hg := s.sg.lt
  have P0 : Hid (TN w (((w1.alloc (.cells T0.toArray 172)).alloc (.map #[] 0)).alloc (.cells #[.pointer (some ⟨w.heap.size + 1, 0, none⟩), .slice (some ⟨w1.heap.size, 0, none⟩) n n, .map (some (w1.heap.size + 1))] 171)) (w1.heap.size + 2) (w.heap.size + 1) w.heap.size w1.heap.size (w1.heap.size + 1) n 0 fun _ => 0) := by
    have b0 : Below w.heap.size w w1 := f1.below (by simp)
    refine ⟨((b0.alloc (by omega) _).alloc (by simp; omega) _).alloc (by simp; omega) _, ?_, ?_, ?_, ⟨W, ?_⟩, ?_, fun c hc => by omega, fun c d hc => by omega, fun c hc => by omega⟩
    · intro g hg
      simp only [List.mem_cons, List.not_mem_nil, or_false] at hg
      omega
    · have := Blk.new ((w1.alloc (.cells T0.toArray 172)).alloc (.map #[] 0)) [.pointer (some ⟨w.heap.size + 1, 0, none⟩), .slice (some ⟨w1.heap.size, 0, none⟩) n n, .map (some (w1.heap.size + 1))] 171
      rwa [World.size_alloc, World.size_alloc] at this
    · rw [HT.out]
      exact ((Blk.new w1 _ _).alloc _).alloc _
    · exact ⟨((s.sb.alloc _).alloc _).alloc _, ((s.sg.alloc _).alloc _).alloc _, s.wd⟩
    · have m0 := mq_new (te := 3) (w1.alloc (.cells T0.toArray 172))
      rw [World.size_alloc] at m0
      exact m0.keep ((Fr.refl _ [] _).alloc (Nat.le_refl _) _) (by simp) (by simp)
  clear s f1 hs hg NS
  go_wp2
  generalize w1.heap.size + 2 = t at *
  generalize w1.heap.size + 1 = mb at *
  generalize w1.heap.size = tb at *
  generalize w.heap.size + 1 = sb at *
  go_loopw [34] (fun i wr => ∃ (k : Nat) (S : Nat → Nat), (k : Int) ≤ n ∧ i = .int .i64 (k : Int) ∧ TN w wr t sb w.heap.size tb mb n k S) (fun i _ => n - (intOf i).toNat)
  case atStart => exact ⟨0, _, by omega, rfl, P0.out⟩
  case round =>
    obtain ⟨k, S, hk, rfl, P⟩ := hrel
    by_cases c : (k : Int) < n
    · have C1 : Hid (∀ _ : Unit, _) := fun _ => C.out wr
      have ST : Hid (∀ w1 : World, _ → _ → _) := fun w1 q f => tn_step (w1 := w1) P (by omega) q f
      have cb : Hid (∀ w1 : World, Below wr.heap.size wr w1 → w1.cell? ⟨tb, k, none⟩ = some (.pointer none) ∧ w1.frozen? ⟨tb, k, none⟩ = false ∧ w1.cell? ⟨t, 1, none⟩ = some (.slice (some ⟨tb, 0, none⟩) n n)) := fun w1 f => by
        have b := P.tab.keep (Fr.of_below f) P.tab.lt (by simp)
        have b2 := P.st.keep (Fr.of_below f) P.st.lt (by simp)
        exact ⟨by rw [b.cell, wtab_get _ _ _ _ (by omega), if_neg (by omega)], b.free k, b2.cell 1⟩
      clear P P0
      go_wp2_with fail
      refine (C1.out ()).mono ?_
      rintro e w1 ⟨rfl, q, f⟩
      obtain ⟨c1, f1, s1⟩ := cb.out w1 f
      have N2 : Hid _ := ST.out w1 q f
      clear q f
      go_wp2
      go_roundw
      case rel => exact ⟨k + 1, _, by omega, by go_num, N2.out⟩
      case measure => simp [intOf]; omega
    · obtain rfl : k = n := by omega
      have e : Hid _ := tn_end P (by omega) (by omega)
      clear P P0
      go_wp2
      go_ret2
      exact ⟨t, rfl, e.out⟩
end Go.Proofs.YtfdmcbcomknebaaGreatDoor.Tim
namespace Go.Proofs.YtfdmcbcomknebaaGreatDoor.Tim
open Slt
open Go.ChangeShapes Go.WideShapes Go.ChangeAt Go.RowKit
open Wm Zm Sl
end Go.Proofs.YtfdmcbcomknebaaGreatDoor.Tim
namespace Go.Proofs.YtfdmcbcomknebaaGreatDoor.Tim
open Slt
open Go.ChangeShapes Go.WideShapes Go.ChangeAt Go.RowKit
open Wm Zm Sl
def txR (n : Nat) (now : Int) (K : Ks) (c : Int) : Bool := if isC n c then decide (duL now (K c.toNat) ≠ []) else false
def txL (n : Nat) (K : Ks) (c : Int) : List Int := if isC n c then ids (K c.toNat) else []
theorem core_of {n : Nat} {c : Int} (h : isC n c) : ∃ k : Nat, c = k ∧ k < n := ⟨c.toNat, by have := h.1; omega, by have := h.1; have := h.2; omega⟩
theorem tlist_any {w : World} {t n : Nat} {now : Int} {K : Ks} {F : List Nat} (c : Int) (h : TX w t n now K F) :
    Calls Tryz.prog 106 #[.pointer (some ⟨t, 0, none⟩), .int .i64 c] w fun e w' => ∃ v, e = .returned v ∧ Gt w w' v (txL n K c) := by
  obtain ⟨sb, sg, tb, mb, S, G, W, O, b, a, o, rfl⟩ := h
  unfold txL
  by_cases hc : isC n c
  · rw [if_pos hc]
    obtain ⟨k, rfl, hk⟩ := core_of hc
    rw [Int.toNat_natCast]
    have ON : Hid (∀ _ : Unit, _) := fun _ => on_yes (S := S) k (by omega) b.c1 (b.cw hk)
    have NX : Hid (∀ _ : Unit, _) := fun _ => list_any (b.ws k hk) (Nat.le_trans (a.len hk) (by omega))
    generalize S k = s at *
    generalize ids (K k) = D at *
    clear b a o hc hk
    go_enter Tryz.func106, Tryz.ntmps106
    go_wp2_with fail
    refine (ON.out ()).mono ?_
    rintro e w' ⟨rfl, rfl⟩
    go_wp2_with fail
    refine (NX.out ()).mono ?_
    rintro e w1 ⟨v, rfl, g⟩
    obtain ⟨p, c', rfl⟩ := own_shape g.own
    have GG : Hid (Gt w' w1 _ _) := g
    clear g
    go_wp2
    go_ret
    exact ⟨_, rfl, GG.out⟩
  · rw [if_neg hc]
    have ON : Hid (∀ _ : Unit, _) := fun _ => on_no c hc b.c1
    have NX : Hid (∀ w, _) := fun w => wnil_list w
    clear b a o hc
    go_enter Tryz.func106, Tryz.ntmps106
    go_wp2_with fail
    refine (ON.out ()).mono ?_
    rintro e w' ⟨rfl, rfl⟩
    go_wp2_with fail
    refine (NX.out _).mono ?_
    rintro e w' ⟨rfl, rfl⟩
    go_wp2
    go_ret
    exact ⟨_, rfl, gt_start _⟩
end Go.Proofs.YtfdmcbcomknebaaGreatDoor.Tim
namespace Go.Proofs.YtfdmcbcomknebaaGreatDoor.Tim
open Slt
open Go.ChangeShapes Go.WideShapes Go.ChangeAt Go.RowKit
open Wm Zm Sl
theorem WW.tks {w : World} {s : Nat} {now : Int} {L : List It} {F : List Nat} (h : WW w s now L F) : Tks L := by
  obtain ⟨mp, V, h, rfl⟩ := h
  exact h.tks
/-- What is left when one moves. -/
def mvK (K : Ks) (f t : Nat) (x : It) : Ks := up (up K t (ins x (K t))) f (rid x.2 (K f))
def moE (n : Nat) (K : Ks) (c d : Int) : Int := if isC n c ∧ isC n d then (if c = d then 2 else match K c.toNat with | [] => 12 | _ :: _ => 0) else 3
def moK (n : Nat) (K : Ks) (c d : Int) : Ks := if isC n c ∧ isC n d then (if c = d then K else match K c.toNat with | [] => K | x :: _ => mvK K c.toNat d.toNat x) else K
/-- What Fire answers and leaves. -/
def fxN (n : Nat) (now : Int) (K : Ks) (c : Int) : Int := if isC n c then fiN now (K c.toNat) else 0
def fxK (n : Nat) (now : Int) (K : Ks) (c : Int) : Ks := if isC n c then fiK now K c.toNat else K
end Go.Proofs.YtfdmcbcomknebaaGreatDoor.Tim
