/- The texts Wm Wb Wc Wd We Wf Wg Wh Wi Wj Wk Wl Wn Wo Wp Wr Zm Za Zb Zc Zd Ze Zf Zg of one layer, laid together. -/
import Derived.Test.YtfipiifickdeiaaGreatDoorRows
import Derived.Test.YtfipiifickdeiaaGreatDoorXs
import Derived.Test.YtfipiifickdeiaaGreatDoorXl
import Derived.Lib.BitFns
import Derived.Lib.AppendZerosOnto
import Derived.Lib.Overlaps
import Derived.Laws.CopyRow
import Derived.WalkKit
import Derived.ProofKit
import Derived.OpenShut
import Derived.BigQuiet
import Derived.Deep.RegionLaw
import Derived.Laws.Externs
import Derived.Lib.JoinLaws
import Derived.ArgAppend
import Derived.Deep.RegionHeld3
import Derived.Maps.OwnSet
import Derived.Lib.Zigzag
import Derived.WalkSpells
import Derived.Lib.SliceRun
import Derived.WalkMore
namespace Go.Proofs.YtfipiifickdeiaaGreatDoor.Wm
open Slt
/-- How high two ticks part. -/
def lv (a b : Nat) : Nat := (Lib.bitLen (a ^^^ b) - 1) / 3
theorem bl_lt : ∀ (k x : Nat), x < 2 ^ k → k ≤ 64 → Lib.bitLen x ≤ k
  | 0, x, h, _ => by
    obtain rfl : x = 0 := by omega
    exact Nat.le_refl _
  | k + 1, x, h, hk => by
    by_cases e : x = 0
    · subst e
      exact Nat.zero_le _
    · have h64 : x < 2 ^ 64 := Nat.lt_of_lt_of_le h (Nat.pow_le_pow_right (by decide) hk)
      rw [Lib.bitLen_half x e h64]
      have := bl_lt k (x / 2) (by rw [Nat.pow_succ] at h; omega) (by omega)
      omega
theorem bl_ge (k x : Nat) (h : 2 ^ k ≤ x) (hx : x < 2 ^ 64) : k + 1 ≤ Lib.bitLen x := by
  have e0 : x / 2 ^ k ≠ 0 := by
    have := Nat.div_pos h (Nat.two_pow_pos k)
    omega
  have l0 : x / 2 ^ k < 2 ^ 64 := Nat.lt_of_le_of_lt (Nat.div_le_self _ _) hx
  rw [Lib.bitLen_shift k x h hx, Lib.bitLen_half _ e0 l0]
  omega
theorem p8 (k : Nat) : 8 ^ k = 2 ^ (3 * k) := by rw [Nat.pow_mul]
theorem same8 (a b k : Nat) : a / 8 ^ k = b / 8 ^ k ↔ (a ^^^ b) < 8 ^ k := by
  rw [p8]
  have e := @Nat.xor_div_two_pow a b (3 * k)
  constructor
  · intro h
    rw [h, Nat.xor_self] at e
    have := (Nat.div_eq_zero_iff).1 e
    rcases this with h | h
    · have := Nat.two_pow_pos (3 * k)
      omega
    · exact h
  · intro h
    rw [Nat.div_eq_of_lt h] at e
    have e2 := congrArg (fun z => z ^^^ (b / 2 ^ (3 * k))) e
    simp only [Nat.zero_xor, Nat.xor_assoc, Nat.xor_self, Nat.xor_zero] at e2
    exact e2.symm
/-- Ticks are below 2^61. -/
def tk (a : Nat) : Prop := a ≤ 1152921504606846976
theorem xor_small {a b : Nat} (ha : tk a) (hb : tk b) : a ^^^ b < 2 ^ 61 := Nat.xor_lt_two_pow (by unfold tk at ha; omega) (by unfold tk at hb; omega)
theorem lv_hi {a b : Nat} (ha : tk a) (hb : tk b) : a / 8 ^ (lv a b + 1) = b / 8 ^ (lv a b + 1) := by
  rw [same8, p8]
  have hx := xor_small ha hb
  unfold lv
  refine Nat.not_le.1 fun h => ?_
  have := bl_ge _ _ h (Nat.lt_trans hx (by decide))
  omega
theorem lv_lo {a b : Nat} (ha : tk a) (hb : tk b) (h : lv a b ≠ 0) : a / 8 ^ lv a b ≠ b / 8 ^ lv a b := by
  rw [Ne, same8, p8]
  have hx := xor_small ha hb
  intro h2
  have l : 3 * lv a b ≤ 64 := by
    have := bl_lt 61 _ hx (by decide)
    unfold lv
    omega
  have := bl_lt _ _ h2 l
  unfold lv at *
  omega
theorem lv_le {a b : Nat} (ha : tk a) (hb : tk b) : lv a b ≤ 20 := by
  have := bl_lt 61 _ (xor_small ha hb) (by decide)
  unfold lv
  omega
theorem up8 {a b : Nat} {k m : Nat} (h : a / 8 ^ k = b / 8 ^ k) (hk : k ≤ m) : a / 8 ^ m = b / 8 ^ m := by
  obtain ⟨d, rfl⟩ := Nat.exists_eq_add_of_le hk
  rw [Nat.pow_add, ← Nat.div_div_eq_div_mul, ← Nat.div_div_eq_div_mul, h]
theorem div8 (a k : Nat) : a / 8 ^ k / 8 = a / 8 ^ (k + 1) := by rw [Nat.div_div_eq_div_mul, Nat.pow_succ]
/-- The room of a tick, as the wheel's tick is: 0 is what is due. -/
def rn (a d : Nat) : Nat := if d ≤ a then 0 else 1 + 8 * lv a d + d / 8 ^ lv a d % 8
theorem rn_lt {a d : Nat} (ha : tk a) (hd : tk d) : rn a d < 169 := by
  unfold rn
  split
  · omega
  · have := lv_le ha hd
    have := Nat.mod_lt (d / 8 ^ lv a d) (show 0 < 8 by decide)
    omega
theorem rn_due (a d : Nat) (h : d ≤ a) : rn a d = 0 := if_pos h
theorem rn_not (a d : Nat) (h : a < d) : rn a d = 1 + 8 * lv a d + d / 8 ^ lv a d % 8 := if_neg (by omega)
theorem rn_mono {a d e : Nat} (ha : tk a) (hd : tk d) (he : tk e) (h : d ≤ e) : rn a d ≤ rn a e := by
  by_cases c : d ≤ a
  · rw [rn_due a d c]
    exact Nat.zero_le _
  rw [rn_not a d (by omega), rn_not a e (by omega)]
  have dd : ∀ k, d / 8 ^ k ≤ e / 8 ^ k := fun k => Nat.div_le_div_right h
  have ad : ∀ k, a / 8 ^ k ≤ d / 8 ^ k := fun k => Nat.div_le_div_right (by omega)
  have l1 := lv_hi ha hd
  have l2 := lv_hi ha he
  have m1 := Nat.mod_lt (d / 8 ^ lv a d) (show 0 < 8 by decide)
  rcases Nat.lt_trichotomy (lv a d) (lv a e) with q | q | q
  · omega
  · rw [← q] at l2 ⊢
    have := dd (lv a d)
    rw [← div8 a, ← div8 d] at l1
    rw [← div8 a, ← div8 e] at l2
    omega
  · have x := up8 l2 (show lv a e + 1 ≤ lv a d by omega)
    have y := lv_lo ha hd (by omega)
    have := dd (lv a d)
    have := ad (lv a d)
    omega
/- Things in order. -/
/-- A thing: its tick, its number. -/
abbrev It := Int × Int
def lt (x y : It) : Prop := x.1 < y.1 ∨ (x.1 = y.1 ∧ x.2 < y.2)
instance (x y : It) : Decidable (lt x y) := by unfold lt; infer_instance
def Srt (L : List It) : Prop := L.Pairwise lt
/-- What comes of comparing two things. -/
def cm (x y : It) : Int := if x.1 < y.1 then -1 else if y.1 < x.1 then 1 else if x.2 < y.2 then -1 else if y.2 < x.2 then 1 else 0
theorem cm_lt (x y : It) : cm x y < 0 ↔ lt x y := by
  unfold cm lt
  repeat' split
  all_goals omega
theorem lt_trans {x y z : It} (h : lt x y) (k : lt y z) : lt x z := by unfold lt at *; omega
theorem lt_irrefl (x : It) : ¬ lt x x := by unfold lt; omega
/-- How many come ahead of x. -/
def at_ (L : List It) (x : It) : Nat := (L.filter fun y => decide (lt y x)).length
/-- x put in; things that are not x. -/
def ins (x : It) (L : List It) : List It := L.filter (fun y => decide (lt y x)) ++ x :: L.filter (fun y => decide (lt x y))
def rid (i : Int) (L : List It) : List It := L.filter fun y => decide (y.2 ≠ i)
theorem filter_split : ∀ {L : List It} (_ : Srt L) (x : It), L = L.filter (fun y => decide (lt y x)) ++ L.filter (fun y => !decide (lt y x))
  | [], _, _ => rfl
  | y :: L, h, x => by
    have h' := List.pairwise_cons.1 h
    by_cases e : lt y x
    · rw [List.filter_cons_of_pos (by simpa using e), List.filter_cons_of_neg (by simpa using e), List.cons_append, ← filter_split h'.2 x]
    · rw [List.filter_cons_of_neg (by simpa using e), List.filter_cons_of_pos (by simpa using e)]
      have e1 : L.filter (fun y => decide (lt y x)) = [] := List.filter_eq_nil_iff.2 fun z hz g => e (lt_trans (h'.1 z hz) (by simpa using g))
      have e2 : L.filter (fun y => !decide (lt y x)) = L := List.filter_eq_self.2 fun z hz => by simp; exact fun g => e (lt_trans (h'.1 z hz) g)
      rw [e1, e2]
      rfl
theorem take_at {L : List It} (h : Srt L) (x : It) : L.take (at_ L x) = L.filter fun y => decide (lt y x) := by
  have e := congrArg (List.take (at_ L x)) (filter_split h x)
  rw [e]
  exact List.take_left' rfl
theorem drop_at {L : List It} (h : Srt L) (x : It) : L.drop (at_ L x) = L.filter fun y => !decide (lt y x) := by
  have e := congrArg (List.drop (at_ L x)) (filter_split h x)
  rw [e]
  exact List.drop_left' rfl
theorem lt_total {x y : It} (h : ¬ lt y x) (n : y ≠ x) : lt x y := by
  obtain ⟨a, b⟩ := x
  obtain ⟨c, d⟩ := y
  rw [Ne, Prod.mk.injEq] at n
  unfold lt at *
  dsimp only at *
  omega
theorem lt_asymm {x y : It} (h : lt x y) : ¬ lt y x := by unfold lt at *; omega
theorem ge_filter {L : List It} {x : It} (h : x ∉ L) : L.filter (fun y => !decide (lt y x)) = L.filter fun y => decide (lt x y) := by
  refine List.filter_congr fun y hy => ?_
  have ne : y ≠ x := fun e => h (e ▸ hy)
  by_cases e : lt y x
  · simp [e, lt_asymm e]
  · simp [e, lt_total e ne]
theorem ins_is {L : List It} (h : Srt L) {x : It} (hx : x ∉ L) : ins x L = L.take (at_ L x) ++ x :: L.drop (at_ L x) := by
  rw [take_at h, drop_at h, ge_filter hx]
  rfl
theorem at_le (L : List It) (x : It) : at_ L x ≤ L.length := List.length_filter_le _ _
theorem srt_filter {L : List It} (h : Srt L) (p : It → Bool) : Srt (L.filter p) := List.Pairwise.filter p h
theorem srt_ins {L : List It} (h : Srt L) (x : It) : Srt (ins x L) := by
  unfold ins Srt
  rw [List.pairwise_append, List.pairwise_cons]
  refine ⟨srt_filter h _, ⟨fun y hy => by simpa using (List.mem_filter.1 hy).2, srt_filter h _⟩, fun a ha b hb => ?_⟩
  have h1 : lt a x := by simpa using (List.mem_filter.1 ha).2
  rcases List.mem_cons.1 hb with rfl | hb
  · exact h1
  · exact lt_trans h1 (by simpa using (List.mem_filter.1 hb).2)
theorem ins_filter {L : List It} (x : It) (p : It → Bool) : (ins x L).filter p = if p x = true then ins x (L.filter p) else (L.filter p).filter (fun y => decide (lt y x)) ++ (L.filter p).filter fun y => decide (lt x y) := by
  unfold ins
  rw [List.filter_append, List.filter_cons]
  simp only [List.filter_filter]
  have e : ∀ q : It → Bool, (fun a => p a && q a) = fun a => q a && p a := fun q => by funext a; rw [Bool.and_comm]
  rw [e, e]
  split <;> rfl
theorem filter_both {L : List It} (h : Srt L) {x : It} (hx : x ∉ L) : L.filter (fun y => decide (lt y x)) ++ L.filter (fun y => decide (lt x y)) = L := by
  rw [← ge_filter hx, ← filter_split h]
theorem mem_ins {L : List It} {x y : It} (hx : x ∉ L) : y ∈ ins x L ↔ y = x ∨ y ∈ L := by
  unfold ins
  rw [List.mem_append, List.mem_cons, List.mem_filter, List.mem_filter]
  constructor
  · rintro (h | h | h)
    · exact Or.inr h.1
    · exact Or.inl h
    · exact Or.inr h.1
  · rintro (h | h)
    · exact Or.inr (Or.inl h)
    · by_cases e : lt y x
      · exact Or.inl ⟨h, by simpa using e⟩
      · exact Or.inr (Or.inr ⟨h, by simpa using lt_total e (fun q => hx (q ▸ h))⟩)
theorem ins_len {L : List It} (h : Srt L) {x : It} (hx : x ∉ L) : (ins x L).length = L.length + 1 := by
  have := congrArg List.length (filter_both h hx)
  rw [List.length_append] at this
  unfold ins
  rw [List.length_append, List.length_cons]
  omega
/-- The thing at its place. -/
theorem at_get {L : List It} (h : Srt L) {x : It} (hx : x ∈ L) : L = L.take (at_ L x) ++ x :: L.drop (at_ L x + 1) := by
  have e := filter_split h x
  have hm : x ∈ L.filter (fun y => !decide (lt y x)) := List.mem_filter.2 ⟨hx, by simpa using lt_irrefl x⟩
  have hs := srt_filter h (fun y => !decide (lt y x))
  rw [← List.drop_drop, take_at h, drop_at h]
  cases q : L.filter (fun y => !decide (lt y x)) with
  | nil => rw [q] at hm; cases hm
  | cons z M =>
    rw [q] at hm hs e
    have hz : ¬ lt z x := by
      have : z ∈ L.filter (fun y => !decide (lt y x)) := by rw [q]; exact List.mem_cons_self
      simpa using (List.mem_filter.1 this).2
    obtain rfl : x = z := by
      rcases List.mem_cons.1 hm with g | g
      · exact g
      · exact absurd ((List.pairwise_cons.1 hs).1 x g) hz
    simpa using e
theorem at_lt {L : List It} (h : Srt L) {x : It} (hx : x ∈ L) : at_ L x < L.length := by
  have e := congrArg List.length (at_get h hx)
  rw [List.length_append, List.length_cons, List.length_take, List.length_drop] at e
  have := at_le L x
  omega
/-- Numbers are each once. -/
def Uni (L : List It) : Prop := L.Pairwise fun x y => x.2 ≠ y.2
theorem uni_filter {L : List It} (h : Uni L) (p : It → Bool) : Uni (L.filter p) := List.Pairwise.filter p h
theorem uni_eq : ∀ {L : List It} (_ : Uni L) {x y : It}, x ∈ L → y ∈ L → x.2 = y.2 → x = y
  | [], _, _, _, hx, _, _ => by cases hx
  | z :: L, h, x, y, hx, hy, e => by
    have h' := List.pairwise_cons.1 h
    rcases List.mem_cons.1 hx with h1 | h1
    · rcases List.mem_cons.1 hy with h2 | h2
      · rw [h1, h2]
      · rw [h1] at e
        exact absurd e (h'.1 y h2)
    · rcases List.mem_cons.1 hy with h2 | h2
      · rw [h2] at e
        exact absurd e.symm (h'.1 x h1)
      · exact uni_eq h'.2 h1 h2 e
theorem rid_is {L : List It} (h : Srt L) (u : Uni L) {x : It} (hx : x ∈ L) : rid x.2 L = L.take (at_ L x) ++ L.drop (at_ L x + 1) := by
  have e := at_get h hx
  have u2 := u
  rw [e] at u2
  unfold Uni at u2
  rw [List.pairwise_append, List.pairwise_cons] at u2
  have f := congrArg (rid x.2) e
  rw [f]
  unfold rid
  rw [List.filter_append, List.filter_cons_of_neg (by simp)]
  congr 1
  · exact List.filter_eq_self.2 fun z hz => by simpa using u2.2.2 z hz x List.mem_cons_self
  · exact List.filter_eq_self.2 fun z hz => by simpa using fun g => u2.2.1.1 z hz g.symm
theorem rid_none {L : List It} {i : Int} (h : ∀ x ∈ L, x.2 ≠ i) : rid i L = L := List.filter_eq_self.2 fun z hz => by simpa using h z hz
theorem srt_rid {L : List It} (h : Srt L) (i : Int) : Srt (rid i L) := srt_filter h _
theorem uni_rid {L : List It} (h : Uni L) (i : Int) : Uni (rid i L) := uni_filter h _
theorem mem_rid {L : List It} {i : Int} {x : It} : x ∈ rid i L ↔ x ∈ L ∧ x.2 ≠ i := by
  unfold rid
  rw [List.mem_filter]
  simp
theorem rid_len {L : List It} (h : Srt L) (u : Uni L) {x : It} (hx : x ∈ L) : (rid x.2 L).length + 1 = L.length := by
  have l := at_lt h hx
  rw [rid_is h u hx, List.length_append, List.length_take, List.length_drop]
  omega
theorem uni_ins {L : List It} (u : Uni L) {x : It} (hx : ∀ y ∈ L, y.2 ≠ x.2) : Uni (ins x L) := by
  have u1 := u
  unfold ins Uni
  rw [List.pairwise_append, List.pairwise_cons]
  refine ⟨uni_filter u _, ⟨fun y hy => fun e => hx y (List.mem_filter.1 hy).1 e.symm, uni_filter u _⟩, fun a ha b hb => ?_⟩
  rcases List.mem_cons.1 hb with rfl | hb
  · exact hx a (List.mem_filter.1 ha).1
  · intro e
    have q := uni_eq u (List.mem_filter.1 ha).1 (List.mem_filter.1 hb).1 e
    have h1 : lt a x := by simpa using (List.mem_filter.1 ha).2
    have h2 : lt x b := by simpa using (List.mem_filter.1 hb).2
    rw [← q] at h2
    exact lt_asymm h1 h2
/-- The tick of a number. -/
def wn (L : List It) (i : Int) : Option Int := (L.find? fun y => decide (y.2 = i)).map (·.1)
theorem wn_some {L : List It} (u : Uni L) {x : It} (hx : x ∈ L) : wn L x.2 = some x.1 := by
  unfold wn
  cases e : L.find? fun y => decide (y.2 = x.2) with
  | none =>
    have := List.find?_eq_none.1 e x hx
    simp at this
  | some y =>
    have h1 := List.mem_of_find?_eq_some e
    have h2 := List.find?_some e
    rw [uni_eq u h1 hx (by simpa using h2)]
    rfl
theorem wn_none {L : List It} {i : Int} : wn L i = none ↔ ∀ x ∈ L, x.2 ≠ i := by
  unfold wn
  rw [Option.map_eq_none_iff, List.find?_eq_none]
  simp
theorem wn_mem {L : List It} {i d : Int} (h : wn L i = some d) : (d, i) ∈ L := by
  unfold wn at h
  cases e : L.find? fun y => decide (y.2 = i) with
  | none => rw [e] at h; cases h
  | some y =>
    rw [e] at h
    have h1 := List.mem_of_find?_eq_some e
    have h2 : y.2 = i := by simpa using List.find?_some e
    simp at h
    rw [← h, ← h2]
    exact h1
theorem wn_ins {L : List It} (u : Uni L) {x : It} (hx : ∀ y ∈ L, y.2 ≠ x.2) (i : Int) : wn (ins x L) i = if i = x.2 then some x.1 else wn L i := by
  have nx : x ∉ L := fun h => hx x h rfl
  have u2 := uni_ins u hx
  by_cases e : i = x.2
  · rw [if_pos e, e]
    exact wn_some u2 ((mem_ins nx).2 (Or.inl rfl))
  · rw [if_neg e]
    cases g : wn L i with
    | none =>
      rw [wn_none] at g ⊢
      intro y hy
      rcases (mem_ins nx).1 hy with rfl | hy
      · exact fun q => e q.symm
      · exact g y hy
    | some d => exact wn_some u2 (x := (d, i)) ((mem_ins nx).2 (Or.inr (wn_mem g)))
/- Rooms. -/
/-- The things of a room. -/
def rl (f : It → Nat) (L : List It) (r : Nat) : List It := L.filter fun x => decide (f x = r)
/-- The room of a thing, as the wheel's tick is. -/
def rm (now : Int) (x : It) : Nat := rn now.toNat x.1.toNat
/-- Ticks that may be. -/
def Tks (L : List It) : Prop := ∀ x ∈ L, 0 ≤ x.1 ∧ x.1 ≤ 1152921504606846976
theorem cat_rooms (f : It → Nat) : ∀ (N : Nat) (L : List It), L.Pairwise (fun x y => f x ≤ f y) → (List.range N).flatMap (rl f L) = L.filter fun x => decide (f x < N)
  | 0, L, _ => by simp
  | N + 1, L, h => by
    rw [List.range_succ, List.flatMap_append, cat_rooms f N L h]
    simp only [List.flatMap_cons, List.flatMap_nil, List.append_nil]
    induction L with
    | nil => rfl
    | cons y L ih =>
      have h' := List.pairwise_cons.1 h
      have ih' := ih h'.2
      unfold rl at *
      by_cases c : f y < N
      · rw [List.filter_cons_of_pos (by simpa using c), List.filter_cons_of_neg (by simp; omega), List.filter_cons_of_pos (by simp; omega), List.cons_append, ih']
      · have e0 : L.filter (fun x => decide (f x < N)) = [] := List.filter_eq_nil_iff.2 fun z hz => by have := h'.1 z hz; simp; omega
        rw [e0, List.nil_append] at ih'
        rw [List.filter_cons_of_neg (by simpa using c), e0, List.nil_append]
        by_cases c2 : f y = N
        · rw [List.filter_cons_of_pos (by simpa using c2), List.filter_cons_of_pos (by simp; omega), ih']
        · rw [List.filter_cons_of_neg (by simpa using c2), List.filter_cons_of_neg (by simp; omega), ih']
theorem mono_rm {now : Int} {L : List It} (h : Srt L) (t : Tks L) (h1 : 0 ≤ now) (h2 : now ≤ 1152921504606846976) : L.Pairwise fun x y => rm now x ≤ rm now y := by
  refine List.Pairwise.imp_of_mem ?_ h
  intro x y hx hy l
  have a := t x hx
  have b := t y hy
  unfold rm
  refine rn_mono (by unfold tk; omega) (by unfold tk; omega) (by unfold tk; omega) ?_
  unfold lt at l
  omega
theorem rm_lt {now : Int} {x : It} (h1 : 0 ≤ now) (h2 : now ≤ 1152921504606846976) (t : 0 ≤ x.1 ∧ x.1 ≤ 1152921504606846976) : rm now x < 169 := by
  unfold rm
  exact rn_lt (by unfold tk; omega) (by unfold tk; omega)
theorem cat_all {now : Int} {L : List It} (h : Srt L) (t : Tks L) (h1 : 0 ≤ now) (h2 : now ≤ 1152921504606846976) : (List.range 169).flatMap (rl (rm now) L) = L := by
  rw [cat_rooms _ _ _ (mono_rm h t h1 h2)]
  exact List.filter_eq_self.2 fun x hx => by simpa using rm_lt h1 h2 (t x hx)
theorem rl_ins {f : It → Nat} {L : List It} (h : Srt L) {x : It} (hx : x ∉ L) (r : Nat) : rl f (ins x L) r = if r = f x then ins x (rl f L r) else rl f L r := by
  unfold rl
  rw [ins_filter]
  by_cases e : f x = r
  · rw [if_pos (by simpa using e), if_pos e.symm]
  · rw [if_neg (by simpa using e), if_neg (fun q => e q.symm), filter_both (srt_filter h _) (fun q => hx (List.mem_filter.1 q).1)]
theorem srt_rl {f : It → Nat} {L : List It} (h : Srt L) (r : Nat) : Srt (rl f L r) := srt_filter h _
theorem mem_rl {f : It → Nat} {L : List It} {x : It} {r : Nat} : x ∈ rl f L r ↔ x ∈ L ∧ f x = r := by
  unfold rl
  rw [List.mem_filter]
  simp
theorem rl_len (f : It → Nat) (L : List It) (r : Nat) : (rl f L r).length ≤ L.length := List.length_filter_le _ _
end Go.Proofs.YtfipiifickdeiaaGreatDoor.Wm
namespace Go.Proofs.YtfipiifickdeiaaGreatDoor.Tim
open Slt
open Go.ChangeShapes Go.WideShapes Go.ChangeAt Go.RowKit
open Wm
def cel (x : It) : List Value := [.int .i64 x.2, .int .i64 x.1]
def cls (L : List It) : List Value := L.flatMap cel
theorem cls_cons (x : It) (L : List It) : cls (x :: L) = .int .i64 x.2 :: .int .i64 x.1 :: cls L := rfl
theorem cls_len (L : List It) : (cls L).length = L.length * 2 := by
  induction L with
  | nil => rfl
  | cons x L ih => rw [cls_cons, List.length_cons, List.length_cons, List.length_cons, ih]; omega
theorem cls_app (A B : List It) : cls (A ++ B) = cls A ++ cls B := List.flatMap_append
theorem cls_get : ∀ (L : List It) (i : Nat) (x : It), L[i]? = some x → (cls L)[i * 2]? = some (.int .i64 x.2) ∧ (cls L)[i * 2 + 1]? = some (.int .i64 x.1)
  | [], i, x, h => by simp at h
  | y :: L, 0, x, h => by
    simp at h
    subst h
    exact ⟨rfl, rfl⟩
  | y :: L, i + 1, x, h => by
    have := cls_get L i x (by simpa using h)
    rw [cls_cons, show (i + 1) * 2 = i * 2 + 1 + 1 by omega]
    simpa using this
theorem cls_take : ∀ (L : List It) (k : Nat), (cls L).take (k * 2) = cls (L.take k)
  | [], k => by simp [cls]
  | y :: L, 0 => by simp [cls]
  | y :: L, k + 1 => by
    rw [cls_cons, show (k + 1) * 2 = k * 2 + 1 + 1 by omega, List.take_succ_cons, List.take_succ_cons, List.take_succ_cons, cls_cons, cls_take L k]
theorem cls_drop : ∀ (L : List It) (k : Nat), (cls L).drop (k * 2) = cls (L.drop k)
  | [], k => by simp [cls]
  | y :: L, 0 => by simp
  | y :: L, k + 1 => by
    rw [cls_cons, show (k + 1) * 2 = k * 2 + 1 + 1 by omega, List.drop_succ_cons, List.drop_succ_cons, List.drop_succ_cons, cls_drop L k]
theorem cls_one (L : List It) : ∀ v ∈ cls L, v.oneCell' = true := by
  intro v hv
  obtain ⟨x, _, hx⟩ := List.mem_flatMap.1 hv
  unfold cel at hx
  simp at hx
  rcases hx with rfl | rfl <;> rfl
/-- v is a slice of one's own that holds L. -/
def Own (t : TypeId) (w : World) (v : Value) (L : List It) : Prop := w.ownsRow 0 t 2 v L.length (cls L)
theorem own_nil (t : TypeId) (w : World) : Own t w (.slice none 0 0) [] := World.ownsRow_nil w 0 t 2
theorem Own.cases {t : TypeId} {w : World} {v : Value} {L : List It} (h : Own t w v L) : (v = .slice none 0 0 ∧ L = []) ∨ ∃ (g cap : Nat) (cur : List Value), v = .slice (some ⟨g, 0, none⟩) L.length cap ∧ Blk w g cur t ∧ L.length ≤ cap ∧ cap ≤ maxLen ∧ cur.length = cap * 2 ∧ cur.take (L.length * 2) = cls L := by
  rcases h.2 with ⟨h1, h2⟩ | ⟨g, cap, cur, h1, _, h2, h3, h4, h5, h6⟩
  · exact Or.inl ⟨h1, List.eq_nil_of_length_eq_zero h2⟩
  · exact Or.inr ⟨g, cap, cur.toList, h1, by unfold Blk; rw [Array.toArray_toList]; exact h2, h3, h4, by rw [Array.length_toList]; exact h5, h6⟩
theorem own_mk {t : TypeId} {w : World} {g n cap : Nat} {cur : List Value} {L : List It} (h : Blk w g cur t) (hn : n = L.length) (h1 : L.length ≤ cap) (h2 : cap ≤ maxLen) (h3 : cur.length = cap * 2) (h4 : cur.take (L.length * 2) = cls L) : Own t w (.slice (some ⟨g, 0, none⟩) n cap) L := by
  subst hn
  exact ⟨cls_len L, Or.inr ⟨g, cap, cur.toArray, rfl, Nat.zero_le _, h, h1, h2, by simpa using h3, by simpa using h4⟩⟩
theorem Own.shape {t : TypeId} {w : World} {v : Value} {L : List It} (h : Own t w v L) : ∃ a cap, v = .slice a L.length cap := owng_shape h
theorem Own.keep {B : Nat} {S : List Nat} {t : TypeId} {w w' : World} {v : Value} {L : List It} (h : Own t w v L) (f : Fr B S w w') (hg : ∀ g, v.ownBlock = some g → g < B ∧ g ∉ S) : Own t w' v L := owng_keep h f hg
theorem Own.lt {t : TypeId} {w : World} {v : Value} {L : List It} (h : Own t w v L) {g : Nat} (e : v.ownBlock = some g) : g < w.heap.size := owng_lt h e
theorem Own.heap {t : TypeId} {w w1 : World} {v : Value} {L : List It} (h : Own t w v L) (e : w1.heap = w.heap) : Own t w1 v L := by
  rcases h.cases with ⟨rfl, rfl⟩ | ⟨g, cap, cur, rfl, hb, h1, h2, h3, h4⟩
  · exact own_nil t w1
  · exact own_mk (hb.heap e) rfl h1 h2 h3 h4
theorem Own.ne {t u : TypeId} {w : World} {v : Value} {L : List It} {b : Nat} {cs : List Value} (h : Own t w v L) (k : Blk w b cs u) (ne : t ≠ u) {g : Nat} (e : v.ownBlock = some g) : b ≠ g := owng_ne h k ne e
/-- What cells of it hold. -/
theorem Own.cell {t : TypeId} {w : World} {a : Option Addr} {n cap : Nat} {L : List It} (h : Own t w (.slice a n cap) L) {i : Nat} (hi : i < L.length) : ∃ g, a = some ⟨g, 0, none⟩ ∧ ∀ x, L[i]? = some x → w.cell? ⟨g, i * 2, none⟩ = some (.int .i64 x.2) ∧ w.cell? ⟨g, i * 2 + 1, none⟩ = some (.int .i64 x.1) := by
  rcases h.cases with ⟨_, rfl⟩ | ⟨g, c, cur, e, hb, h1, h2, h3, h4⟩
  · simp at hi
  · simp only [Value.slice.injEq] at e
    refine ⟨g, e.1, fun x hx => ?_⟩
    obtain ⟨c1, c2⟩ := cls_get L i x hx
    rw [← h4, List.getElem?_take] at c1 c2
    rw [if_pos (by omega)] at c1 c2
    rw [hb.cell, hb.cell]
    exact ⟨c1, c2⟩
theorem Own.cells {t : TypeId} {w : World} {g n cap : Nat} {L : List It} (h : Own t w (.slice (some ⟨g, 0, none⟩) n cap) L) (k : Nat) : ∀ j v, (cls (L.drop k))[j]? = some v → w.cell? ⟨g, k * 2 + j, none⟩ = some v := by
  intro j v hj
  rcases h.cases with ⟨e, _⟩ | ⟨g2, c, cur, e, hb, h1, h2, h3, h4⟩
  · simp at e
  · simp only [Value.slice.injEq, Option.some.injEq, Addr.mk.injEq] at e
    obtain ⟨⟨rfl, _⟩, _⟩ := e
    have hl := (List.getElem?_eq_some_iff.1 hj).1
    rw [cls_len, List.length_drop] at hl
    rw [← cls_drop, List.getElem?_drop, ← h4, List.getElem?_take, if_pos (by omega)] at hj
    rw [hb.cell]
    exact hj
/- Stores of a row of cells. -/
theorem blk_setCells (g : Nat) (t : TypeId) : ∀ (vs : List Value) (o : Nat) (cur : List Value) (w : World), Blk w g cur t → o + vs.length ≤ cur.length → Blk (w.setCells g o vs) g (cur.take o ++ vs ++ cur.drop (o + vs.length)) t
  | [], o, cur, w, h, _ => by
    show Blk w g _ t
    simpa using h
  | v :: r, o, cur, w, h, hl => by
    have := blk_setCells g t r (o + 1) (cur.set o v) (w.setCell ⟨g, o, none⟩ v) (h.set o v) (by simp at hl ⊢; omega)
    rw [list_seg_step cur o v r (by simpa using hl)] at this
    exact this
theorem fr_setCells {B : Nat} {S : List Nat} {a : World} (g : Nat) (hg : B ≤ g ∨ g ∈ S) : ∀ (vs : List Value) (o : Nat) (w : World), Fr B S a w → Fr B S a (w.setCells g o vs)
  | [], _, _, h => h
  | v :: r, o, _, h => fr_setCells g hg r (o + 1) _ (h.setCell hg v)
theorem heap_setCells (g : Nat) : ∀ (vs : List Value) (o : Nat) (w w1 : World), w1.heap = w.heap → (w1.setCells g o vs).heap = (w.setCells g o vs).heap
  | [], _, _, _, h => h
  | v :: r, o, w, w1, h => heap_setCells g r (o + 1) _ _ (by simp [World.setCell, h])
theorem sp_get {α : Type} (cur vs : List α) (o : Nat) (h : o + vs.length ≤ cur.length) (k : Nat) : (cur.take o ++ vs ++ cur.drop (o + vs.length))[k]? = if o ≤ k ∧ k < o + vs.length then vs[k - o]? else cur[k]? := by
  have lt : (cur.take o).length = o := by simp; omega
  rw [List.append_assoc, List.getElem?_append, lt]
  by_cases c1 : k < o
  · rw [if_pos c1, if_neg (by omega), List.getElem?_take, if_pos c1]
  · rw [if_neg c1, List.getElem?_append]
    by_cases c2 : k - o < vs.length
    · rw [if_pos c2, if_pos (by omega)]
    · rw [if_neg c2, if_neg (by omega), List.getElem?_drop]
      congr 1
      omega
theorem sp_len {α : Type} (cur vs : List α) (o : Nat) (h : o + vs.length ≤ cur.length) : (cur.take o ++ vs ++ cur.drop (o + vs.length)).length = cur.length := by simp; omega
theorem take_is {α : Type} {l m : List α} {k : Nat} (hk : m.length = k) (h : ∀ j, j < k → l[j]? = m[j]?) : l.take k = m := by
  apply List.ext_getElem?
  intro j
  rw [List.getElem?_take]
  by_cases c : j < k
  · rw [if_pos c]
    exact h j c
  · rw [if_neg c, List.getElem?_eq_none (by omega)]
section
variable {P : Program}
/-- copy, where an element has whatever number of cells. -/
theorem run_copy_k (w : World) (dT sT ty elem : TypeId) (size b o dLen dCap : Nat) (a : Addr) (sLen sCap m : Nat) (cs : List Value)
    (hu : P.underlying dT = some (.slice elem)) (hs : (P.info? elem).map (·.size) = some size) (hm : m = Nat.min sLen dLen) (hn : cs.length = m * size)
    (hsrc : ∀ j v, cs[j]? = some v → w.cell? (a.add j) = some v) (hc : ∀ j, j < cs.length → (w.cell? ⟨b, o + j, none⟩).isSome = true) (hf : ∀ j, j < cs.length → w.frozen? ⟨b, o + j, none⟩ = false) (h1 : ∀ v ∈ cs, v.oneCell' = true) :
    (Builtin.copy_ #[dT, sT] ty #[.slice (some ⟨b, o, none⟩) dLen dCap, .slice (some a) sLen sCap]).run P w = .ok (goInt m) (w.setCells b o cs) := by
  have hfc := run_firstCells_some (P := P) w size m a sLen sCap cs hn hsrc
  have hst := run_storeCells_cells (P := P) b o cs 0 w (by simpa using hc) (by simpa using hf) h1
  simp only [Nat.add_zero] at hst
  cases hq : P.info? elem with
  | none => simp [hq] at hs
  | some i =>
    have hi : i.size = size := by simpa [hq] using hs
    simp [Builtin.copy_, run_underlying hu, Builtin.lenOf, sizeOf, typeInfo, hq, hi, ← hm, hfc, hst]
end
end Go.Proofs.YtfipiifickdeiaaGreatDoor.Tim
namespace Go.Proofs.YtfipiifickdeiaaGreatDoor.Tim
open Slt
open Go.ChangeShapes Go.WideShapes Go.ChangeAt Go.RowKit
open Wm
theorem Tryz.infoTh : (Tryz.prog.info? 270).map (fun i => (i.zero, i.size, i.bytes)) = some (some (.agg #[.int .i64 0, .int .i64 0]), 2, 16) := by kernel_rfl
theorem sizeTh : (Tryz.prog.info? 270).map (·.size) = some 2 := by kernel_rfl
/-- copy as a step of a walk, its run given. -/
theorem wpList_copy_run {P : Program} (w : World) {ops : Array Oper} {rest : List Oper} {o : Oper} {a : Act} {Q : Exit → Act → World → Prop} (hgd : o.guard = none) (d s : Operand) (t t' : TypeId)
    (ho : o.op = .call { callee := .builtin .copy, args := #[d, s], argTypes := #[t, t'] }) (v u : Value) (hd : a.eval d = v) (hs : a.eval s = u) {v' : Value} {w' : World}
    (hr : (Builtin.copy_ #[t, t'] o.type #[v, u]).run P w = .ok v' w') (h : wpList P ops Q rest (a.put o.dst v') w') : wpList P ops Q (o :: rest) a w := by
  refine wpList_plain hgd fun K hK => ?_
  unfold Oper.wp execOp
  simp only [ho, resolve, invoke, builtin, Sem.run_bind, Sem.run_pure, Result.andThen_ok, List.map_toArray, List.map_cons, List.map_nil, hd, hs, hr]
  exact hK _ _ h
/-- .. and of a region that draws its order. -/
theorem step_copy_run {P : Program} {ops : Array Oper} {o : Oper} {a : Act} {w : World} {K : Act → World → Prop} {Q : Exit → Act → World → Prop} {E : Prop}
    (hg : o.guard = none) (d x : Operand) (dT sT : TypeId) (hop : o.op = Op.call { callee := Callee.builtin Builtin.copy, args := #[d, x], argTypes := #[dT, sT] })
    (v u : Value) (hd : a.eval d = v) (hx : a.eval x = u) {v' : Value} {w' : World} (hr : (Builtin.copy_ #[dT, sT] o.type #[v, u]).run P w = .ok v' w') (hK : K (a.put o.dst v') w') :
    if Region.wanted o (yielded ops a.tmps) = true then Oper.wp P o a w K Q else E := by
  have hw : Region.wanted o (yielded ops a.tmps) = true := by simp [Region.wanted, hg]
  rw [if_pos hw]
  unfold Oper.wp
  simp [execOp, hop, resolve, invoke, builtin, hd, hx, hr, Result.andThen]
  exact hK
set_option maxHeartbeats 4000000 in
set_option maxRecDepth 100000 in
theorem insert_room {w : World} {g cap i : Nat} {cur : List Value} {L : List It} {x : It} {vb c : Nat} {tv : TypeId} (hb : Blk w g cur 270) (hi : i < L.length) (hroom : L.length + 1 ≤ cap) (hcap : cap ≤ maxLen) (hcl : cur.length = cap * 2) (htk : cur.take (L.length * 2) = cls L)
    (hv : Blk w vb (cel x) tv) (hvg : vb ≠ g) :
    Calls Tryz.prog 316 #[.slice (some ⟨g, 0, none⟩) L.length cap, .int .i64 i, .slice (some ⟨vb, 0, none⟩) 1 c] w fun e w' =>
      e = .returned (.slice (some ⟨g, 0, none⟩) (L.length + 1) cap) ∧ w' = (w.drew.setCells g ((i + 1) * 2) (cls (L.drop i))).setCells g (i * 2) (cel x) := by
  have ho : Own 270 w (.slice (some ⟨g, 0, none⟩) L.length cap) L := own_mk hb rfl (by omega) hcap hcl htk
  have hsome : ∀ k, k < cap * 2 → (w.cell? ⟨g, k, none⟩).isSome = true := fun k hk => by rw [hb.cell, List.getElem?_eq_getElem (by omega)]; rfl
  have hdl : (cls (L.drop i)).length = (L.length - i) * 2 := by rw [cls_len, List.length_drop]
  have hov : ∀ lb cb, (callFunc 343 #[.slice (some ⟨vb, 0, none⟩) 1 c, .slice (some ⟨g, (i + 1) * 2, none⟩) lb cb]).run Tryz.prog w = .ok (.value (.bool false)) w := fun lb cb => by
    rw [run_callFunc_extern Tryz.func343 (by kernel_rfl) (by kernel_rfl) (by kernel_rfl) (e := Extern.SlicesOverlaps.overlaps #[219, 219] #[4]) (by kernel_rfl)]
    rw [Lib.run_overlaps_apart w 219 4 270 Tryz.underlying219 2 (fun w => by kernel_rfl) ⟨vb, 0, none⟩ ⟨g, (i + 1) * 2, none⟩ 1 c lb cb hvg tv 270 2 cur.length (by simp [World.shape?, show w.heap[vb]? = _ from hv, cel]) (by simp [World.shape?, show w.heap[g]? = _ from hb]) (by omega) (hv.free 0) (hv.free 2)]
    rfl
  have hcp1 : ∀ ty dc sc, (Builtin.copy_ #[219, 219] ty #[.slice (some ⟨g, (i + 1) * 2, none⟩) (L.length - i) dc, .slice (some ⟨g, i * 2, none⟩) (L.length + 1 - i) sc]).run Tryz.prog w.drew = .ok (goInt ((L.length - i : Nat) : Int)) (w.drew.setCells g ((i + 1) * 2) (cls (L.drop i))) := fun ty dc sc =>
    run_copy_k w.drew _ _ ty 270 2 g ((i + 1) * 2) (L.length - i) dc ⟨g, i * 2, none⟩ (L.length + 1 - i) sc (L.length - i) (cls (L.drop i)) Tryz.underlying219 sizeTh (by simp only [Nat.min_def]; split <;> omega) hdl
      (fun j v hj => by rw [Addr.add_lit]; exact ho.cells i j v hj)
      (fun j hj => hsome _ (by omega)) (fun j hj => hb.free _) (cls_one _)
  obtain ⟨W1, hW1⟩ : ∃ W1, W1 = w.drew.setCells g ((i + 1) * 2) (cls (L.drop i)) := ⟨_, rfl⟩
  have hb1 : Blk W1 g (cur.take ((i + 1) * 2) ++ cls (L.drop i) ++ cur.drop ((i + 1) * 2 + (cls (L.drop i)).length)) 270 := by
    rw [hW1]
    exact blk_setCells g _ _ _ cur w.drew hb (by rw [hdl]; omega)
  have hv1 : Blk W1 vb (cel x) tv := by
    rw [hW1]
    exact hv.keep (fr_setCells (B := w.heap.size) (S := [g]) g (Or.inr (by simp)) _ _ _ (Fr.refl _ _ w).drew) hv.lt (by simpa using hvg)
  have hcp2 : ∀ ty dc, (Builtin.copy_ #[219, 219] ty #[.slice (some ⟨g, i * 2, none⟩) (L.length + 1 - i) dc, .slice (some ⟨vb, 0, none⟩) 1 c]).run Tryz.prog W1 = .ok (goInt 1) (W1.setCells g (i * 2) (cel x)) := fun ty dc =>
    run_copy_k W1 _ _ ty 270 2 g (i * 2) (L.length + 1 - i) dc ⟨vb, 0, none⟩ 1 c 1 (cel x) Tryz.underlying219 sizeTh (by simp only [Nat.min_def]; split <;> omega) rfl
      (fun j v hj => by rw [Addr.add_lit, Nat.zero_add, hv1.cell]; exact hj)
      (fun j hj => by rw [hb1.cell, List.getElem?_eq_getElem (by rw [sp_len _ _ _ (by rw [hdl]; omega)]; simp [cel] at hj; omega)]; rfl)
      (fun j hj => hb1.free _) (fun v hv => by unfold cel at hv; simp at hv; rcases hv with rfl | rfl <;> rfl)
  rw [← hW1] at hcp1 ⊢
  have z1 : ¬ ((i : Int) = (L.length : Int)) := by omega
  have z2 : ((L.length : Int) + 1 ≤ (cap : Int)) := by omega
  have z3 : (cap : Int) ≤ 9223372036854775807 := by unfold maxLen at hcap; omega
  have z4 : ¬ (cap = i + 1) := by omega
  have z5 : ¬ (cap = i) := by omega
  have z6 : (i : Int) < (L.length : Int) := by omega
  have z7 : IntKind.i64.wrap ((i : Int) + 1) = (i : Int) + 1 := by rw [IntKind.wrap_i64]; omega
  have z8 : (0 : Int) ≤ (i : Int) + 1 := by omega
  have z9 : ((i : Int) + 1).toNat = i + 1 := by omega
  have z10 : (i : Int) ≤ (L.length : Int) + 1 := by omega
  have z11 : (i : Int) + 1 ≤ (L.length : Int) + 1 := by omega
  have HW : Hid (W1 = w.drew.setCells g ((i + 1) * 2) (cls (L.drop i))) := hW1
  generalize L.length = n at *
  clear hb hcl htk hv hvg ho hsome hdl hb1 hv1 hW1 hcap hi hroom
  go_enter Tryz.func316, Tryz.ntmps316
  go_wp2_with (simp only [hov])
  go_region_law (refine step_copy_run rfl _ _ 219 219 rfl _ _ (by simp [Act.eval, Act.put]) (by simp [Act.eval, Act.put]) (hcp1 _ _ _) ?_)
  go_wp2_with (at_builtin; refine wpList_copy_run _ rfl _ _ 219 219 rfl _ _ rfl rfl (hcp2 _ _) ?_)
  go_ret
  exact ⟨rfl, rfl⟩
theorem sm_refl (w : World) : Sm w w := ⟨rfl, rfl, rfl, rfl⟩
theorem sm_drew (w1 w : World) (h : Sm w1 w) : Sm w1.drew w := h
theorem sm_cells (g : Nat) : ∀ (vs : List Value) (o : Nat) (w1 w : World), Sm w1 w → Sm (w1.setCells g o vs) (w.setCells g o vs)
  | [], _, _, _, h => h
  | v :: r, o, w1, w, h => sm_cells g r (o + 1) _ _ ⟨by simp [World.setCell, h.1], h.2.1, h.2.2.1, h.2.2.2⟩
theorem zc_len (n : Nat) : (Builtin.zeroCells (Value.agg #[.int .i64 0, .int .i64 0]).cells n).size = n * 2 := size_zeroCells _ _
set_option maxHeartbeats 4000000 in
set_option maxRecDepth 100000 in
theorem insert_grow {w : World} {g cap i : Nat} {L : List It} {x : It} {vb c : Nat} {tv : TypeId} (ho : Own 270 w (.slice (some ⟨g, 0, none⟩) L.length cap) L) (hgl : g < w.heap.size) (hi : i < L.length) (hcap : L.length ≤ cap) (hroom : cap < L.length + 1) (hs : L.length ≤ 3000)
    (hv : Blk w vb (cel x) tv) :
    Calls Tryz.prog 316 #[.slice (some ⟨g, 0, none⟩) L.length cap, .int .i64 i, .slice (some ⟨vb, 0, none⟩) 1 c] w fun e w' =>
      ∃ (G : Nat) (R : List Value), e = .returned (.slice (some ⟨w.heap.size, 0, none⟩) (L.length + 1) G) ∧ L.length + 1 ≤ G ∧ G ≤ maxLen ∧ R.length = G * 2 ∧ R.take (i * 2) = cls (L.take i) ∧
        Sm w' (((w.alloc (.cells R.toArray 270)).setCells w.heap.size (i * 2) (cel x)).setCells w.heap.size ((i + 1) * 2) (cls (L.drop i))) := by
  obtain ⟨i0, hi0, hz0, hzs, hzb⟩ := info_parts Tryz.infoTh
  have hkk : (L.length : Int) + 1 - (i : Int) = ((L.length + 1 - i : Nat) : Int) := by omega
  have hik : i + (L.length + 1 - i) = L.length + 1 := by omega
  have hdl : (cls (L.drop i)).length = (L.length - i) * 2 := by rw [cls_len, List.length_drop]
  have hold : (Builtin.firstCells i0.size i (.slice (some ⟨g, 0, none⟩) i cap)).run Tryz.prog w.drew = .ok (cls (L.take i)).toArray w.drew := by
    rw [hzs]
    exact run_firstCells_some w.drew 2 i ⟨g, 0, none⟩ i cap (cls (L.take i)) (by rw [cls_len, List.length_take]; omega) (fun j v hj => by
      rw [Addr.add_lit, Nat.zero_add]
      have hl := (List.getElem?_eq_some_iff.1 hj).1
      rw [← cls_take, List.getElem?_take] at hj
      split at hj
      · have := ho.cells 0 j v (by simpa using hj)
        simpa using this
      · cases hj)
  have hrz : ∀ ty, (Builtin.append_ #[219, 3] ty #[.slice (some ⟨g, 0, none⟩) i cap, .int .i64 ((L.length : Int) + 1 - (i : Int))]).run Tryz.prog w =
      .ok (.slice (some ⟨w.heap.size, 0, none⟩) (L.length + 1) (grownCap w (L.length + 1) cap 270)) (w.drew.alloc (.cells ((cls (L.take i)).toArray ++ Builtin.zeroCells (Value.agg #[.int .i64 0, .int .i64 0]).cells (L.length + 1 - i) ++ Builtin.zeroCells (Value.agg #[.int .i64 0, .int .i64 0]).cells (grownCap w (L.length + 1) cap 270 - (L.length + 1))) 270)) := fun ty => by
    have h := Lib.run_append_grow_zeros w 219 3 ty 270 i0 _ .i64 .i64 Tryz.underlying219 Tryz.underlying3 hi0 hz0 (some ⟨g, 0, none⟩) i cap (cls (L.take i)) hold (L.length + 1 - i) (by omega) (by rw [hzs]; omega) (by omega) (by omega) (by rw [hzb]; omega) (by rw [hzb, hik]; exact growslice_fits hroom (by omega))
    rw [hik] at h
    rw [hkk]
    exact h
  obtain ⟨G, hG⟩ : ∃ G, G = grownCap w (L.length + 1) cap 270 := ⟨_, rfl⟩
  have hGn : L.length + 1 ≤ G := by rw [hG]; exact grownCap_ge w _ _ _
  have hGm : G ≤ maxLen := by rw [hG]; exact grownCap_le_maxLen w _ _ _ (by unfold maxLen; omega)
  obtain ⟨R, hR⟩ : ∃ R : List Value, R.toArray = (cls (L.take i)).toArray ++ Builtin.zeroCells (Value.agg #[.int .i64 0, .int .i64 0]).cells (L.length + 1 - i) ++ Builtin.zeroCells (Value.agg #[.int .i64 0, .int .i64 0]).cells (G - (L.length + 1)) := ⟨_, Array.toArray_toList⟩
  rw [← hG] at hrz
  rw [← hR] at hrz
  have hRl : R.length = G * 2 := by
    have := congrArg Array.size hR
    simp only [Array.size_append, zc_len, List.size_toArray, cls_len, List.length_take] at this
    omega
  have hRt : R.take (i * 2) = cls (L.take i) := by
    have e := congrArg Array.toList hR
    simp only [Array.toList_append, List.append_assoc] at e
    rw [e]
    refine List.take_left' ?_
    rw [cls_len, List.length_take]
    omega
  have hb1 : ∀ W : World, W.heap = (w.alloc (.cells R.toArray 270)).heap → Blk W w.heap.size R 270 ∧ Blk W vb (cel x) tv := fun W e => ⟨(Blk.new w R _).heap e, (hv.alloc _).heap e⟩
  have hcpA : ∀ (W : World), W.heap = (w.alloc (.cells R.toArray 270)).heap → ∀ ty dc, (Builtin.copy_ #[219, 219] ty #[.slice (some ⟨w.heap.size, i * 2, none⟩) (L.length + 1 - i) dc, .slice (some ⟨vb, 0, none⟩) 1 c]).run Tryz.prog W = .ok (goInt 1) (W.setCells w.heap.size (i * 2) (cel x)) := fun W e ty dc =>
    run_copy_k W _ _ ty 270 2 w.heap.size (i * 2) (L.length + 1 - i) dc ⟨vb, 0, none⟩ 1 c 1 (cel x) Tryz.underlying219 sizeTh (by simp only [Nat.min_def]; split <;> omega) rfl
      (fun j v hj => by rw [Addr.add_lit, Nat.zero_add, (hb1 W e).2.cell]; exact hj)
      (fun j hj => by rw [(hb1 W e).1.cell, List.getElem?_eq_getElem (by simp [cel] at hj; omega)]; rfl)
      (fun j hj => (hb1 W e).1.free _) (fun v hv => by unfold cel at hv; simp at hv; rcases hv with rfl | rfl <;> rfl)
  have hcpB : ∀ (W : World), W.heap = ((w.alloc (.cells R.toArray 270)).setCells w.heap.size (i * 2) (cel x)).heap → ∀ ty dc sc, (Builtin.copy_ #[219, 219] ty #[.slice (some ⟨w.heap.size, (i + 1) * 2, none⟩) (L.length - i) dc, .slice (some ⟨g, i * 2, none⟩) (L.length - i) sc]).run Tryz.prog W = .ok (goInt ((L.length - i : Nat) : Int)) (W.setCells w.heap.size ((i + 1) * 2) (cls (L.drop i))) := fun W e ty dc sc => by
    have B1 : Blk W w.heap.size _ 270 := (blk_setCells w.heap.size _ (cel x) (i * 2) R (w.alloc (.cells R.toArray 270)) (Blk.new w R _) (by simp [cel]; omega)).heap e
    have B2 : Own 270 W (.slice (some ⟨g, 0, none⟩) L.length cap) L := by
      refine Own.heap (ho.keep (fr_setCells (B := w.heap.size) (S := []) w.heap.size (Or.inl (Nat.le_refl _)) (cel x) (i * 2) _ ((Fr.refl w.heap.size [] w).alloc (Nat.le_refl _) _)) ?_) e
      intro g2 e2
      simp [Value.ownBlock] at e2
      exact ⟨by omega, by simp⟩
    exact run_copy_k W _ _ ty 270 2 w.heap.size ((i + 1) * 2) (L.length - i) dc ⟨g, i * 2, none⟩ (L.length - i) sc (L.length - i) (cls (L.drop i)) Tryz.underlying219 sizeTh (by simp) hdl
      (fun j v hj => by rw [Addr.add_lit]; exact B2.cells i j v hj)
      (fun j hj => by rw [B1.cell, List.getElem?_eq_getElem (by rw [sp_len _ _ _ (by simp [cel]; omega)]; omega)]; rfl)
      (fun j hj => B1.free _) (cls_one _)
  have hE : Hid (∀ W1 W2 : World, W1.heap = (w.alloc (.cells R.toArray 270)).heap → W2.heap = (W1.setCells w.heap.size (i * 2) (cel x)).heap → W2.heap = ((w.alloc (.cells R.toArray 270)).setCells w.heap.size (i * 2) (cel x)).heap) := fun W1 W2 e1 e2 => e2.trans (heap_setCells _ _ _ _ _ e1)
  have z1 : ¬ ((i : Int) = (L.length : Int)) := by omega
  have z2 : (cap : Int) < (L.length : Int) + 1 := by omega
  have z4 : ¬ (cap = i) := by omega
  have z5 : ¬ (G = i) := by omega
  have z51 : ¬ (G = i + 1) := by omega
  have z6 : (i : Int) < (L.length : Int) := by omega
  have z61 : (i : Int) ≤ (cap : Int) := by omega
  have z7 : IntKind.i64.wrap ((i : Int) + 1) = (i : Int) + 1 := by rw [IntKind.wrap_i64]; omega
  have z8 : (0 : Int) ≤ (i : Int) + 1 := by omega
  have z9 : ((i : Int) + 1).toNat = i + 1 := by omega
  have z10 : (i : Int) ≤ (L.length : Int) + 1 := by omega
  have z11 : (i : Int) + 1 ≤ (L.length : Int) + 1 := by omega
  have z12 : (L.length : Int) ≤ 3000 := by omega
  have z13 : i ≤ L.length := by omega
  have HK : Hid (L.length + 1 ≤ G ∧ G ≤ maxLen ∧ R.length = G * 2 ∧ R.take (i * 2) = cls (L.take i)) := ⟨hGn, hGm, hRl, hRt⟩
  generalize L.length = n at *
  clear hkk hik hold hR hG hRl hRt hv ho hb1 hdl hGn hGm hgl hi hcap hroom hs
  go_enter Tryz.func316, Tryz.ntmps316
  have hA := hcpA (w.alloc (.cells R.toArray 270)).drew rfl
  have hB : Hid (∀ ty dc sc, _) := hcpB ((w.alloc (.cells R.toArray 270)).drew.setCells w.heap.size (i * 2) (cel x)).drew (hE.out (w.alloc (.cells R.toArray 270)).drew _ rfl rfl)
  clear hcpA hcpB
  go_wp2_with (at_builtin; refine Lib.wpList_append_run _ rfl _ _ _ _ rfl _ _ rfl rfl _ _ (hrz _) ?_)
  go_region_law (refine step_copy_run rfl _ _ 219 219 rfl (.slice (some ⟨w.heap.size, (i + 1) * 2, none⟩) (n - i) (G - (i + 1))) (.slice (some ⟨g, i * 2, none⟩) (n - i) (cap - i)) (by simp [Act.eval, Act.put]) (by simp [Act.eval, Act.put]) (hB.out 3 (G - (i + 1)) (cap - i)) ?_)
  go_wp2
  go_ret
  exact ⟨G, R, rfl, HK.out.1, HK.out.2.1, HK.out.2.2.1, HK.out.2.2.2, sm_cells _ _ _ _ _ (sm_drew _ _ (sm_cells _ _ _ _ _ (sm_drew _ _ (sm_refl _))))⟩
/-- The blocks of a list. -/
def ob (v : Value) : List Nat := v.ownBlock.toList
theorem mem_ob {v : Value} {g : Nat} : g ∈ ob v ↔ v.ownBlock = some g := by
  unfold ob
  cases v.ownBlock with
  | none => simp
  | some b => simp [eq_comm]
theorem ob_some (g n cap : Nat) : ob (.slice (some ⟨g, 0, none⟩) n cap) = [g] := rfl
set_option maxHeartbeats 4000000 in
set_option maxRecDepth 100000 in
theorem insert_end {w : World} {v : Value} {L : List It} {x : It} {vb c : Nat} {tv : TypeId} (ho : Own 270 w v L) (hs : L.length ≤ 2900) (hv : Blk w vb (cel x) tv) :
    Calls Tryz.prog 316 #[v, .int .i64 (L.length : Nat), .slice (some ⟨vb, 0, none⟩) 1 c] w fun e w' =>
      ∃ v', e = .returned v' ∧ Own 270 w' v' (L ++ [x]) ∧ Fr w.heap.size (ob v) w w' ∧ ∀ g ∈ ob v', g ∈ ob v ∨ w.heap.size ≤ g := by
  obtain ⟨i0, hi0, hz0, hzs, hzb⟩ := info_parts Tryz.infoTh
  have hrun : ∀ ty, ∃ v' w', (Builtin.append_ #[219, 219] ty #[v, .slice (some ⟨vb, 0, none⟩) 1 c]).run Tryz.prog w = .ok v' w' ∧ (Own 270 w' v' (L ++ [x]) ∧ Fr w.heap.size (ob v) w w' ∧ ∀ g ∈ ob v', g ∈ ob v ∨ w.heap.size ≤ g) := fun ty => by
    obtain ⟨v', w', r, o', gr, bl⟩ := run_appg (P := Tryz.prog) w 219 ty 270 i0 _ 2 16 Tryz.underlying219 hi0 hz0 hzs hzb rfl (by decide) (by decide) ho ⟨vb, 0, none⟩ 1 c (cel x) rfl
      (fun j u hj => by rw [Addr.add_lit, Nat.zero_add, hv.cell]; exact hj) (fun v hv => by unfold cel at hv; simp at hv; rcases hv with rfl | rfl <;> rfl) (by omega)
    refine ⟨v', w', r, ?_, (Fr.refl _ _ _).grown gr (Nat.le_refl _) (fun k hk => Or.inr (mem_ob.2 hk)), fun g hg => ?_⟩
    · unfold Own
      rw [List.length_append, cls_app]
      exact o'
    · rcases bl g (mem_ob.1 hg) with h | h
      · exact Or.inl (mem_ob.2 h)
      · exact Or.inr h
  obtain ⟨v', w', r, K⟩ := hrun 0
  have hty : ∀ ty ty' : TypeId, (Builtin.append_ #[219, 219] ty #[v, .slice (some ⟨vb, 0, none⟩) 1 c]).run Tryz.prog w = (Builtin.append_ #[219, 219] ty' #[v, .slice (some ⟨vb, 0, none⟩) 1 c]).run Tryz.prog w := fun _ _ => rfl
  have hr : ∀ ty, (Builtin.append_ #[219, 219] ty #[v, .slice (some ⟨vb, 0, none⟩) 1 c]).run Tryz.prog w = .ok v' w' := fun ty => (hty ty 0).trans r
  have KK : Hid (Own 270 w' v' (L ++ [x]) ∧ Fr w.heap.size (ob v) w w' ∧ ∀ g ∈ ob v', g ∈ ob v ∨ w.heap.size ≤ g) := K
  obtain ⟨p', n', c', hv'⟩ : ∃ p n c, v' = .slice p n c := by
    obtain ⟨a, cap, e⟩ := K.1.shape
    exact ⟨a, _, cap, e⟩
  have z1 : (L.length : Int) ≤ 2900 := by omega
  rcases ho.cases with ⟨rfl, rfl⟩ | ⟨g, cap, cur, rfl, hb, h1, h2, h3, h4⟩
  · clear hrun hty K ho hv hs r
    subst hv'
    go_enter Tryz.func316, Tryz.ntmps316
    go_wp2_with (at_builtin; refine Lib.wpList_append_run _ rfl _ _ _ _ rfl _ _ rfl rfl _ _ (hr _) ?_)
    go_ret
    exact ⟨_, rfl, KK.out⟩
  · have z2 : L.length ≤ cap := h1
    generalize L.length = n at *
    clear hrun hty K ho hv hs r hb h1 h2 h3 h4
    subst hv'
    go_enter Tryz.func316, Tryz.ntmps316
    by_cases zc : cap = n
    · go_wp2_with (at_builtin; refine Lib.wpList_append_run _ rfl _ _ _ _ rfl _ _ rfl rfl _ _ (hr _) ?_)
      go_ret
      exact ⟨_, rfl, KK.out⟩
    · go_wp2_with (at_builtin; refine Lib.wpList_append_run _ rfl _ _ _ _ rfl _ _ rfl rfl _ _ (hr _) ?_)
      go_ret
      exact ⟨_, rfl, KK.out⟩
theorem ins_cells (L : List It) (x : It) (i : Nat) (hi : i ≤ L.length) {l : List Value} (h1 : ∀ k, k < i * 2 → l[k]? = (cls (L.take i))[k]?) (h2 : ∀ k, k < 2 → l[i * 2 + k]? = (cel x)[k]?) (h3 : ∀ k, k < (L.length - i) * 2 → l[(i + 1) * 2 + k]? = (cls (L.drop i))[k]?) :
    l.take ((L.take i ++ x :: L.drop i).length * 2) = cls (L.take i ++ x :: L.drop i) := by
  have e1 : (cls (L.take i)).length = i * 2 := by rw [cls_len, List.length_take]; omega
  have ec : cls (L.take i ++ x :: L.drop i) = cls (L.take i) ++ (cel x ++ cls (L.drop i)) := by rw [cls_app]; rfl
  have el : (L.take i ++ x :: L.drop i).length = L.length + 1 := by simp; omega
  rw [el]
  refine take_is (by rw [cls_len, el]) fun j hj => ?_
  rw [ec, List.getElem?_append, e1]
  by_cases c1 : j < i * 2
  · rw [if_pos c1, h1 j c1]
  · rw [if_neg c1, List.getElem?_append]
    by_cases c2 : j - i * 2 < (cel x).length
    · rw [if_pos c2, ← h2 (j - i * 2) (by simpa [cel] using c2)]
      congr 1
      omega
    · have c3 : ¬ j - i * 2 < 2 := by simpa [cel] using c2
      rw [if_neg c2, show (cel x).length = 2 from rfl, ← h3 (j - i * 2 - 2) (by omega)]
      congr 1
      omega
theorem insert_any {w : World} {v : Value} {L : List It} {x : It} {i vb c : Nat} {tv : TypeId} (ho : Own 270 w v L) (hs : L.length ≤ 2900) (hv : Blk w vb (cel x) tv) (hvg : vb ∉ ob v) (hi : i ≤ L.length) :
    Calls Tryz.prog 316 #[v, .int .i64 (i : Nat), .slice (some ⟨vb, 0, none⟩) 1 c] w fun e w' =>
      ∃ v', e = .returned v' ∧ Own 270 w' v' (L.take i ++ x :: L.drop i) ∧ Fr w.heap.size (ob v) w w' ∧ ∀ g ∈ ob v', g ∈ ob v ∨ w.heap.size ≤ g := by
  by_cases hn : i = L.length
  · subst hn
    rw [List.take_length, List.drop_length]
    exact insert_end ho hs hv
  have hlt : i < L.length := by omega
  have hdl : (cls (L.drop i)).length = (L.length - i) * 2 := by rw [cls_len, List.length_drop]
  rcases ho.cases with ⟨rfl, rfl⟩ | ⟨g, cap, cur, rfl, hb, h1, h2, h3, h4⟩
  · simp at hlt
  by_cases room : L.length + 1 ≤ cap
  · refine (insert_room (tv := tv) (c := c) hb hlt room h2 h3 h4 hv (by simpa [ob_some] using hvg)).mono ?_
    rintro e w' ⟨rfl, rfl⟩
    have f1 : (i + 1) * 2 + (cls (L.drop i)).length ≤ cur.length := by rw [hdl]; omega
    have b1 := blk_setCells g 270 (cls (L.drop i)) ((i + 1) * 2) cur w.drew hb f1
    have f2 : i * 2 + (cel x).length ≤ (cur.take ((i + 1) * 2) ++ cls (L.drop i) ++ cur.drop ((i + 1) * 2 + (cls (L.drop i)).length)).length := by rw [sp_len _ _ _ f1]; simp [cel]; omega
    have b2 := blk_setCells g 270 (cel x) (i * 2) _ _ b1 f2
    refine ⟨_, rfl, ?_, ?_, fun g' hg' => Or.inl hg'⟩
    · refine own_mk b2 (by simp; omega) (by simp; omega) h2 (by rw [sp_len _ _ _ f2, sp_len _ _ _ f1]; exact h3) (ins_cells L x i hi (fun k hk => ?_) (fun k hk => ?_) (fun k hk => ?_))
      · rw [sp_get _ _ _ f2, if_neg (by omega), sp_get _ _ _ f1, if_neg (by omega), ← cls_take, List.getElem?_take, if_pos hk, ← h4, List.getElem?_take, if_pos (by omega)]
      · rw [sp_get _ _ _ f2, if_pos (by simp [cel]; omega)]
        congr 1
        omega
      · rw [sp_get _ _ _ f2, if_neg (by simp [cel]; omega), sp_get _ _ _ f1, if_pos (by rw [hdl]; omega)]
        congr 1
        omega
    · rw [ob_some]
      exact fr_setCells g (Or.inr (by simp)) _ _ _ (fr_setCells g (Or.inr (by simp)) _ _ _ (Fr.refl _ _ w).drew)
  · refine (insert_grow (tv := tv) (c := c) ho hb.lt hlt h1 (by omega) (by omega) hv).mono ?_
    rintro e w' ⟨G, R, rfl, g1, g2, g3, g4, sm⟩
    have f1 : i * 2 + (cel x).length ≤ R.length := by simp [cel]; omega
    have b1 := blk_setCells w.heap.size 270 (cel x) (i * 2) R (w.alloc (.cells R.toArray 270)) (Blk.new w R _) f1
    have f2 : (i + 1) * 2 + (cls (L.drop i)).length ≤ (R.take (i * 2) ++ cel x ++ R.drop (i * 2 + (cel x).length)).length := by rw [sp_len _ _ _ f1, hdl]; omega
    have b2 := (blk_setCells w.heap.size 270 (cls (L.drop i)) ((i + 1) * 2) _ _ b1 f2).heap sm.1
    refine ⟨_, rfl, ?_, ?_, fun g' hg' => ?_⟩
    · refine own_mk b2 (by simp; omega) (by simp; omega) g2 (by rw [sp_len _ _ _ f2, sp_len _ _ _ f1]; exact g3) (ins_cells L x i hi (fun k hk => ?_) (fun k hk => ?_) (fun k hk => ?_))
      · rw [sp_get _ _ _ f2, if_neg (by omega), sp_get _ _ _ f1, if_neg (by omega), ← g4, List.getElem?_take, if_pos hk]
      · rw [sp_get _ _ _ f2, if_neg (by omega), sp_get _ _ _ f1, if_pos (by simp [cel]; omega)]
        congr 1
        omega
      · rw [sp_get _ _ _ f2, if_pos (by rw [hdl]; omega)]
        congr 1
        omega
    · have fr : Fr w.heap.size [] w (((w.alloc (.cells R.toArray 270)).setCells w.heap.size (i * 2) (cel x)).setCells w.heap.size ((i + 1) * 2) (cls (L.drop i))) := fr_setCells _ (Or.inl (Nat.le_refl _)) _ _ _ (fr_setCells _ (Or.inl (Nat.le_refl _)) _ _ _ ((Fr.refl _ _ w).alloc (Nat.le_refl _) _))
      exact Fr.mono ⟨sm.2.1.trans fr.os, sm.2.2.1.trans fr.tape, sm.2.2.2.trans fr.output, by rw [sm.1]; exact fr.size, fun k hk hs => by rw [sm.1]; exact fr.block k hk hs⟩ (Nat.le_refl _) (by simp)
    · rw [ob_some] at hg'
      simp at hg'
      exact Or.inr (by omega)
end Go.Proofs.YtfipiifickdeiaaGreatDoor.Tim
namespace Go.Proofs.YtfipiifickdeiaaGreatDoor.Tim
open Slt
open Go.ChangeShapes Go.WideShapes Go.ChangeAt Go.RowKit
open Wm
end Go.Proofs.YtfipiifickdeiaaGreatDoor.Tim
namespace Go.Proofs.YtfipiifickdeiaaGreatDoor.Tim
open Slt
open Go.ChangeShapes Go.WideShapes Go.ChangeAt Go.RowKit
open Wm
/-- What comes of comparing two numbers. -/
def cp (a b : Int) : Int := if a < b then -1 else if b < a then 1 else 0
theorem cmp64_any (a b : Int) (w : World) : Calls Tryz.prog 311 #[.int .i64 a, .int .i64 b] w fun e w' => e = .returned (.int .i64 (cp a b)) ∧ w' = w := by
  unfold cp
  by_cases c1 : a < b
  · rw [if_pos c1]
    go_enter Tryz.func311, Tryz.ntmps311
    go_wp2
    all_goals (go_ret; exact ⟨rfl, rfl⟩)
  · rw [if_neg c1]
    by_cases c2 : b < a
    · rw [if_pos c2]
      go_enter Tryz.func311, Tryz.ntmps311
      go_wp2
      all_goals (go_ret; exact ⟨rfl, rfl⟩)
    · rw [if_neg c2]
      go_enter Tryz.func311, Tryz.ntmps311
      go_wp2
      all_goals (go_ret; exact ⟨rfl, rfl⟩)
theorem cmp_any (a b : Int) (w : World) : Calls Tryz.prog 312 #[.int .i64 a, .int .i64 b] w fun e w' => e = .returned (.int .i64 (cp a b)) ∧ w' = w := by
  unfold cp
  by_cases c1 : a < b
  · rw [if_pos c1]
    go_enter Tryz.func312, Tryz.ntmps312
    go_wp2
    all_goals (go_ret; exact ⟨rfl, rfl⟩)
  · rw [if_neg c1]
    by_cases c2 : b < a
    · rw [if_pos c2]
      go_enter Tryz.func312, Tryz.ntmps312
      go_wp2
      all_goals (go_ret; exact ⟨rfl, rfl⟩)
    · rw [if_neg c2]
      go_enter Tryz.func312, Tryz.ntmps312
      go_wp2
      all_goals (go_ret; exact ⟨rfl, rfl⟩)
set_option maxHeartbeats 1000000 in
theorem or_any (a b : Int) (w : World) (g off c : Nat) (h0 : w.cell? ⟨g, off, none⟩ = some (.int .i64 a)) (h1 : w.cell? ⟨g, off + 1, none⟩ = some (.int .i64 b)) :
    Calls Tryz.prog 310 #[.slice (some ⟨g, off, none⟩) 2 c] w fun e w' => e = .returned (.int .i64 (if a = 0 then b else a)) ∧ w' = w := by
  by_cases c1 : a = 0
  · rw [if_pos c1]
    subst c1
    by_cases c2 : b = 0
    · subst c2
      go_enter Tryz.func310, Tryz.ntmps310
      go_wp2
      go_loopw [8] (fun i wr => wr = w ∧ ∃ k : Nat, (k : Int) ≤ 2 ∧ i = .int .i64 k) (fun i _ => 2 - (intOf i).toNat)
      case atStart => exact ⟨rfl, 0, by omega, rfl⟩
      case round =>
        obtain ⟨rfl, k, hk, rfl⟩ := hrel
        by_cases h : (k : Int) < 2
        · have hc : wr.cell? ⟨g, off + k, none⟩ = some (.int .i64 0) := by
            rcases (by omega : k = 0 ∨ k = 1) with rfl | rfl
            · exact h0
            · exact h1
          clear h0 h1
          go_wp2
          go_roundw
          case rel => exact ⟨trivial, k + 1, by omega, by go_num⟩
          case measure => simp [intOf]; omega
        · go_wp2
          go_ret
          exact ⟨rfl, rfl⟩
    · go_enter Tryz.func310, Tryz.ntmps310
      go_wp2
      go_loopw [8] (fun i wr => wr = w ∧ ∃ k : Nat, (k : Int) ≤ 1 ∧ i = .int .i64 k) (fun i _ => 2 - (intOf i).toNat)
      case atStart => exact ⟨rfl, 0, by omega, rfl⟩
      case round =>
        obtain ⟨rfl, k, hk, rfl⟩ := hrel
        have hlt : (k : Int) < 2 := by omega
        rcases (by omega : k = 0 ∨ k = 1) with rfl | rfl
        · go_wp2
          go_roundw
          case rel => exact ⟨trivial, 1, by omega, by go_num⟩
          case measure => simp [intOf]
        · go_wp2
          go_ret
          exact ⟨rfl, rfl⟩
  · rw [if_neg c1]
    go_enter Tryz.func310, Tryz.ntmps310
    go_wp2
    go_loopw [8] (fun i wr => wr = w ∧ i = .int .i64 0) (fun i _ => 2 - (intOf i).toNat)
    case atStart => exact ⟨rfl, rfl⟩
    case round =>
      obtain ⟨rfl, rfl⟩ := hrel
      go_wp2
      go_ret
      exact ⟨rfl, rfl⟩
theorem cm_or (x y : It) : (if cp x.1 y.1 = 0 then cp x.2 y.2 else cp x.1 y.1) = cm x y := by
  unfold cp cm
  by_cases c1 : x.1 < y.1
  · simp [c1]
  · by_cases c2 : y.1 < x.1
    · simp [c1, c2]
    · simp [c1, c2]
set_option maxRecDepth 100000 in
set_option maxHeartbeats 4000000 in
theorem clo_any (x y : It) (w : World) :
    Calls Tryz.prog 309 #[.agg #[.int .i64 x.2, .int .i64 x.1], .agg #[.int .i64 y.2, .int .i64 y.1]] w fun e w' => e = .returned (.int .i64 (cm x y)) ∧ Below w.heap.size w w' := by
  rw [← cm_or]
  have C1 : Hid (∀ w, _) := fun w => cmp64_any x.1 y.1 w
  have C2 : Hid (∀ w, _) := fun w => cmp_any x.2 y.2 w
  generalize cp x.1 y.1 = p at *
  generalize cp x.2 y.2 = q at *
  have C3 : Hid (∀ (w : World) (g off c : Nat), _) := fun w g off c => or_any p q w g off c
  obtain ⟨a, b⟩ := x
  obtain ⟨c, d⟩ := y
  dsimp only at *
  obtain ⟨r, hr⟩ : ∃ r, r = if p = 0 then q else p := ⟨_, rfl⟩
  rw [← hr] at C3 ⊢
  clear hr
  have W0 : Hid (Below w.heap.size w ((w.alloc (.cells #[.int .i64 b, .int .i64 a] 270)).alloc (.cells #[.int .i64 d, .int .i64 c] 270))) := ((Below.refl _ _).alloc (Nat.le_refl _) _).alloc (by simp) _
  go_enter Tryz.func309, Tryz.ntmps309
  go_wp2
  have W1 := W0.out
  have k1 : ((w.alloc (.cells #[.int .i64 b, .int .i64 a] 270)).alloc (.cells #[.int .i64 d, .int .i64 c] 270)).cell? ⟨w.heap.size, 0, none⟩ = some (.int .i64 b) := ((Blk.new w [.int .i64 b, .int .i64 a] 270).alloc _).cell 0
  have k2 : ((w.alloc (.cells #[.int .i64 b, .int .i64 a] 270)).alloc (.cells #[.int .i64 d, .int .i64 c] 270)).cell? ⟨w.heap.size, 1, none⟩ = some (.int .i64 a) := ((Blk.new w [.int .i64 b, .int .i64 a] 270).alloc _).cell 1
  have k3 : ((w.alloc (.cells #[.int .i64 b, .int .i64 a] 270)).alloc (.cells #[.int .i64 d, .int .i64 c] 270)).cell? ⟨w.heap.size + 1, 0, none⟩ = some (.int .i64 d) := by simp
  have k4 : ((w.alloc (.cells #[.int .i64 b, .int .i64 a] 270)).alloc (.cells #[.int .i64 d, .int .i64 c] 270)).cell? ⟨w.heap.size + 1, 1, none⟩ = some (.int .i64 c) := by simp
  clear W0
  generalize (w.alloc (.cells #[.int .i64 b, .int .i64 a] 270)).alloc (.cells #[.int .i64 d, .int .i64 c] 270) = u at *
  have BU : Hid (Below w.heap.size w u) := W1
  clear W1
  go_region_held3 (fun w' => w'.cell? ⟨w.heap.size, 0, none⟩ = some (.int .i64 b) ∧ w'.cell? ⟨w.heap.size, 1, none⟩ = some (.int .i64 a) ∧ w'.cell? ⟨w.heap.size + 1, 0, none⟩ = some (.int .i64 d) ∧ w'.cell? ⟨w.heap.size + 1, 1, none⟩ = some (.int .i64 c)) (go_keep) (first | (go_at_call 311; refine (C1.out _).mono ?_; rintro e v1 ⟨rfl, rfl⟩) | (go_at_call 312; refine (C2.out _).mono ?_; rintro e v1 ⟨rfl, rfl⟩) | (go_at_call 310; refine (C3.out _ _ _ _ ?_ ?_).mono ?_; go_keep; go_keep; rintro e v1 ⟨rfl, rfl⟩))
  have B2 : Hid (Below w.heap.size w (u.alloc (.cells #[.int .i64 p, .int .i64 q] 3)).drew) := (BU.out.alloc BU.out.size _).drew
  go_wp2
  go_ret
  exact ⟨rfl, B2.out⟩
theorem at_is {L : List It} {x : It} {i : Nat} (hi : i ≤ L.length) (h1 : ∀ t y, t < i → L[t]? = some y → lt y x) (h2 : ∀ t y, i ≤ t → L[t]? = some y → ¬ lt y x) : at_ L x = i := by
  unfold at_
  have e : L = L.take i ++ L.drop i := (List.take_append_drop i L).symm
  have f1 : (L.take i).filter (fun y => decide (lt y x)) = L.take i := List.filter_eq_self.2 fun y hy => by
    obtain ⟨t, ht, e⟩ := List.mem_iff_getElem.1 hy
    have ht2 : t < i := by simp at ht; omega
    simpa using h1 t y ht2 (by rw [← e, List.getElem_take]; exact List.getElem?_eq_getElem _)
  have f2 : (L.drop i).filter (fun y => decide (lt y x)) = [] := List.filter_eq_nil_iff.2 fun y hy => by
    obtain ⟨t, ht, e⟩ := List.mem_iff_getElem.1 hy
    simpa using h2 (i + t) y (by omega) (by rw [← e, List.getElem_drop]; exact List.getElem?_eq_getElem _)
  rw [e, List.filter_append, f1, f2]
  simp
  omega
theorem srt_le {L : List It} (h : Srt L) {a b : Nat} {y z : It} (hab : a ≤ b) (ha : L[a]? = some y) (hb : L[b]? = some z) : y = z ∨ lt y z := by
  by_cases e : a = b
  · subst e
    rw [ha] at hb
    exact Or.inl (by simpa using hb)
  · obtain ⟨h1, e1⟩ := List.getElem?_eq_some_iff.1 ha
    obtain ⟨h2, e2⟩ := List.getElem?_eq_some_iff.1 hb
    have := List.pairwise_iff_getElem.1 h a b h1 h2 (by omega)
    rw [e1, e2] at this
    exact Or.inr this
theorem own_at {w : World} {a : Option Addr} {n cap : Nat} {L : List It} (ho : Own 270 w (.slice a n cap) L) {i : Nat} (hi : i < L.length) : ∃ g y, a = some ⟨g, 0, none⟩ ∧ g < w.heap.size ∧ L[i]? = some y ∧ w.cell? ⟨g, i * 2, none⟩ = some (.int .i64 y.2) ∧ w.cell? ⟨g, i * 2 + 1, none⟩ = some (.int .i64 y.1) := by
  obtain ⟨g, e, h⟩ := ho.cell hi
  have hy := List.getElem?_eq_getElem hi
  obtain ⟨h1, h2⟩ := h _ hy
  exact ⟨g, L[i], e, World.block_lt_of_cell? w _ h1, hy, h1, h2⟩
set_option maxRecDepth 100000 in
set_option maxHeartbeats 4000000 in
theorem bsf_any {w : World} {a : Option Addr} {cap : Nat} {L : List It} (x : It) (ho : Own 270 w (.slice a L.length cap) L) (hs : Srt L) (hl : L.length ≤ 2900) :
    Calls Tryz.prog 308 #[.slice a L.length cap, .agg #[.int .i64 x.2, .int .i64 x.1], .func (.func 309) #[] #[]] w fun e w' => (∃ b, e = .returned (.tuple #[.int .i64 (at_ L x : Nat), .bool b])) ∧ Below w.heap.size w w' := by
  obtain ⟨r, hr⟩ : ∃ r, r = at_ L x := ⟨_, rfl⟩
  rw [← hr]
  have AT : Hid (∀ i, i ≤ L.length → (∀ t y, t < i → L[t]? = some y → lt y x) → (∀ t y, i ≤ t → L[t]? = some y → ¬ lt y x) → r = i) := fun i h0 h1 h2 => hr.trans (at_is h0 h1 h2)
  have MO : Hid (∀ {p q : Nat} {y z : It}, p ≤ q → L[p]? = some y → L[q]? = some z → y = z ∨ lt y z) := fun h1 h2 h3 => srt_le hs h1 h2 h3
  have CE : Hid (∀ (wr : World) (i : Nat), Below (w.heap.size + 1) (w.alloc (.cells #[.int .i64 x.2, .int .i64 x.1] 270)) wr → i < L.length → ∃ g y, a = some ⟨g, 0, none⟩ ∧ L[i]? = some y ∧ wr.cell? ⟨g, i * 2, none⟩ = some (.int .i64 y.2) ∧ wr.cell? ⟨g, i * 2 + 1, none⟩ = some (.int .i64 y.1) ∧ wr.cell? ⟨w.heap.size, 0, none⟩ = some (.int .i64 x.2) ∧ wr.cell? ⟨w.heap.size, 1, none⟩ = some (.int .i64 x.1)) := fun wr i hB hi => by
    obtain ⟨g, y, e, hg, hy, h1, h2⟩ := own_at ho hi
    have hb := (Blk.new w [.int .i64 x.2, .int .i64 x.1] 270)
    have ha : ∀ k, (w.alloc (.cells #[.int .i64 x.2, .int .i64 x.1] 270)).cell? ⟨g, k, none⟩ = w.cell? ⟨g, k, none⟩ := fun k => World.cell?_of_block (Below.heap_alloc _ _ _ hg)
    refine ⟨g, y, e, hy, ?_, ?_, ?_, ?_⟩
    · rw [hB.cell (p := ⟨g, i * 2, none⟩) (by show g < _; omega), ha]; exact h1
    · rw [hB.cell (p := ⟨g, i * 2 + 1, none⟩) (by show g < _; omega), ha]; exact h2
    · rw [hB.cell (p := ⟨w.heap.size, 0, none⟩) (by show w.heap.size < _; omega)]; exact hb.cell 0
    · rw [hB.cell (p := ⟨w.heap.size, 1, none⟩) (by show w.heap.size < _; omega)]; exact hb.cell 1
  have FIN : Hid (∀ wr, Below (w.heap.size + 1) (w.alloc (.cells #[.int .i64 x.2, .int .i64 x.1] 270)) wr → Below w.heap.size w wr) := fun wr hB => ((Below.refl w.heap.size w).alloc (Nat.le_refl _) _).trans (hB.mono (by omega))
  have CC : Hid (∀ (y : It) (w : World), _) := fun y w => clo_any y x w
  obtain ⟨n, hn⟩ : ∃ n, L.length = n := ⟨_, rfl⟩
  rw [hn] at AT CE ⊢
  have z1 : (n : Int) ≤ 2900 := by omega
  have LL : Hid (L.length = n) := hn
  clear hr hs ho hl hn
  go_enter Tryz.func308, Tryz.ntmps308
  go_wp2
  go_loopw [9, 10] (fun s9 s10 wr => ∃ lo hi : Nat, s9 = .int .i64 lo ∧ s10 = .int .i64 hi ∧ (lo : Int) ≤ hi ∧ (hi : Int) ≤ n ∧ Hid (Below (w.heap.size + 1) (w.alloc (.cells #[.int .i64 x.2, .int .i64 x.1] 270)) wr) ∧ Hid ((∀ t y, t < lo → L[t]? = some y → lt y x) ∧ (∀ t y, hi ≤ t → L[t]? = some y → ¬ lt y x))) (fun s9 s10 _ => (intOf s10).toNat - (intOf s9).toNat)
  case atStart => exact ⟨0, n, rfl, rfl, by omega, Int.le_refl _, Below.mono (Below.refl _ _) (Nat.le_refl _), ⟨fun t y h => absurd h (Nat.not_lt_zero _), fun t y h1 h2 => by have := (List.getElem?_eq_some_iff.1 h2).1; have := LL.out; omega⟩⟩
  case round =>
    obtain ⟨lo, hi, rfl, rfl, h1, h2, B, I⟩ := hrel
    have SZ : w.heap.size + 1 ≤ wr.heap.size := by have := B.out.size; simpa using this
    have KP : Hid (∀ W v1 : World, Below W.heap.size W v1 → Sm W wr → Below (w.heap.size + 1) (w.alloc (.cells #[.int .i64 x.2, .int .i64 x.1] 270)) v1) := fun W v1 hb hs => B.out.trans (hs.from (hb.mono (by rw [hs.1]; exact SZ)))
    have KC : Hid (∀ (W v1 : World) (p : Addr) (u : Value), Below W.heap.size W v1 → Sm W wr → wr.cell? p = some u → v1.cell? p = some u) := fun W v1 p u hb hs hp => by
      have := World.block_lt_of_cell? wr _ hp
      rw [hb.cell (by rw [hs.1]; exact this), World.cell?_of_block (w := wr) (by rw [hs.1])]
      exact hp
    clear SZ
    by_cases hlt : (lo : Int) < hi
    · have hm : (((lo : Int) + hi) / 2) = (((lo + hi) / 2 : Nat) : Int) := by omega
      obtain ⟨g, y, rfl, hy, k1, k2, k3, k4⟩ := CE.out wr ((lo + hi) / 2) B.out (by omega)
      have hmn : (((lo + hi) / 2 : Nat) : Int) < n := by omega
      have hml : (lo : Int) ≤ (((lo + hi) / 2 : Nat) : Int) := by omega
      have hmh : (((lo + hi) / 2 : Nat) : Int) < hi := by omega
      have HY : Hid (L[(lo + hi) / 2]? = some y) := hy
      clear hy
      obtain ⟨m, em⟩ : ∃ m, m = (lo + hi) / 2 := ⟨_, rfl⟩
      rw [← em] at HY k1 k2 hmn hml hmh hm
      clear em
      have C := CC.out y
      by_cases hc : cm y x < 0
      · have C1 : Hid (∀ w, _) := fun w => C w
        have I2 : Hid ((∀ t y, t < m + 1 → L[t]? = some y → lt y x) ∧ (∀ t y, hi ≤ t → L[t]? = some y → ¬ lt y x)) := ⟨fun t z ht hz => by
          rcases MO.out (by omega : t ≤ m) hz HY.out with e | e
          · rw [e]; exact (cm_lt y x).1 hc
          · exact lt_trans e ((cm_lt y x).1 hc), I.out.2⟩
        generalize cm y x = cr at *
        clear C I
        go_wp2_with fail
        go_region_held3 (fun w' => w'.cell? ⟨g, m * 2, none⟩ = some (.int .i64 y.2) ∧ w'.cell? ⟨g, m * 2 + 1, none⟩ = some (.int .i64 y.1) ∧ w'.cell? ⟨w.heap.size, 0, none⟩ = some (.int .i64 x.2) ∧ w'.cell? ⟨w.heap.size, 1, none⟩ = some (.int .i64 x.1)) (go_keep) (first | (go_at_call 309; refine (C1.out _).mono ?_; rintro e v1 ⟨rfl, b1⟩; have j1 := KC.out _ v1 _ _ b1 ⟨rfl, rfl, rfl, rfl⟩ k1; have j2 := KC.out _ v1 _ _ b1 ⟨rfl, rfl, rfl, rfl⟩ k2; have j3 := KC.out _ v1 _ _ b1 ⟨rfl, rfl, rfl, rfl⟩ k3; have j4 := KC.out _ v1 _ _ b1 ⟨rfl, rfl, rfl, rfl⟩ k4; have J5 := KP.out _ v1 b1 ⟨rfl, rfl, rfl, rfl⟩))
        go_wp2
        go_roundw
        case rel => exact ⟨m + 1, hi, by go_num, rfl, by omega, h2, J5, I2.out⟩
        case measure => simp [intOf]; omega
      · have C1 : Hid (∀ w, _) := fun w => C w
        have I2 : Hid ((∀ t y, t < lo → L[t]? = some y → lt y x) ∧ (∀ t y, m ≤ t → L[t]? = some y → ¬ lt y x)) := ⟨I.out.1, fun t z ht hz hlz => by
          rcases MO.out ht HY.out hz with e | e
          · rw [e] at hc; exact hc ((cm_lt z x).2 hlz)
          · exact hc ((cm_lt y x).2 (lt_trans e hlz))⟩
        generalize cm y x = cr at *
        clear C I
        go_wp2_with fail
        go_region_held3 (fun w' => w'.cell? ⟨g, m * 2, none⟩ = some (.int .i64 y.2) ∧ w'.cell? ⟨g, m * 2 + 1, none⟩ = some (.int .i64 y.1) ∧ w'.cell? ⟨w.heap.size, 0, none⟩ = some (.int .i64 x.2) ∧ w'.cell? ⟨w.heap.size, 1, none⟩ = some (.int .i64 x.1)) (go_keep) (first | (go_at_call 309; refine (C1.out _).mono ?_; rintro e v1 ⟨rfl, b1⟩; have j1 := KC.out _ v1 _ _ b1 ⟨rfl, rfl, rfl, rfl⟩ k1; have j2 := KC.out _ v1 _ _ b1 ⟨rfl, rfl, rfl, rfl⟩ k2; have j3 := KC.out _ v1 _ _ b1 ⟨rfl, rfl, rfl, rfl⟩ k3; have j4 := KC.out _ v1 _ _ b1 ⟨rfl, rfl, rfl, rfl⟩ k4; have J5 := KP.out _ v1 b1 ⟨rfl, rfl, rfl, rfl⟩))
        go_wp2
        go_roundw
        case rel => exact ⟨lo, m, rfl, rfl, by omega, by omega, J5, I2.out⟩
        case measure => simp [intOf]; omega
    · obtain rfl : hi = lo := by omega
      obtain rfl := AT.out hi (by omega) I.out.1 I.out.2
      clear I h1 hlt
      by_cases hn : (r : Int) < n
      · have hd : decide ((r : Int) < (n : Int)) = true := decide_eq_true hn
        obtain ⟨g, y, rfl, hy, k1, k2, k3, k4⟩ := CE.out wr r B.out (by omega)
        have C1 : Hid (∀ w, _) := fun w => CC.out y w
        generalize cm y x = cr at *
        go_wp2_with fail
        go_region_held3 (fun w' => w'.cell? ⟨g, r * 2, none⟩ = some (.int .i64 y.2) ∧ w'.cell? ⟨g, r * 2 + 1, none⟩ = some (.int .i64 y.1) ∧ w'.cell? ⟨w.heap.size, 0, none⟩ = some (.int .i64 x.2) ∧ w'.cell? ⟨w.heap.size, 1, none⟩ = some (.int .i64 x.1)) (go_keep) (first | (go_at_call 309; refine (C1.out _).mono ?_; rintro e v1 ⟨rfl, b1⟩; have j1 := KC.out _ v1 _ _ b1 ⟨rfl, rfl, rfl, rfl⟩ k1; have j2 := KC.out _ v1 _ _ b1 ⟨rfl, rfl, rfl, rfl⟩ k2; have j3 := KC.out _ v1 _ _ b1 ⟨rfl, rfl, rfl, rfl⟩ k3; have j4 := KC.out _ v1 _ _ b1 ⟨rfl, rfl, rfl, rfl⟩ k4; have J5 := KP.out _ v1 b1 ⟨rfl, rfl, rfl, rfl⟩))
        go_wp2
        go_ret2
        exact ⟨⟨_, rfl⟩, FIN.out _ J5⟩
      · obtain rfl : r = n := by omega
        clear hn
        have BB : Hid (Below w.heap.size w wr) := FIN.out wr B.out
        go_wp2_with fail
        go_quiet (fail)
        go_wp2
        go_ret2
        exact ⟨⟨_, rfl⟩, ⟨BB.out.os, BB.out.tape, BB.out.output, BB.out.size, BB.out.block⟩⟩
end Go.Proofs.YtfipiifickdeiaaGreatDoor.Tim
namespace Go.Proofs.YtfipiifickdeiaaGreatDoor.Tim
open Slt
open Go.ChangeShapes Go.WideShapes Go.ChangeAt Go.RowKit
theorem key3 : Maps.Keyed Tryz.prog 3 := Maps.int_keyed Tryz.underlying3
/-- The map at block b, of m entries with elements of type te, is f. -/
def MQ (te : TypeId) (w : World) (b m : Nat) (f : Int → Option Int) : Prop :=
  ∃ D : DataW Unit, w.ownsMap Tryz.prog 3 (plainElem Tryz.prog te) b m D ∧ Maps.size D = m ∧ ∀ id, (Lit.int .i64 id).wf = true → Maps.has D (.int .i64 id) = (f id).isSome ∧ D.atKey (.int .i64 id) (.lit (.int .i64 0)) = .lit (.int .i64 ((f id).getD 0))
theorem MQ.lt {te : TypeId} {w : World} {b m : Nat} {f : Int → Option Int} (h : MQ te w b m f) : b < w.heap.size := by obtain ⟨D, o, _⟩ := h; exact o.lt
theorem MQ.same {te : TypeId} {w w' : World} {b m : Nat} {f : Int → Option Int} (h : MQ te w b m f) (e : w'.heap[b]? = w.heap[b]?) : MQ te w' b m f := by
  obtain ⟨D, ⟨es, clock, hb, rest⟩, k⟩ := h
  exact ⟨D, ⟨es, clock, e.trans hb, rest⟩, k⟩
theorem MQ.keep {te : TypeId} {B : Nat} {S : List Nat} {w w' : World} {b m : Nat} {f : Int → Option Int} (h : MQ te w b m f) (k : Fr B S w w') (hb : b < B) (hs : b ∉ S) : MQ te w' b m f := h.same (k.block b hb hs)
theorem MQ.blk {te : TypeId} {w : World} {b m : Nat} {f : Int → Option Int} (h : MQ te w b m f) {g : Nat} {cs : List Value} {t : TypeId} (k : Blk w g cs t) : b ≠ g := by
  intro e
  subst e
  obtain ⟨D, ⟨es, clock, hb, _⟩, _⟩ := h
  have := (show w.heap[b]? = _ from k).symm.trans hb
  cases this
theorem MQ.congr {te : TypeId} {w : World} {b m : Nat} {f g : Int → Option Int} (h : MQ te w b m f) (e : ∀ i, g i = f i) : MQ te w b m g := by
  have : g = f := funext e
  rw [this]
  exact h
theorem mq_tight {te : TypeId} {w : World} {b n : Nat} {D : DataW Unit} (h : w.ownsMap Tryz.prog 3 (plainElem Tryz.prog te) b n D) : w.ownsMap Tryz.prog 3 (plainElem Tryz.prog te) b (Maps.size D) D := by
  obtain ⟨es, clock, hb, F, _, rfl⟩ := h
  refine ⟨es, clock, hb, F, ?_, rfl⟩
  rw [Maps.size_eq, length_read]
  exact Nat.le_refl _
theorem mq_new {te : TypeId} (w : World) : MQ te (w.alloc (.map #[] 0)) w.heap.size 0 (fun _ => none) :=
  ⟨_, World.ownsMap_made w Tryz.prog 3 _, rfl, fun _ _ => ⟨rfl, rfl⟩⟩
section
variable {te tm : TypeId}
theorem mq_look (he : Tryz.prog.underlying te = some (.int .i64)) (hm : Tryz.prog.underlying tm = some (.map 3 te)) (hz : ∀ w, (zeroValue te).run Tryz.prog w = .ok (.int .i64 0) w) {w : World} {b m : Nat} {f : Int → Option Int} (h : MQ te w b m f) {id : Int} (hw : (Lit.int .i64 id).wf = true) :
    (Instr.lookup tm (.map (some b)) (.int .i64 id) true).run Tryz.prog w = .ok (.tuple #[.int .i64 ((f id).getD 0), .bool (f id).isSome]) w := by
  obtain ⟨D, o, _, k⟩ := h
  obtain ⟨v, ps, hrun, hv⟩ := o.look_ok key3 hm (hz w) (plainElem_int he (by decide)) (Maps.keyOf_int_mk Tryz.underlying3 hw)
  obtain ⟨k1, k2⟩ := k id hw
  rw [k2] at hv
  obtain ⟨c, rfl, hc, _⟩ := plainElem_int_inv he hv
  have e := congrArg Prod.fst hc
  simp only [DataW.lit.injEq, Lit.int.injEq, true_and] at e
  rw [hrun, k1, e]
theorem mq_none (hm : Tryz.prog.underlying tm = some (.map 3 te)) (hz : ∀ w, (zeroValue te).run Tryz.prog w = .ok (.int .i64 0) w) (w : World) {id : Int} (hw : (Lit.int .i64 id).wf = true) :
    (Instr.lookup tm (.map none) (.int .i64 id) true).run Tryz.prog w = .ok (.tuple #[.int .i64 0, .bool false]) w := by
  have := Maps.look_nil (w := w) true key3 hm (hz w) (Maps.keyOf_int_mk Tryz.underlying3 hw)
  simpa using this
/-- One is put in, that is there or not. -/
theorem mq_put (he : Tryz.prog.underlying te = some (.int .i64)) (hm : Tryz.prog.underlying tm = some (.map 3 te)) {w : World} {b m : Nat} {f : Int → Option Int} (h : MQ te w b m f) (hn : m ≤ 100000) {id : Int} (hw : (Lit.int .i64 id).wf = true) {c : Int} (hc : (Lit.int .i64 c).wf = true) :
    ∃ w', (Instr.mapUpdate tm (.map (some b)) (.int .i64 id) (.int .i64 c)).run Tryz.prog w = .ok () w' ∧ MQ te w' b (if (f id).isSome = true then m else m + 1) (fun j => if j = id then some c else f j) ∧ Fr w.heap.size [b] w w' := by
  obtain ⟨D, o, s, k⟩ := h
  obtain ⟨w', hrun, r1, r2⟩ := o.store key3 hm (by unfold maxLen; omega) (Maps.keyOf_int_mk Tryz.underlying3 hw) (plainElem_int he hc)
  have sz : Maps.size (D.put (.int .i64 id) (.lit (.int .i64 c))) = if (f id).isSome = true then m else m + 1 := by
    rw [Maps.size_put (o.tidy key3), (k id hw).1, s]
  refine ⟨w', hrun, ⟨_, sz ▸ mq_tight r1, sz, fun j hj => ?_⟩, ?_⟩
  · dsimp only
    by_cases e : j = id
    · subst e
      rw [if_pos rfl]
      have kl : WideAt.IsKeyLit (Lit.int .i64 j) := trivial
      exact ⟨Maps.has_put_same o.isMap kl _, Maps.atKey_put_same o.isMap kl _ _⟩
    · rw [if_neg e]
      have ne : (Lit.int .i64 j) ≠ Lit.int .i64 id := fun q => e (by cases q; rfl)
      rw [Maps.has_put_other ne, Maps.atKey_put_other ne]
      exact k j hj
  · have g := r2.grown
    exact ⟨g.os, g.tape, g.output, g.size, fun k hk hs => g.block k hk (fun e => hs (by cases e; simp))⟩
end
end Go.Proofs.YtfipiifickdeiaaGreatDoor.Tim
namespace Go.Proofs.YtfipiifickdeiaaGreatDoor.Tim
open Slt
open Go.ChangeShapes Go.WideShapes Go.ChangeAt Go.RowKit
open Wm
/-- A tick that may be. -/
def isT (d : Int) : Prop := 0 ≤ d ∧ d ≤ 1152921504606846976
instance (d : Int) : Decidable (isT d) := by unfold isT; infer_instance
theorem can_any (d : Int) (w : World) : Calls Tryz.prog 92 #[.int .i64 d] w fun e w' => e = .returned (.bool (decide (isT d))) ∧ w' = w := by
  by_cases c1 : 0 ≤ d
  · by_cases c2 : d ≤ 1152921504606846976
    · rw [decide_eq_true (show isT d from ⟨c1, c2⟩)]
      go_enter Tryz.func92, Tryz.ntmps92
      go_wp2
      go_ret
      exact ⟨rfl, rfl⟩
    · rw [decide_eq_false (fun h : isT d => c2 h.2)]
      go_enter Tryz.func92, Tryz.ntmps92
      go_wp2
      go_ret
      exact ⟨rfl, rfl⟩
  · rw [decide_eq_false (fun h : isT d => c1 h.1)]
    go_enter Tryz.func92, Tryz.ntmps92
    go_wp2
    go_ret
    exact ⟨rfl, rfl⟩
theorem i64_xor (x y : Nat) (hx : x < 2305843009213693952) (hy : y < 2305843009213693952) : bits .xor .i64 (x : Int) (y : Int) = ((x ^^^ y : Nat) : Int) := by
  show IntKind.i64.wrap ((BitVec.ofInt 64 (x : Int) ^^^ BitVec.ofInt 64 (y : Int)).toNat : Int) = _
  have h1 : (BitVec.ofInt 64 (x : Int)).toNat = x := by
    rw [BitVec.ofInt_natCast, BitVec.toNat_ofNat]; exact Nat.mod_eq_of_lt (by omega)
  have h2 : (BitVec.ofInt 64 (y : Int)).toNat = y := by
    rw [BitVec.ofInt_natCast, BitVec.toNat_ofNat]; exact Nat.mod_eq_of_lt (by omega)
  have h3 : x ^^^ y < 2 ^ 61 := Nat.xor_lt_two_pow (by omega) (by omega)
  rw [BitVec.toNat_xor, h1, h2, IntKind.wrap_i64]
  omega
theorem i64_and7 (x : Nat) (hx : x < 2305843009213693952) : bits .and .i64 (x : Int) 7 = ((x % 8 : Nat) : Int) := by
  show IntKind.i64.wrap ((BitVec.ofInt 64 (x : Int) &&& BitVec.ofInt 64 7).toNat : Int) = _
  have h1 : (BitVec.ofInt 64 (x : Int)).toNat = x := by
    rw [BitVec.ofInt_natCast, BitVec.toNat_ofNat]; exact Nat.mod_eq_of_lt (by omega)
  have h2 : (BitVec.ofInt 64 7).toNat = 2 ^ 3 - 1 := by decide
  rw [BitVec.toNat_and, h1, h2, Nat.and_two_pow_sub_one_eq_mod, IntKind.wrap_i64]
  omega
set_option maxRecDepth 100000 in
set_option maxHeartbeats 1000000 in
theorem level_any (a b : Int) (w : World) (ha : isT a) (hb : isT b) : Calls Tryz.prog 306 #[.int .i64 a, .int .i64 b] w fun e w' => e = .returned (.int .i64 (lv a.toNat b.toNat : Nat)) ∧ w' = w := by
  obtain ⟨A, rfl⟩ := Int.eq_ofNat_of_zero_le ha.1
  obtain ⟨B, rfl⟩ := Int.eq_ofNat_of_zero_le hb.1
  unfold isT at ha hb
  have x1 := i64_xor A B (by omega) (by omega)
  have h3 : A ^^^ B < 2 ^ 61 := Nat.xor_lt_two_pow (by omega) (by omega)
  have hn := bl_lt 61 _ h3 (by decide)
  rw [Int.toNat_natCast, Int.toNat_natCast]
  unfold lv
  have x2 : IntKind.u64.wrap ((A ^^^ B : Nat) : Int) = ((A ^^^ B : Nat) : Int) := by rw [IntKind.wrap_u64]; omega
  have C : Hid (∀ w, _) := fun w => len_int ((A ^^^ B : Nat) : Int) w (by omega) (by omega)
  rw [Int.toNat_natCast] at C
  generalize Lib.bitLen (A ^^^ B) = N at *
  generalize ((A ^^^ B : Nat) : Int) = X at *
  have hn2 : (N : Int) ≤ 61 := by omega
  clear ha hb h3 hn
  by_cases h0 : N = 0
  · subst h0
    go_enter Tryz.func306, Tryz.ntmps306
    go_wp2_with fail
    refine (C.out _).mono ?_
    rintro e w' ⟨rfl, rfl⟩
    go_wp2
    go_ret
    exact ⟨rfl, rfl⟩
  · obtain ⟨M, rfl⟩ : ∃ M, N = M + 1 := ⟨N - 1, by omega⟩
    rw [Nat.add_sub_cancel]
    have hM : ((M : Int) + 1) - 1 = (M : Int) := by omega
    obtain ⟨q, hq⟩ : ∃ q, q = M / 3 := ⟨_, rfl⟩
    rw [← hq]
    have hM2 : Hid ((M : Int) / 3 = ((q : Nat) : Int)) := by
      show (M : Int) / 3 = ((q : Nat) : Int)
      rw [hq]
      omega
    clear hq
    have hM3 : (M : Int) ≤ 60 := by omega
    clear hn2 h0
    go_enter Tryz.func306, Tryz.ntmps306
    go_wp2_with fail
    refine (C.out _).mono ?_
    rintro e w' ⟨rfl, rfl⟩
    go_wp2
    go_ret
    exact ⟨by rw [← hM2.out]; rfl, rfl⟩
set_option maxRecDepth 100000 in
set_option maxHeartbeats 1000000 in
theorem digit_any (a : Int) (l : Nat) (w : World) (ha : isT a) (hl : (l : Int) ≤ 20) : Calls Tryz.prog 307 #[.int .i64 a, .int .i64 (l : Nat)] w fun e w' => e = .returned (.int .i64 (a.toNat / 8 ^ l % 8 : Nat)) ∧ w' = w := by
  obtain ⟨A, rfl⟩ := Int.eq_ofNat_of_zero_le ha.1
  rw [Int.toNat_natCast]
  have e1 : (A : Int) / 2 ^ (l * 3) = ((A / 8 ^ l : Nat) : Int) := by
    rw [p8, Nat.mul_comm 3 l]
    simp
  have e2 := i64_and7 (A / 8 ^ l) (Nat.lt_of_le_of_lt (Nat.div_le_self _ _) (by unfold isT at ha; omega))
  rw [← e1] at e2
  generalize A / 8 ^ l % 8 = r at *
  clear e1 ha
  go_enter Tryz.func307, Tryz.ntmps307
  go_wp2
  go_ret
  exact ⟨rfl, rfl⟩
end Go.Proofs.YtfipiifickdeiaaGreatDoor.Tim
namespace Go.Proofs.YtfipiifickdeiaaGreatDoor.Tim
open Slt
open Go.ChangeShapes Go.WideShapes Go.ChangeAt Go.RowKit
open Wm
def nv : Value := .slice none 0 0
def upR (R : Nat → List It) (r : Nat) (l : List It) : Nat → List It := fun q => if q = r then l else R q
/-- The blocks of the rooms. -/
def bl (V : List Value) : List Nat := V.flatMap ob
/-- A wheel's struct at block s, and its rooms. -/
structure WR (w : World) (s : Nat) (now : Int) (mp : Option Nat) (V : List Value) (R : Nat → List It) : Prop where
  st : Blk w s (.int .i64 now :: .map mp :: V) 223
  vl : V.length = 169
  own : ∀ r, r < 169 → Own 270 w (V.getD r nv) (R r)
  apart : ∀ r q, r < 169 → q < 169 → r ≠ q → ∀ g, g ∈ ob (V.getD r nv) → g ∉ ob (V.getD q nv)
theorem bl_get {V : List Value} {r g : Nat} (h : g ∈ ob (V.getD r nv)) : g ∈ bl V := by
  rw [List.getD_eq_getElem?_getD] at h
  cases e : V[r]? with
  | none => rw [e] at h; simp [nv, ob, Value.ownBlock] at h
  | some v =>
    rw [e] at h
    exact List.mem_flatMap.2 ⟨v, List.mem_of_getElem? e, h⟩
theorem bl_mem {V : List Value} {g : Nat} (h : g ∈ bl V) : ∃ r, r < V.length ∧ g ∈ ob (V.getD r nv) := by
  obtain ⟨v, hv, hg⟩ := List.mem_flatMap.1 h
  obtain ⟨i, hi, e⟩ := List.mem_iff_getElem.1 hv
  refine ⟨i, hi, ?_⟩
  rw [List.getD_eq_getElem?_getD, List.getElem?_eq_getElem hi, Option.getD_some, e]
  exact hg
theorem bl_set {V : List Value} {r : Nat} {v : Value} {g : Nat} (h : g ∈ bl (V.set r v)) : g ∈ bl V ∨ g ∈ ob v := by
  obtain ⟨u, hu, hg⟩ := List.mem_flatMap.1 h
  rcases List.mem_or_eq_of_mem_set hu with q | q
  · exact Or.inl (List.mem_flatMap.2 ⟨u, q, hg⟩)
  · subst q
    exact Or.inr hg
theorem getD_set {α : Type} (V : List α) (c i : Nat) (v d : α) (hc : c < V.length) : (V.set c v).getD i d = if i = c then v else V.getD i d := by
  rw [List.getD_eq_getElem?_getD, List.getElem?_set]
  by_cases e : c = i
  · subst e
    simp [hc]
  · rw [if_neg e, if_neg (fun g => e g.symm), List.getD_eq_getElem?_getD]
theorem WR.c0 {w : World} {s : Nat} {now : Int} {mp : Option Nat} {V : List Value} {R : Nat → List It} (h : WR w s now mp V R) : w.cell? ⟨s, 0, none⟩ = some (.int .i64 now) := h.st.cell 0
theorem WR.c1 {w : World} {s : Nat} {now : Int} {mp : Option Nat} {V : List Value} {R : Nat → List It} (h : WR w s now mp V R) : w.cell? ⟨s, 1, none⟩ = some (.map mp) := h.st.cell 1
theorem WR.cr {w : World} {s : Nat} {now : Int} {mp : Option Nat} {V : List Value} {R : Nat → List It} (h : WR w s now mp V R) {r : Nat} (hr : r < 169) : w.cell? ⟨s, 2 + r, none⟩ = some (V.getD r nv) := by
  have hv := h.vl
  rw [h.st.cell, show 2 + r = r + 1 + 1 by omega, List.getElem?_cons_succ, List.getElem?_cons_succ, List.getD_eq_getElem?_getD, List.getElem?_eq_getElem (by omega)]
  rfl
theorem WR.shape {w : World} {s : Nat} {now : Int} {mp : Option Nat} {V : List Value} {R : Nat → List It} (h : WR w s now mp V R) {r : Nat} (hr : r < 169) : ∃ a cap, V.getD r nv = .slice a (R r).length cap := (h.own r hr).shape
theorem WR.lt {w : World} {s : Nat} {now : Int} {mp : Option Nat} {V : List Value} {R : Nat → List It} (h : WR w s now mp V R) {g : Nat} (hg : g ∈ bl V) : g < w.heap.size := by
  obtain ⟨r, hr, hm⟩ := bl_mem hg
  exact (h.own r (by have := h.vl; omega)).lt (mem_ob.1 hm)
/-- A block of another type is none of the rooms'. -/
theorem WR.not {w : World} {s : Nat} {now : Int} {mp : Option Nat} {V : List Value} {R : Nat → List It} (h : WR w s now mp V R) {k : Nat} {cs : List Value} {t : TypeId} (b : Blk w k cs t) (ht : 270 ≠ t) : k ∉ bl V := fun hm => by
  obtain ⟨r, hr, hg⟩ := bl_mem hm
  exact (h.own r (by have := h.vl; omega)).ne b ht (mem_ob.1 hg) rfl
theorem WR.keep {B : Nat} {S : List Nat} {w w' : World} {s : Nat} {now : Int} {mp : Option Nat} {V : List Value} {R : Nat → List It} (h : WR w s now mp V R) (f : Fr B S w w') (hB : w.heap.size ≤ B) (h1 : s ∉ S) (h2 : ∀ g ∈ bl V, g ∉ S) : WR w' s now mp V R :=
  ⟨h.st.keep f (Nat.lt_of_lt_of_le h.st.lt hB) h1, h.vl, fun r hr => (h.own r hr).keep f fun g hg => ⟨Nat.lt_of_lt_of_le ((h.own r hr).lt hg) hB, h2 g (bl_get (mem_ob.2 hg))⟩, h.apart⟩
theorem WR.below {w w' : World} {s : Nat} {now : Int} {mp : Option Nat} {V : List Value} {R : Nat → List It} (h : WR w s now mp V R) (f : Below w.heap.size w w') : WR w' s now mp V R := h.keep (Fr.of_below f) (Nat.le_refl _) (by simp) (by simp)
theorem WR.heap {w w1 : World} {s : Nat} {now : Int} {mp : Option Nat} {V : List Value} {R : Nat → List It} (h : WR w s now mp V R) (e : w1.heap = w.heap) : WR w1 s now mp V R := ⟨h.st.heap e, h.vl, fun r hr => (h.own r hr).heap e, h.apart⟩
theorem WR.congr {w : World} {s : Nat} {now : Int} {mp : Option Nat} {V : List Value} {R R' : Nat → List It} (h : WR w s now mp V R) (e : ∀ r, r < 169 → R' r = R r) : WR w s now mp V R' := ⟨h.st, h.vl, fun r hr => by rw [e r hr]; exact h.own r hr, h.apart⟩
/-- A room gets another list, in memory of its own: behind the store. -/
theorem WR.store {w w1 : World} {s : Nat} {now : Int} {mp : Option Nat} {V : List Value} {R : Nat → List It} (h : WR w s now mp V R) {r : Nat} (hr : r < 169) {v' : Value} {l' : List It} (f : Fr w.heap.size (ob (V.getD r nv)) w w1) (o : Own 270 w1 v' l') (n : ∀ g ∈ ob v', g ∈ ob (V.getD r nv) ∨ w.heap.size ≤ g) :
    WR (w1.setCell ⟨s, 2 + r, none⟩ v') s now mp (V.set r v') (upR R r l') := by
  have hv := h.vl
  have nb : s ∉ ob (V.getD r nv) := fun e => h.not h.st (by decide) (bl_get e)
  have s1 : Blk w1 s (.int .i64 now :: .map mp :: V) 223 := h.st.keep f h.st.lt nb
  have F : Fr w1.heap.size [s] w1 (w1.setCell ⟨s, 2 + r, none⟩ v') := (Fr.refl _ _ _).setCell (Or.inr (by simp)) v'
  refine ⟨?_, by simpa using hv, fun q hq => ?_, fun q p hq hp hn g hg => ?_⟩
  · have := s1.set (2 + r) v'
    rw [show 2 + r = r + 1 + 1 by omega, List.set_cons_succ, List.set_cons_succ] at this
    rw [show 2 + r = r + 1 + 1 by omega]
    exact this
  · rw [getD_set V r q v' nv (by omega)]
    unfold upR
    by_cases e : q = r
    · rw [if_pos e, if_pos e]
      exact o.keep F fun g hg => ⟨o.lt hg, by simp; exact fun e2 => o.ne s1 (by decide) hg e2.symm⟩
    · rw [if_neg e, if_neg e]
      have k := (h.own q hq).keep f fun g hg => ⟨(h.own q hq).lt hg, fun hm => h.apart r q hr hq (fun e2 => e e2.symm) g hm (mem_ob.2 hg)⟩
      exact k.keep F fun g hg => ⟨k.lt hg, by simp; exact fun e2 => k.ne s1 (by decide) hg e2.symm⟩
  · rw [getD_set V r q v' nv (by omega)] at hg
    rw [getD_set V r p v' nv (by omega)]
    by_cases e : q = r
    · rw [if_pos e] at hg
      rw [if_neg (fun e2 => hn (e.trans e2.symm))]
      rcases n g hg with m | m
      · exact h.apart r p hr hp (fun e2 => hn (e.trans e2)) g m
      · intro m2
        have := (h.own p hp).lt (mem_ob.1 m2)
        omega
    · rw [if_neg e] at hg
      by_cases e2 : p = r
      · rw [if_pos e2]
        intro m2
        rcases n g m2 with m | m
        · exact h.apart q r hq hr e g hg m
        · have := (h.own q hq).lt (mem_ob.1 hg)
          omega
      · rw [if_neg e2]
        exact h.apart q p hq hp hn g hg
theorem store_fr {w w1 : World} {s r : Nat} {V : List Value} {v' : Value} (f : Fr w.heap.size (ob (V.getD r nv)) w w1) : Fr w.heap.size (s :: bl V) w (w1.setCell ⟨s, 2 + r, none⟩ v') :=
  (f.mono (Nat.le_refl _) (fun k _ hk hs => hk (List.mem_cons_of_mem _ (bl_get hs)))).setCell (Or.inr (by simp)) v'
theorem store_bl {w : World} {V : List Value} {r : Nat} {v' : Value} (n : ∀ g ∈ ob v', g ∈ ob (V.getD r nv) ∨ w.heap.size ≤ g) : ∀ g ∈ bl (V.set r v'), g ∈ bl V ∨ w.heap.size ≤ g := fun g hg => by
  rcases bl_set hg with h | h
  · exact Or.inl h
  · rcases n g h with h | h
    · exact Or.inl (bl_get h)
    · exact Or.inr h
set_option maxRecDepth 100000 in
set_option maxHeartbeats 1000000 in
theorem room_any {w : World} {s : Nat} {now : Int} (d : Int) (h0 : w.cell? ⟨s, 0, none⟩ = some (.int .i64 now)) (hn : isT now) (hd : isT d) :
    Calls Tryz.prog 252 #[.pointer (some ⟨s, 0, none⟩), .int .i64 d] w fun e w' => e = .returned (.pointer (some ⟨s, 2 + rn now.toNat d.toNat, none⟩)) ∧ Sm w' w := by
  by_cases c : d ≤ now
  · rw [rn_due _ _ (by have := hd.1; omega)]
    go_enter Tryz.func252, Tryz.ntmps252
    go_wp2
    go_ret
    exact ⟨rfl, rfl, rfl, rfl, rfl⟩
  · rw [rn_not _ _ (by have := hn.1; omega)]
    have C1 : Hid (∀ w, _) := fun w => level_any now d w hn hd
    have hl : lv now.toNat d.toNat ≤ 20 := lv_le (by unfold isT at hn; unfold tk; omega) (by unfold isT at hd; unfold tk; omega)
    have C2 : Hid (∀ w, _) := fun w => digit_any d (lv now.toNat d.toNat) w hd (by omega)
    have hr : d.toNat / 8 ^ lv now.toNat d.toNat % 8 < 8 := Nat.mod_lt _ (by decide)
    generalize d.toNat / 8 ^ lv now.toNat d.toNat % 8 = r at *
    generalize lv now.toNat d.toNat = l at *
    have hl2 : (l : Int) < 21 := by omega
    have hr2 : (r : Int) < 8 := by omega
    have E : Hid (3 + l * 8 + r = 2 + (1 + 8 * l + r)) := by show 3 + l * 8 + r = 2 + (1 + 8 * l + r); omega
    clear hn hd hl hr
    go_enter Tryz.func252, Tryz.ntmps252
    go_wp2_with fail
    refine (C1.out _).mono ?_
    rintro e w' ⟨rfl, rfl⟩
    go_wp2_with fail
    go_region_held3 (fun _ => True) (trivial) (first | (go_at_call 307; refine (C2.out _).mono ?_; rintro e v1 ⟨rfl, rfl⟩))
    go_wp2
    go_ret
    exact ⟨by rw [← E.out]; rfl, rfl, rfl, rfl, rfl⟩
end Go.Proofs.YtfipiifickdeiaaGreatDoor.Tim
namespace Go.Proofs.YtfipiifickdeiaaGreatDoor.Tim
open Slt
open Go.ChangeShapes Go.WideShapes Go.ChangeAt Go.RowKit
open Wm
/-- A wheel of the tick now that has the things L. -/
structure WH (w : World) (s : Nat) (now : Int) (mp : Option Nat) (V : List Value) (L : List It) : Prop where
  wr : WR w s now mp V (rl (rm now) L)
  mq : (mp = none ∧ L = []) ∨ ∃ b, mp = some b ∧ MQ 2 w b L.length (wn L)
  srt : Srt L
  uni : Uni L
  tks : Tks L
  now : isT now
  ids : ∀ x ∈ L, (Lit.int .i64 x.2).wf = true
/-- The wheel's blocks. -/
def fp (s : Nat) (mp : Option Nat) (V : List Value) : List Nat := s :: (mp.toList ++ bl V)
theorem mem_fp {s : Nat} {mp : Option Nat} {V : List Value} {g : Nat} : g ∈ fp s mp V ↔ g = s ∨ mp = some g ∨ g ∈ bl V := by
  unfold fp
  cases mp with
  | none => simp
  | some b => simp [eq_comm]
/-- .. told by its blocks alone. -/
def WW (w : World) (s : Nat) (now : Int) (L : List It) (F : List Nat) : Prop := ∃ mp V, WH w s now mp V L ∧ F = fp s mp V
/-- A change within blocks F; the blocks are F' then. -/
structure Mv (w w' : World) (F F' : List Nat) : Prop where
  fr : Fr w.heap.size F w w'
  sub : ∀ g ∈ F', g ∈ F ∨ w.heap.size ≤ g
theorem Mv.refl (w : World) (F : List Nat) : Mv w w F F := ⟨Fr.refl _ _ _, fun _ h => Or.inl h⟩
theorem Mv.trans {a b c : World} {F G H : List Nat} (h : Mv a b F G) (k : Mv b c G H) : Mv a c F H := by
  have hs := h.fr.size
  refine ⟨⟨k.fr.os.trans h.fr.os, k.fr.tape.trans h.fr.tape, k.fr.output.trans h.fr.output, Nat.le_trans hs k.fr.size, fun i hi hn => ?_⟩, fun g hg => ?_⟩
  · rw [k.fr.block i (by omega) (fun hm => by rcases h.sub i hm with q | q; exact hn q; omega)]
    exact h.fr.block i hi hn
  · rcases k.sub g hg with q | q
    · exact h.sub g q
    · exact Or.inr (by omega)
theorem Mv.below {w w' : World} (f : Below w.heap.size w w') (F : List Nat) : Mv w w' F F := ⟨(Fr.of_below f).mono (Nat.le_refl _) (by simp), fun _ h => Or.inl h⟩
theorem MQ.nbl {te : TypeId} {w : World} {s b m : Nat} {now : Int} {mp : Option Nat} {V : List Value} {R : Nat → List It} {f : Int → Option Int} (h : MQ te w b m f) (k : WR w s now mp V R) : b ∉ bl V := fun hm => by
  obtain ⟨r, hr, hg⟩ := bl_mem hm
  rcases (k.own r (by have := k.vl; omega)).cases with ⟨e, _⟩ | ⟨g, cap, cur, e, hb, _⟩
  · rw [e] at hg
    simp [ob, Value.ownBlock] at hg
  · rw [e, ob_some] at hg
    simp at hg
    subst hg
    exact h.blk hb rfl
theorem WH.map_keep {B : Nat} {S : List Nat} {w w' : World} {mp : Option Nat} {L : List It} (h : (mp = none ∧ L = []) ∨ ∃ b, mp = some b ∧ MQ 2 w b L.length (wn L)) (f : Fr B S w w') (hB : w.heap.size ≤ B) (hS : ∀ b, mp = some b → b ∉ S) : (mp = none ∧ L = []) ∨ ∃ b, mp = some b ∧ MQ 2 w' b L.length (wn L) := by
  rcases h with h | ⟨b, e, m⟩
  · exact Or.inl h
  · exact Or.inr ⟨b, e, m.keep f (Nat.lt_of_lt_of_le m.lt hB) (hS b e)⟩
theorem WH.keep {B : Nat} {S : List Nat} {w w' : World} {s : Nat} {now : Int} {mp : Option Nat} {V : List Value} {L : List It} (h : WH w s now mp V L) (f : Fr B S w w') (hB : w.heap.size ≤ B) (hS : ∀ g ∈ fp s mp V, g ∉ S) : WH w' s now mp V L :=
  ⟨h.wr.keep f hB (hS _ (mem_fp.2 (Or.inl rfl))) fun g hg => hS g (mem_fp.2 (Or.inr (Or.inr hg))), WH.map_keep h.mq f hB fun b e => hS b (mem_fp.2 (Or.inr (Or.inl e))), h.srt, h.uni, h.tks, h.now, h.ids⟩
theorem WH.lt {w : World} {s : Nat} {now : Int} {mp : Option Nat} {V : List Value} {L : List It} (h : WH w s now mp V L) {g : Nat} (hg : g ∈ fp s mp V) : g < w.heap.size := by
  rcases mem_fp.1 hg with e | e | e
  · rw [e]; exact h.wr.st.lt
  · rcases h.mq with ⟨e2, _⟩ | ⟨b, e2, m⟩
    · rw [e2] at e; cases e
    · rw [e2] at e
      cases e
      exact m.lt
  · exact h.wr.lt e
theorem WW.keep {B : Nat} {S : List Nat} {w w' : World} {s : Nat} {now : Int} {L : List It} {F : List Nat} (h : WW w s now L F) (f : Fr B S w w') (hB : w.heap.size ≤ B) (hS : ∀ g ∈ F, g ∉ S) : WW w' s now L F := by
  obtain ⟨mp, V, h, rfl⟩ := h
  exact ⟨mp, V, h.keep f hB hS, rfl⟩
theorem WW.below {w w' : World} {s : Nat} {now : Int} {L : List It} {F : List Nat} (h : WW w s now L F) (f : Below w.heap.size w w') : WW w' s now L F := h.keep (Fr.of_below f) (Nat.le_refl _) (by simp)
theorem WW.lt {w : World} {s : Nat} {now : Int} {L : List It} {F : List Nat} (h : WW w s now L F) {g : Nat} (hg : g ∈ F) : g < w.heap.size := by
  obtain ⟨mp, V, h, rfl⟩ := h
  exact h.lt hg
theorem WW.heap {w w1 : World} {s : Nat} {now : Int} {L : List It} {F : List Nat} (h : WW w s now L F) (e : Sm w1 w) : WW w1 s now L F := h.below (e.below (Below.refl _ _))
theorem zero2 (w : World) : (zeroValue 2).run Tryz.prog w = .ok (.int .i64 0) w := by kernel_rfl
set_option maxRecDepth 100000 in
set_option maxHeartbeats 1000000 in
theorem find_any {w : World} {a : Option Addr} {cap : Nat} {L : List It} (x : It) (ho : Own 270 w (.slice a L.length cap) L) (hs : Srt L) (hl : L.length ≤ 2900) :
    Calls Tryz.prog 253 #[.slice a L.length cap, .agg #[.int .i64 x.2, .int .i64 x.1]] w fun e w' => (∃ b, e = .returned (.tuple #[.int .i64 (at_ L x : Nat), .bool b])) ∧ Below w.heap.size w w' := by
  have C : Hid (∀ _ : Unit, _) := fun _ => bsf_any (w := w.alloc (.cells #[.int .i64 x.2, .int .i64 x.1] 270)) (cap := cap) (a := a) x (ho.keep (Fr.of_below ((Below.refl w.heap.size w).alloc (Nat.le_refl _) (.cells #[.int .i64 x.2, .int .i64 x.1] 270))) fun g hg => ⟨ho.lt hg, by simp⟩) hs hl
  have B0 : Hid (Below w.heap.size w (w.alloc (.cells #[.int .i64 x.2, .int .i64 x.1] 270))) := (Below.refl _ _).alloc (Nat.le_refl _) _
  have BB : Hid (∀ v, Below (w.alloc (.cells #[.int .i64 x.2, .int .i64 x.1] 270)).heap.size (w.alloc (.cells #[.int .i64 x.2, .int .i64 x.1] 270)) v → Below w.heap.size w v) := fun v h => B0.out.trans (h.mono (by simp))
  generalize at_ L x = r at *
  generalize L.length = n at *
  clear ho hs hl
  go_enter Tryz.func253, Tryz.ntmps253
  go_wp2_with fail
  refine (C.out ()).mono ?_
  rintro e w' ⟨⟨b, rfl⟩, h⟩
  have H := BB.out w' h
  have HH : Hid (Below w.heap.size w w') := H
  clear h H
  go_wp2
  go_ret2
  exact ⟨⟨_, rfl⟩, HH.out⟩
/-- A wheel of no rooms filled. -/
theorem wr_new (w : World) (now : Int) : WR (w.alloc (.cells ((.int .i64 now :: .map none :: List.replicate 169 nv) : List Value).toArray 223)) w.heap.size now none (List.replicate 169 nv) (fun _ => []) := by
  refine ⟨Blk.new w _ _, List.length_replicate, fun r hr => ?_, fun r q hr hq hn g hg => ?_⟩
  · rw [List.getD_eq_getElem?_getD, List.getElem?_replicate, if_pos hr]
    exact own_nil _ _
  · rw [List.getD_eq_getElem?_getD, List.getElem?_replicate, if_pos hr] at hg
    simp [nv, ob, Value.ownBlock] at hg
theorem wh_new (w : World) (now : Int) (h : isT now) : WH (w.alloc (.cells ((.int .i64 now :: .map none :: List.replicate 169 nv) : List Value).toArray 223)) w.heap.size now none (List.replicate 169 nv) [] :=
  ⟨wr_new w now, Or.inl ⟨rfl, rfl⟩, List.Pairwise.nil, List.Pairwise.nil, fun x hx => (by cases hx), h, fun x hx => (by cases hx)⟩
theorem zero_wheel : ∃ Z : Array Value, Hid (∀ now : Int, Z.setIfInBounds 0 (.int .i64 now) = ((.int .i64 now :: .map none :: List.replicate 169 nv) : List Value).toArray) ∧ (¬ Z = #[]) ∧ ∀ w, (zeroValue 223).run Tryz.prog w = .ok (.agg Z) w :=
  ⟨((.int .i64 0 :: .map none :: List.replicate 169 nv) : List Value).toArray, fun now => by simp, by simp, fun w => by kernel_rfl⟩
set_option maxRecDepth 100000 in
set_option maxHeartbeats 2000000 in
theorem wnew_any (now : Int) (w : World) (hn : isT now) :
    Calls Tryz.prog 49 #[.int .i64 now] w fun e w' => e = .returned (.tuple #[.pointer (some ⟨w.heap.size, 0, none⟩), .int .i64 0]) ∧ WW w' w.heap.size now [] [w.heap.size] ∧ Below w.heap.size w w' := by
  have C : Hid (∀ w, _) := fun w => can_any now w
  rw [decide_eq_true hn] at C
  obtain ⟨Z, hZ, hne, hz⟩ := zero_wheel
  have F : Hid (WW (w.alloc (.cells (Z.setIfInBounds 0 (.int .i64 now)) 223)) w.heap.size now [] [w.heap.size] ∧ Below w.heap.size w (w.alloc (.cells (Z.setIfInBounds 0 (.int .i64 now)) 223))) := by
    rw [hZ.out]
    exact ⟨⟨_, _, wh_new w now hn, by kernel_rfl⟩, (Below.refl _ _).alloc (Nat.le_refl _) _⟩
  clear hn hZ
  go_enter Tryz.func49, Tryz.ntmps49
  go_wp2_with fail
  refine (C.out _).mono ?_
  rintro e w' ⟨rfl, rfl⟩
  go_wp2
  go_ret2
  exact ⟨rfl, F.out⟩
end Go.Proofs.YtfipiifickdeiaaGreatDoor.Tim
namespace Go.Proofs.YtfipiifickdeiaaGreatDoor.Tim
open Slt
open Go.ChangeShapes Go.WideShapes Go.ChangeAt Go.RowKit
open Wm
/-- What Add answers and leaves. -/
def adE (L : List It) (id d : Int) : Int := if isT d then (if (wn L id).isSome = true then 6 else 0) else 2
def adL (L : List It) (id d : Int) : List It := if isT d then (if (wn L id).isSome = true then L else ins (d, id) L) else L
/-- The wheel behind the store of what Insert gives. -/
theorem add_end {w w2 W w' : World} {s mb : Nat} {now id d : Int} {V : List Value} {L : List It} {v' : Value} {F : List Nat}
    (h : WR w2 s now (some mb) V (rl (rm now) L)) (m : MQ 2 w2 mb (L.length + 1) (fun j => if j = id then some d else wn L j)) (srt : Srt L) (uni : Uni L) (tks : Tks L) (hn : isT now) (ids : ∀ x ∈ L, (Lit.int .i64 x.2).wf = true) (hi : (Lit.int .i64 id).wf = true) (hd : isT d) (hno : wn L id = none)
    (f : Fr w.heap.size F w w2) (hF : ∀ g ∈ fp s (some mb) V, g ∈ F ∨ w.heap.size ≤ g)
    (hW : Below w2.heap.size w2 W) (o : Own 270 w' v' (ins (d, id) (rl (rm now) L (rm now (d, id))))) (fr : Fr W.heap.size (ob (V.getD (rm now (d, id)) nv)) W w') (sub : ∀ g ∈ ob v', g ∈ ob (V.getD (rm now (d, id)) nv) ∨ W.heap.size ≤ g) :
    (∃ F', WW (w'.setCell ⟨s, 2 + rm now (d, id), none⟩ v') s now (ins (d, id) L) F' ∧ Mv w (w'.setCell ⟨s, 2 + rm now (d, id), none⟩ v') F F') := by
  have hr : rm now (d, id) < 169 := rm_lt hn.1 hn.2 hd
  have nx : ∀ y ∈ L, y.2 ≠ id := wn_none.1 hno
  have nm : (d, id) ∉ L := fun hm => nx _ hm rfl
  have hW2 := h.below hW
  have m2 : MQ 2 W mb (L.length + 1) _ := m.keep (Fr.of_below hW) m.lt (by simp)
  have st := hW2.store hr fr o sub
  have fs := store_fr (s := s) (v' := v') fr
  have nb : mb ∉ s :: bl V := fun hm => by
    rcases List.mem_cons.1 hm with e | e
    · exact m2.blk hW2.st e
    · exact m2.nbl hW2 e
  have m3 : MQ 2 (w'.setCell ⟨s, 2 + rm now (d, id), none⟩ v') mb (L.length + 1) _ := m2.keep fs m2.lt nb
  refine ⟨_, ⟨_, _, ⟨st.congr fun r _ => ?_, Or.inr ⟨mb, rfl, ?_⟩, srt_ins srt _, uni_ins uni nx, fun x hx => ?_, hn, fun x hx => ?_⟩, rfl⟩, ?_, fun g hg => ?_⟩
  · rw [rl_ins srt nm]
    unfold upR
    by_cases e : r = rm now (d, id)
    · subst e; rfl
    · rw [if_neg e, if_neg e]
  · rw [ins_len srt nm]
    exact m3.congr fun i => by rw [wn_ins uni nx]
  · rcases (mem_ins nm).1 hx with e | e
    · rw [e]; exact hd
    · exact tks x e
  · rcases (mem_ins nm).1 hx with e | e
    · rw [e]; exact hi
    · exact ids x e
  · have s1 := f.size
    have s2 := hW.size
    have f1 : Fr w.heap.size F w2 W := (Fr.of_below hW).mono (by omega) (by simp)
    refine f.trans (f1.trans (fs.mono (by omega) fun k hk hs hm => ?_))
    rcases hF k (by rcases List.mem_cons.1 hm with e | e; exact mem_fp.2 (Or.inl e); exact mem_fp.2 (Or.inr (Or.inr e))) with q | q
    · exact hs q
    · omega
  · have s1 := f.size
    have s2 := hW.size
    rcases mem_fp.1 hg with e | e | e
    · exact hF g (mem_fp.2 (Or.inl e))
    · exact hF g (mem_fp.2 (Or.inr (Or.inl e)))
    · rcases store_bl sub g e with q | q
      · exact hF g (mem_fp.2 (Or.inr (Or.inr q)))
      · exact Or.inr (by omega)
theorem map_isnil (w : World) : (binOp .eql 218 (.map none) (.map none)).run Tryz.prog w = .ok (.bool true) w := by
  exact run_eql_map_nil w _ 3 2 none Tryz.underlying218
theorem map_notnil (b : Nat) (w : World) : (binOp .eql 218 (.map (some b)) (.map none)).run Tryz.prog w = .ok (.bool false) w := by
  exact run_eql_map_nil w _ 3 2 (some b) Tryz.underlying218
set_option maxRecDepth 100000 in
set_option maxHeartbeats 1000000 in
theorem add_arg {w : World} {s : Nat} (id d : Int) (hd : ¬ isT d) :
    Calls Tryz.prog 258 #[.pointer (some ⟨s, 0, none⟩), .int .i64 id, .int .i64 d] w fun e w' => e = .returned (.int .i64 2) ∧ w' = w := by
  have C : Hid (∀ w, _) := fun w => can_any d w
  rw [decide_eq_false hd] at C
  clear hd
  go_enter Tryz.func258, Tryz.ntmps258
  go_wp2_with fail
  refine (C.out _).mono ?_
  rintro e w' ⟨rfl, rfl⟩
  go_wp2
  go_ret
  exact ⟨rfl, rfl⟩
set_option maxRecDepth 100000 in
set_option maxHeartbeats 1000000 in
theorem add_in {w : World} {s mb m : Nat} {f : Int → Option Int} (id d : Int) (hi : (Lit.int .i64 id).wf = true) (hd : isT d) (c1 : w.cell? ⟨s, 1, none⟩ = some (.map (some mb))) (hm : MQ 2 w mb m f) (hs : (f id).isSome = true) :
    Calls Tryz.prog 258 #[.pointer (some ⟨s, 0, none⟩), .int .i64 id, .int .i64 d] w fun e w' => e = .returned (.int .i64 6) ∧ w' = w := by
  have C : Hid (∀ w, _) := fun w => can_any d w
  rw [decide_eq_true hd] at C
  have l := mq_look (tm := 218) Tryz.underlying2 Tryz.underlying218 zero2 hm hi
  rw [hs] at l
  generalize (f id).getD 0 = v at *
  clear hd hm hs hi
  go_enter Tryz.func258, Tryz.ntmps258
  go_wp2_with fail
  refine (C.out _).mono ?_
  rintro e w' ⟨rfl, rfl⟩
  go_wp2
  go_ret
  exact ⟨rfl, rfl⟩
set_option maxRecDepth 100000 in
set_option maxHeartbeats 4000000 in
theorem add_some {w : World} {s mb : Nat} {now : Int} {V : List Value} {L : List It} (id d : Int) (hi : (Lit.int .i64 id).wf = true) (hd : isT d) (h : WH w s now (some mb) V L) (hno : wn L id = none) (hl : L.length ≤ 1000) :
    Calls Tryz.prog 258 #[.pointer (some ⟨s, 0, none⟩), .int .i64 id, .int .i64 d] w fun e w' => e = .returned (.int .i64 0) ∧ ∃ F', WW w' s now (ins (d, id) L) F' ∧ Mv w w' (fp s (some mb) V) F' := by
  have C : Hid (∀ w, _) := fun w => can_any d w
  rw [decide_eq_true hd] at C
  have wd : (Lit.int .i64 d).wf = true := by
    unfold isT at hd
    simp [Lit.wf, IntKind.min, IntKind.max, IntKind.signed, IntKind.bits]
    omega
  obtain ⟨M1⟩ : Nonempty (MQ 2 w mb L.length (wn L)) := by
    rcases h.mq with ⟨e, _⟩ | ⟨b, e, m⟩
    · cases e
    · cases e; exact ⟨m⟩
  have l := mq_look (tm := 218) Tryz.underlying2 Tryz.underlying218 zero2 M1 hi
  rw [hno] at l
  have c1 := h.wr.c1
  have mn := map_notnil mb
  obtain ⟨w2, r2, M2, f2⟩ := mq_put (tm := 218) Tryz.underlying2 Tryz.underlying218 M1 (by omega) hi wd
  rw [hno] at M2
  have W2 : WR w2 s now (some mb) V (rl (rm now) L) := h.wr.keep f2 (Nat.le_refl _) (by simp; exact fun e => M1.blk h.wr.st e.symm) (fun g hg => by simp; exact fun e => M1.nbl h.wr (e ▸ hg))
  have FF : Fr w.heap.size (fp s (some mb) V) w w2 := f2.mono (Nat.le_refl _) fun k _ hk hm => hk (by simp at hm; subst hm; exact mem_fp.2 (Or.inr (Or.inl rfl)))
  have HF : ∀ g ∈ fp s (some mb) V, g ∈ fp s (some mb) V ∨ w.heap.size ≤ g := fun g hg => Or.inl hg
  have MM : MQ 2 w2 mb (L.length + 1) (fun j => if j = id then some d else wn L j) := M2
  have c0 := W2.c0
  have rr : rm now (d, id) < 169 := rm_lt h.now.1 h.now.2 hd
  obtain ⟨a, cap, ev⟩ := W2.shape rr
  have cr := W2.cr rr
  rw [ev] at cr
  have fz := W2.st.free (2 + rm now (d, id))
  have nx : (d, id) ∉ rl (rm now) L (rm now (d, id)) := fun hm => wn_none.1 hno _ (mem_rl.1 hm).1 rfl
  have hl2 : (rl (rm now) L (rm now (d, id))).length ≤ 1000 := Nat.le_trans (rl_len _ _ _) hl
  have sr := srt_rl (f := rm now) h.srt (rm now (d, id))
  have CR : Hid (∀ _ : Unit, _) := fun _ => room_any (w := w2) d c0 h.now hd
  have hat := at_le (rl (rm now) L (rm now (d, id))) (d, id)
  have OW : Hid (∀ W : World, Below w2.heap.size w2 W → Own 270 W (.slice a (rl (rm now) L (rm now (d, id))).length cap) (rl (rm now) L (rm now (d, id))) ∧ W.cell? ⟨s, 2 + rm now (d, id), none⟩ = some (.slice a (rl (rm now) L (rm now (d, id))).length cap) ∧ W.frozen? ⟨s, 2 + rm now (d, id), none⟩ = false) := fun W hW => by
    have := W2.below hW
    have o := this.own _ rr
    have c := this.cr rr
    rw [ev] at o c
    exact ⟨o, c, this.st.free _⟩
  have FI : Hid (∀ W : World, Below w2.heap.size w2 W → _) := fun W hW => find_any (w := W) (a := a) (cap := cap) (d, id) (OW.out W hW).1 sr (by omega)
  have IN : Hid (∀ (W : World) (vb c : Nat), Below w2.heap.size w2 W → w2.heap.size ≤ vb → Blk W vb (cel (d, id)) 270 → Calls Tryz.prog 316 #[.slice a (rl (rm now) L (rm now (d, id))).length cap, .int .i64 (at_ (rl (rm now) L (rm now (d, id))) (d, id) : Nat), .slice (some ⟨vb, 0, none⟩) 1 c] W fun e w' => ∃ p n c, e = .returned (.slice p n c) ∧ w'.cell? ⟨s, 2 + rm now (d, id), none⟩ = some (.slice a (rl (rm now) L (rm now (d, id))).length cap) ∧ w'.frozen? ⟨s, 2 + rm now (d, id), none⟩ = false ∧ Hid (∃ F', WW (w'.setCell ⟨s, 2 + rm now (d, id), none⟩ (.slice p n c)) s now (ins (d, id) L) F' ∧ Mv w (w'.setCell ⟨s, 2 + rm now (d, id), none⟩ (.slice p n c)) (fp s (some mb) V) F')) := fun W vb c hW hvb hb => by
    obtain ⟨o, oc, of⟩ := OW.out W hW
    have w3 := W2.below hW
    refine (insert_any (i := at_ (rl (rm now) L (rm now (d, id))) (d, id)) (c := c) o (by omega) hb (fun hm => ?_) hat).mono ?_
    · have := o.lt (mem_ob.1 hm)
      have h3 : vb ∈ bl V := by
        refine bl_get (r := rm now (d, id)) ?_
        rw [ev]
        exact hm
      have := W2.lt h3
      omega
    · rintro e w' ⟨v', rfl, o', f', s'⟩
      rw [← ins_is sr nx] at o'
      obtain ⟨p, c', e'⟩ := o'.shape
      subst e'
      have k : Blk w' s _ 223 := w3.st.keep f' w3.st.lt (fun hm => w3.not w3.st (by decide) (bl_get (r := rm now (d, id)) (by rw [ev]; exact hm)))
      have oc' : w'.cell? ⟨s, 2 + rm now (d, id), none⟩ = _ := (k.cell _).trans ((w3.st.cell _).symm.trans oc)
      rw [← ev] at f' s'
      exact ⟨p, _, c', rfl, oc', k.free _, add_end W2 MM h.srt h.uni h.tks h.now h.ids hi hd hno FF HF hW o' f' s'⟩
  have BW : Hid (∀ w3 : World, Sm w3 w2 → ∀ W : World, Below (w3.alloc (.cells #[.int .i64 id, .int .i64 d] 270)).heap.size (w3.alloc (.cells #[.int .i64 id, .int .i64 d] 270)) W → Below w2.heap.size w2 W ∧ w2.heap.size ≤ W.heap.size ∧ W.cell? ⟨w3.heap.size, 0, none⟩ = some (.int .i64 id) ∧ W.cell? ⟨w3.heap.size, 1, none⟩ = some (.int .i64 d)) := fun w3 hs W hW => by
    have b0 : Below w2.heap.size w2 (w3.alloc (.cells #[.int .i64 id, .int .i64 d] 270)) := (hs.below (Below.refl _ _)).alloc (by rw [hs.1]; exact Nat.le_refl _) _
    have b1 := b0.trans (hW.mono (by simp [hs.1]))
    have nb := Blk.new w3 [.int .i64 id, .int .i64 d] 270
    refine ⟨b1, b1.size, ?_, ?_⟩
    · rw [hW.cell (p := ⟨w3.heap.size, 0, none⟩) (by simp)]; exact nb.cell 0
    · rw [hW.cell (p := ⟨w3.heap.size, 1, none⟩) (by simp)]; exact nb.cell 1
  unfold rm at *
  dsimp only at *
  generalize rn now.toNat d.toNat = r at *
  generalize at_ (rl (fun x : It => rn now.toNat x.1.toNat) L r) (d, id) = at0 at *
  generalize (rl (fun x : It => rn now.toNat x.1.toNat) L r).length = n0 at *
  have ha0 : (at0 : Int) ≤ 1000 := by omega
  clear M1 MM HF FF M2 f2 W2 hno hl hl2 hat nx sr ev rr h hd hi wd
  go_enter Tryz.func258, Tryz.ntmps258
  go_wp2_with fail
  refine (C.out _).mono ?_
  rintro e w' ⟨rfl, rfl⟩
  go_wp2_with fail
  refine (CR.out ()).mono ?_
  rintro e w3 ⟨rfl, sm⟩
  obtain ⟨b3, s3, k1, k2⟩ := BW.out w3 sm _ (Below.refl _ _)
  obtain ⟨o3, oc3, of3⟩ := OW.out _ b3
  have KV : Hid (∀ W v1 : World, Below W.heap.size W v1 → Sm W (w3.alloc (.cells #[.int .i64 id, .int .i64 d] 270)) → Below w2.heap.size w2 v1 ∧ w2.heap.size ≤ v1.heap.size ∧ v1.cell? ⟨w3.heap.size, 0, none⟩ = some (.int .i64 id) ∧ v1.cell? ⟨w3.heap.size, 1, none⟩ = some (.int .i64 d) ∧ v1.cell? ⟨s, 2 + r, none⟩ = some (.slice a n0 cap) ∧ v1.frozen? ⟨s, 2 + r, none⟩ = false) := fun W v1 hb hs => by
    obtain ⟨q1, q2, q3, q4⟩ := BW.out w3 sm v1 (hs.from (by rw [← hs.1]; exact hb))
    obtain ⟨_, q5, q6⟩ := OW.out v1 q1
    exact ⟨q1, q2, q3, q4, q5, q6⟩
  have B3 : Hid (Below w2.heap.size w2 (w3.alloc (.cells #[.int .i64 id, .int .i64 d] 270))) := b3
  clear o3 b3 s3 sm BW
  go_wp2_with fail
  generalize w3.alloc (.cells #[.int .i64 id, .int .i64 d] 270) = u at *
  go_region_held3 (fun w' => w'.cell? ⟨s, 2 + r, none⟩ = some (.slice a n0 cap) ∧ w'.cell? ⟨w3.heap.size, 0, none⟩ = some (.int .i64 id) ∧ w'.cell? ⟨w3.heap.size, 1, none⟩ = some (.int .i64 d)) (go_keep) (first | (go_at_call 253; refine (FI.out _ B3.out.drew).mono ?_; rintro e v1 ⟨⟨bb, rfl⟩, b1⟩; obtain ⟨q1, q2, q3, q4, q5, q6⟩ := KV.out _ v1 b1 ⟨rfl, rfl, rfl, rfl⟩))
  go_wp2_with fail
  have IV : Hid (∀ W : World, Sm W (v1.alloc (.cells #[.int .i64 id, .int .i64 d] 270)) → _) := fun W hs => IN.out W v1.heap.size 1 (hs.below (q1.alloc q2 _)) q2 ((Blk.new v1 [.int .i64 id, .int .i64 d] 270).heap hs.1)
  have p3 : (v1.alloc (.cells #[.int .i64 id, .int .i64 d] 270)).cell? ⟨w3.heap.size, 0, none⟩ = some (.int .i64 id) := Lib.cell?_alloc_some _ q3
  have p4 : (v1.alloc (.cells #[.int .i64 id, .int .i64 d] 270)).cell? ⟨w3.heap.size, 1, none⟩ = some (.int .i64 d) := Lib.cell?_alloc_some _ q4
  have p5 : (v1.alloc (.cells #[.int .i64 id, .int .i64 d] 270)).cell? ⟨s, 2 + r, none⟩ = some (.slice a n0 cap) := Lib.cell?_alloc_some _ q5
  clear IN FI KV OW CR b1 q1 q2 k1 k2 oc3 of3 c0 cr fz
  go_region_with (first | (go_at_call 316; refine (IV.out _ ?_).mono ?_; (exact ⟨rfl, rfl, rfl, rfl⟩); rintro e w4 ⟨p, n, c, rfl, j1, j2, FF⟩))
  all_goals (go_wp2; go_ret; exact ⟨rfl, FF.out⟩)
set_option maxRecDepth 100000 in
set_option maxHeartbeats 4000000 in
theorem add_none {w : World} {s : Nat} {now : Int} {V : List Value} {L : List It} (id d : Int) (hi : (Lit.int .i64 id).wf = true) (hd : isT d) (h : WH w s now none V L) (hno : wn L id = none) (hl : L.length ≤ 1000) :
    Calls Tryz.prog 258 #[.pointer (some ⟨s, 0, none⟩), .int .i64 id, .int .i64 d] w fun e w' => e = .returned (.int .i64 0) ∧ ∃ F', WW w' s now (ins (d, id) L) F' ∧ Mv w w' (fp s none V) F' := by
  have C : Hid (∀ w, _) := fun w => can_any d w
  rw [decide_eq_true hd] at C
  have wd : (Lit.int .i64 d).wf = true := by
    unfold isT at hd
    simp [Lit.wf, IntKind.min, IntKind.max, IntKind.signed, IntKind.bits]
    omega
  obtain rfl : L = [] := by
    rcases h.mq with ⟨_, e⟩ | ⟨b, e, _⟩
    · exact e
    · cases e
  have l := mq_none (tm := 218) Tryz.underlying218 zero2 w hi
  have sl := h.wr.st.lt
  have c1 := h.wr.c1
  have z1 := h.wr.st.free 1
  have mn := map_isnil
  obtain ⟨mb, emb⟩ : ∃ mb, mb = w.heap.size := ⟨_, rfl⟩
  obtain ⟨w1, ew1⟩ : ∃ w1, w1 = (w.alloc (.map #[] 0)).setCell ⟨s, 1, none⟩ (.map (some mb)) := ⟨_, rfl⟩
  have wa := h.wr.below ((Below.refl w.heap.size w).alloc (Nat.le_refl _) (.map #[] 0))
  have F0 : Fr w.heap.size (fp s none V) w w1 := by
    rw [ew1]
    exact ((Fr.refl w.heap.size (fp s none V) w).alloc (Nat.le_refl _) _).setCell (p := ⟨s, 1, none⟩) (Or.inr (mem_fp.2 (Or.inl rfl))) _
  have F1 : Fr (w.alloc (.map #[] 0)).heap.size [s] (w.alloc (.map #[] 0)) w1 := by
    rw [ew1]
    exact (Fr.refl _ _ _).setCell (Or.inr (by simp)) _
  have W1 : WR w1 s now (some mb) V (rl (rm now) []) := by
    refine ⟨?_, wa.vl, fun r hr => (wa.own r hr).keep F1 fun g hg => ⟨(wa.own r hr).lt hg, by simp; exact fun e => (wa.own r hr).ne wa.st (by decide) hg e.symm⟩, wa.apart⟩
    rw [ew1]
    exact wa.st.set 1 _
  have M1 : MQ 2 w1 mb 0 (fun _ => none) := by
    have := mq_new (te := 2) w
    rw [← emb] at this
    exact this.keep F1 this.lt (by simp; omega)
  have d1 := W1.c1
  have y1 := wa.c1
  have y2 := wa.st.free 1
  obtain ⟨w2, r2, M2, f2⟩ := mq_put (tm := 218) Tryz.underlying2 Tryz.underlying218 M1 (by omega) hi wd
  have W2 : WR w2 s now (some mb) V (rl (rm now) []) := W1.keep f2 (Nat.le_refl _) (by simp; exact fun e => M1.blk W1.st e.symm) (fun g hg => by simp; exact fun e => M1.nbl W1 (e ▸ hg))
  have FF : Fr w.heap.size (fp s none V) w w2 := F0.trans (f2.mono F0.size fun k hk _ hm => by simp at hm; omega)
  have HF : ∀ g ∈ fp s (some mb) V, g ∈ fp s none V ∨ w.heap.size ≤ g := fun g hg => by
    rcases mem_fp.1 hg with e | e | e
    · exact Or.inl (mem_fp.2 (Or.inl e))
    · simp at e; exact Or.inr (by omega)
    · exact Or.inl (mem_fp.2 (Or.inr (Or.inr e)))
  have MM : MQ 2 w2 mb (([] : List It).length + 1) (fun j => if j = id then some d else wn [] j) := M2
  rw [ew1] at d1 r2
  have mbs := @run_makeMap Tryz.prog
  subst emb
  have c0 := W2.c0
  have rr : rm now (d, id) < 169 := rm_lt h.now.1 h.now.2 hd
  obtain ⟨a, cap, ev⟩ := W2.shape rr
  have cr := W2.cr rr
  rw [ev] at cr
  have fz := W2.st.free (2 + rm now (d, id))
  have nx : (d, id) ∉ rl (rm now) ([] : List It) (rm now (d, id)) := fun hm => wn_none.1 hno _ (mem_rl.1 hm).1 rfl
  have hl2 : (rl (rm now) ([] : List It) (rm now (d, id))).length ≤ 1000 := Nat.le_trans (rl_len _ _ _) hl
  have sr := srt_rl (f := rm now) h.srt (rm now (d, id))
  have CR : Hid (∀ _ : Unit, _) := fun _ => room_any (w := w2) d c0 h.now hd
  have hat := at_le (rl (rm now) ([] : List It) (rm now (d, id))) (d, id)
  have OW : Hid (∀ W : World, Below w2.heap.size w2 W → Own 270 W (.slice a (rl (rm now) ([] : List It) (rm now (d, id))).length cap) (rl (rm now) ([] : List It) (rm now (d, id))) ∧ W.cell? ⟨s, 2 + rm now (d, id), none⟩ = some (.slice a (rl (rm now) ([] : List It) (rm now (d, id))).length cap) ∧ W.frozen? ⟨s, 2 + rm now (d, id), none⟩ = false) := fun W hW => by
    have := W2.below hW
    have o := this.own _ rr
    have c := this.cr rr
    rw [ev] at o c
    exact ⟨o, c, this.st.free _⟩
  have FI : Hid (∀ W : World, Below w2.heap.size w2 W → _) := fun W hW => find_any (w := W) (a := a) (cap := cap) (d, id) (OW.out W hW).1 sr (by omega)
  have IN : Hid (∀ (W : World) (vb c : Nat), Below w2.heap.size w2 W → w2.heap.size ≤ vb → Blk W vb (cel (d, id)) 270 → Calls Tryz.prog 316 #[.slice a (rl (rm now) ([] : List It) (rm now (d, id))).length cap, .int .i64 (at_ (rl (rm now) ([] : List It) (rm now (d, id))) (d, id) : Nat), .slice (some ⟨vb, 0, none⟩) 1 c] W fun e w' => ∃ p n c, e = .returned (.slice p n c) ∧ w'.cell? ⟨s, 2 + rm now (d, id), none⟩ = some (.slice a (rl (rm now) ([] : List It) (rm now (d, id))).length cap) ∧ w'.frozen? ⟨s, 2 + rm now (d, id), none⟩ = false ∧ Hid (∃ F', WW (w'.setCell ⟨s, 2 + rm now (d, id), none⟩ (.slice p n c)) s now (ins (d, id) ([] : List It)) F' ∧ Mv w (w'.setCell ⟨s, 2 + rm now (d, id), none⟩ (.slice p n c)) (fp s none V) F')) := fun W vb c hW hvb hb => by
    obtain ⟨o, oc, of⟩ := OW.out W hW
    have w3 := W2.below hW
    refine (insert_any (i := at_ (rl (rm now) ([] : List It) (rm now (d, id))) (d, id)) (c := c) o (by omega) hb (fun hm => ?_) hat).mono ?_
    · have := o.lt (mem_ob.1 hm)
      have h3 : vb ∈ bl V := by
        refine bl_get (r := rm now (d, id)) ?_
        rw [ev]
        exact hm
      have := W2.lt h3
      omega
    · rintro e w' ⟨v', rfl, o', f', s'⟩
      rw [← ins_is sr nx] at o'
      obtain ⟨p, c', e'⟩ := o'.shape
      subst e'
      have k : Blk w' s _ 223 := w3.st.keep f' w3.st.lt (fun hm => w3.not w3.st (by decide) (bl_get (r := rm now (d, id)) (by rw [ev]; exact hm)))
      have oc' : w'.cell? ⟨s, 2 + rm now (d, id), none⟩ = _ := (k.cell _).trans ((w3.st.cell _).symm.trans oc)
      rw [← ev] at f' s'
      exact ⟨p, _, c', rfl, oc', k.free _, add_end W2 MM h.srt h.uni h.tks h.now h.ids hi hd hno FF HF hW o' f' s'⟩
  have BW : Hid (∀ w3 : World, Sm w3 w2 → ∀ W : World, Below (w3.alloc (.cells #[.int .i64 id, .int .i64 d] 270)).heap.size (w3.alloc (.cells #[.int .i64 id, .int .i64 d] 270)) W → Below w2.heap.size w2 W ∧ w2.heap.size ≤ W.heap.size ∧ W.cell? ⟨w3.heap.size, 0, none⟩ = some (.int .i64 id) ∧ W.cell? ⟨w3.heap.size, 1, none⟩ = some (.int .i64 d)) := fun w3 hs W hW => by
    have b0 : Below w2.heap.size w2 (w3.alloc (.cells #[.int .i64 id, .int .i64 d] 270)) := (hs.below (Below.refl _ _)).alloc (by rw [hs.1]; exact Nat.le_refl _) _
    have b1 := b0.trans (hW.mono (by simp [hs.1]))
    have nb := Blk.new w3 [.int .i64 id, .int .i64 d] 270
    refine ⟨b1, b1.size, ?_, ?_⟩
    · rw [hW.cell (p := ⟨w3.heap.size, 0, none⟩) (by simp)]; exact nb.cell 0
    · rw [hW.cell (p := ⟨w3.heap.size, 1, none⟩) (by simp)]; exact nb.cell 1
  unfold rm at *
  dsimp only at *
  generalize rn now.toNat d.toNat = r at *
  generalize at_ (rl (fun x : It => rn now.toNat x.1.toNat) ([] : List It) r) (d, id) = at0 at *
  generalize (rl (fun x : It => rn now.toNat x.1.toNat) ([] : List It) r).length = n0 at *
  have ha0 : (at0 : Int) ≤ 1000 := by omega
  clear F0 F1 W1 M1 wa MM HF FF M2 f2 W2 sl hno hl hl2 hat nx sr ev rr h hd hi wd
  go_enter Tryz.func258, Tryz.ntmps258
  go_wp2_with fail
  refine (C.out _).mono ?_
  rintro e w' ⟨rfl, rfl⟩
  go_wp2_with fail
  refine (CR.out ()).mono ?_
  rintro e w3 ⟨rfl, sm⟩
  obtain ⟨b3, s3, k1, k2⟩ := BW.out w3 sm _ (Below.refl _ _)
  obtain ⟨o3, oc3, of3⟩ := OW.out _ b3
  have KV : Hid (∀ W v1 : World, Below W.heap.size W v1 → Sm W (w3.alloc (.cells #[.int .i64 id, .int .i64 d] 270)) → Below w2.heap.size w2 v1 ∧ w2.heap.size ≤ v1.heap.size ∧ v1.cell? ⟨w3.heap.size, 0, none⟩ = some (.int .i64 id) ∧ v1.cell? ⟨w3.heap.size, 1, none⟩ = some (.int .i64 d) ∧ v1.cell? ⟨s, 2 + r, none⟩ = some (.slice a n0 cap) ∧ v1.frozen? ⟨s, 2 + r, none⟩ = false) := fun W v1 hb hs => by
    obtain ⟨q1, q2, q3, q4⟩ := BW.out w3 sm v1 (hs.from (by rw [← hs.1]; exact hb))
    obtain ⟨_, q5, q6⟩ := OW.out v1 q1
    exact ⟨q1, q2, q3, q4, q5, q6⟩
  have B3 : Hid (Below w2.heap.size w2 (w3.alloc (.cells #[.int .i64 id, .int .i64 d] 270))) := b3
  clear o3 b3 s3 sm BW
  go_wp2_with fail
  generalize w3.alloc (.cells #[.int .i64 id, .int .i64 d] 270) = u at *
  go_region_held3 (fun w' => w'.cell? ⟨s, 2 + r, none⟩ = some (.slice a n0 cap) ∧ w'.cell? ⟨w3.heap.size, 0, none⟩ = some (.int .i64 id) ∧ w'.cell? ⟨w3.heap.size, 1, none⟩ = some (.int .i64 d)) (go_keep) (first | (go_at_call 253; refine (FI.out _ B3.out.drew).mono ?_; rintro e v1 ⟨⟨bb, rfl⟩, b1⟩; obtain ⟨q1, q2, q3, q4, q5, q6⟩ := KV.out _ v1 b1 ⟨rfl, rfl, rfl, rfl⟩))
  go_wp2_with fail
  have IV : Hid (∀ W : World, Sm W (v1.alloc (.cells #[.int .i64 id, .int .i64 d] 270)) → _) := fun W hs => IN.out W v1.heap.size 1 (hs.below (q1.alloc q2 _)) q2 ((Blk.new v1 [.int .i64 id, .int .i64 d] 270).heap hs.1)
  have p3 : (v1.alloc (.cells #[.int .i64 id, .int .i64 d] 270)).cell? ⟨w3.heap.size, 0, none⟩ = some (.int .i64 id) := Lib.cell?_alloc_some _ q3
  have p4 : (v1.alloc (.cells #[.int .i64 id, .int .i64 d] 270)).cell? ⟨w3.heap.size, 1, none⟩ = some (.int .i64 d) := Lib.cell?_alloc_some _ q4
  have p5 : (v1.alloc (.cells #[.int .i64 id, .int .i64 d] 270)).cell? ⟨s, 2 + r, none⟩ = some (.slice a n0 cap) := Lib.cell?_alloc_some _ q5
  clear IN FI KV OW CR b1 q1 q2 k1 k2 oc3 of3 c0 cr fz
  go_region_with (first | (go_at_call 316; refine (IV.out _ ?_).mono ?_; (exact ⟨rfl, rfl, rfl, rfl⟩); rintro e w4 ⟨p, n, c, rfl, j1, j2, FF⟩))
  all_goals (go_wp2; go_ret; exact ⟨rfl, FF.out⟩)
theorem add_any {w : World} {s : Nat} {now : Int} {L : List It} {F : List Nat} (id d : Int) (hi : (Lit.int .i64 id).wf = true) (h : WW w s now L F) (hl : L.length ≤ 1000) :
    Calls Tryz.prog 258 #[.pointer (some ⟨s, 0, none⟩), .int .i64 id, .int .i64 d] w fun e w' => e = .returned (.int .i64 (adE L id d)) ∧ ∃ F', WW w' s now (adL L id d) F' ∧ Mv w w' F F' := by
  unfold adE adL
  by_cases hd : isT d
  · rw [if_pos hd, if_pos hd]
    obtain ⟨mp, V, h, rfl⟩ := h
    cases hn : wn L id with
    | some t =>
      rw [Option.isSome_some, if_pos rfl, if_pos rfl]
      rcases h.mq with ⟨_, e⟩ | ⟨mb, e, m⟩
      · rw [e] at hn
        cases hn
      · subst e
        refine (add_in id d hi hd h.wr.c1 m (by rw [hn]; rfl)).mono ?_
        rintro e w' ⟨rfl, rfl⟩
        exact ⟨rfl, _, ⟨_, _, h, rfl⟩, Mv.refl _ _⟩
    | none =>
      rw [Option.isSome_none, if_neg (by decide), if_neg (by decide)]
      cases mp with
      | none => exact add_none id d hi hd h hn hl
      | some mb => exact add_some id d hi hd h hn hl
  · rw [if_neg hd, if_neg hd]
    refine (add_arg id d hd).mono ?_
    rintro e w' ⟨rfl, rfl⟩
    exact ⟨rfl, F, h, Mv.refl _ _⟩
end Go.Proofs.YtfipiifickdeiaaGreatDoor.Tim
namespace Go.Proofs.YtfipiifickdeiaaGreatDoor.Tim
open Slt
open Go.ChangeShapes Go.WideShapes Go.ChangeAt Go.RowKit
open Wm
end Go.Proofs.YtfipiifickdeiaaGreatDoor.Tim
namespace Go.Proofs.YtfipiifickdeiaaGreatDoor.Tim
open Slt
open Go.ChangeShapes Go.WideShapes Go.ChangeAt Go.RowKit
open Wm
end Go.Proofs.YtfipiifickdeiaaGreatDoor.Tim
namespace Go.Proofs.YtfipiifickdeiaaGreatDoor.Tim
open Slt
open Go.ChangeShapes Go.WideShapes Go.ChangeAt Go.RowKit
open Wm
end Go.Proofs.YtfipiifickdeiaaGreatDoor.Tim
namespace Go.Proofs.YtfipiifickdeiaaGreatDoor.Tim
open Slt
open Go.ChangeShapes Go.WideShapes Go.ChangeAt Go.RowKit
open Wm
/-- The numbers of things. -/
def ids (L : List It) : List Int := L.map (·.2)
/-- Those that are due. -/
def duL (now : Int) (L : List It) : List It := L.filter fun x => decide (x.1 ≤ now)
theorem now_any {w : World} {s : Nat} {now : Int} {L : List It} {F : List Nat} (h : WW w s now L F) :
    Calls Tryz.prog 100 #[.pointer (some ⟨s, 0, none⟩)] w fun e w' => e = .returned (.int .i64 now) ∧ w' = w := by
  obtain ⟨mp, V, h, rfl⟩ := h
  have c0 := h.wr.c0
  clear h
  go_enter Tryz.func100, Tryz.ntmps100
  go_wp2
  go_ret
  exact ⟨rfl, rfl⟩
/-- The things of the first rooms. -/
def fst (now : Int) (L : List It) (j : Nat) : List It := (List.range j).flatMap (rl (rm now) L)
theorem fst_succ (now : Int) (L : List It) (j : Nat) : fst now L (j + 1) = fst now L j ++ rl (rm now) L j := by
  unfold fst
  rw [List.range_succ, List.flatMap_append]
  simp
theorem fst_all {now : Int} {L : List It} (h : Srt L) (t : Tks L) (hn : isT now) : fst now L 169 = L := cat_all h t hn.1 hn.2
end Go.Proofs.YtfipiifickdeiaaGreatDoor.Tim
namespace Go.Proofs.YtfipiifickdeiaaGreatDoor.Tim
open Slt
open Go.ChangeShapes Go.WideShapes Go.ChangeAt Go.RowKit
open Wm
/-- What Next answers. -/
def nxN (L : List It) : Int := match L with | [] => 0 | x :: _ => x.1
def nxE (L : List It) : Int := match L with | [] => 12 | _ :: _ => 0
theorem nx_is {now : Int} {L : List It} (h : Srt L) (t : Tks L) (hn : isT now) {j : Nat} (h0 : fst now L j = []) {x : It} {T : List It} (hx : rl (rm now) L j = x :: T) : nxN L = x.1 ∧ nxE L = 0 := by
  have m := mono_rm h t hn.1 hn.2
  have e1 : fst now L (j + 1) = x :: T := by rw [fst_succ, h0, hx]; rfl
  unfold fst at e1
  rw [cat_rooms _ _ _ m] at e1
  cases L with
  | nil => simp at e1
  | cons z L =>
    have hm : x ∈ (z :: L).filter (fun y => decide (rm now y < j + 1)) := by rw [e1]; exact List.mem_cons_self
    obtain ⟨q1, q2⟩ := List.mem_filter.1 hm
    have q2 : rm now x < j + 1 := by simpa using q2
    have q3 : rm now z ≤ rm now x := by
      rcases List.mem_cons.1 q1 with e | e
      · rw [e]; exact Nat.le_refl _
      · exact (List.pairwise_cons.1 m).1 x e
    rw [List.filter_cons_of_pos (by simp; omega)] at e1
    have e2 : z = x := by
      have := congrArg List.head? e1
      simpa using this
    subst e2
    exact ⟨rfl, rfl⟩
set_option maxRecDepth 100000 in
set_option maxHeartbeats 4000000 in
theorem next_any {w : World} {s : Nat} {now : Int} {L : List It} {F : List Nat} (h : WW w s now L F) (hl : L.length ≤ 1000) :
    Calls Tryz.prog 99 #[.pointer (some ⟨s, 0, none⟩)] w fun e w' => e = .returned (.tuple #[.int .i64 (nxN L), .int .i64 (nxE L)]) ∧ w' = w := by
  obtain ⟨mp, V, h, rfl⟩ := h
  obtain ⟨S, hS⟩ : ∃ S : Nat → Value, ∀ j, S j = V.getD j nv := ⟨_, fun _ => rfl⟩
  have CS : Hid (∀ j, j < 169 → w.cell? ⟨s, 2 + j, none⟩ = some (S j)) := fun j hj => by rw [hS]; exact h.wr.cr hj
  obtain ⟨E, hE⟩ : ∃ E : Nat → Prop, ∀ j, E j = (fst now L j = []) := ⟨_, fun _ => rfl⟩
  have E0 : Hid (E 0) := by rw [hE]; exact rfl
  obtain ⟨rn, hrn⟩ : ∃ rn, rn = nxN L := ⟨_, rfl⟩
  obtain ⟨re, hre⟩ : ∃ re, re = nxE L := ⟨_, rfl⟩
  rw [← hrn, ← hre]
  have CE : Hid (∀ j, j < 169 → E j → (∃ a n cap, S j = .slice a n cap ∧ (n : Int) ≤ 1000 ∧ 0 < (n : Int) ∧ re = 0 ∧ ∃ g, a = some ⟨g, 0, none⟩ ∧ w.cell? ⟨g, 1, none⟩ = some (.int .i64 rn)) ∨ (∃ a cap, S j = .slice a 0 cap ∧ E (j + 1))) := fun j hj ej => by
    rw [hE] at ej
    obtain ⟨a, cap, ev⟩ := h.wr.shape hj
    have o := h.wr.own j hj
    rw [ev] at o
    rw [hS, hE, ev]
    cases q : rl (rm now) L j with
    | nil => exact Or.inr ⟨a, cap, rfl, by rw [fst_succ, ej, q]; rfl⟩
    | cons x T =>
      obtain ⟨n1, n2⟩ := nx_is h.srt h.tks h.now ej q
      have hll := rl_len (rm now) L j
      obtain ⟨g, y, e, hg, hy, h1, h2⟩ := own_at o (i := 0) (by rw [q]; simp)
      rw [q] at hy hll
      simp at hy
      subst hy
      refine Or.inl ⟨a, _, cap, rfl, by simp at hll ⊢; omega, by simp, by rw [hre]; exact n2, g, e, ?_⟩
      rw [hrn, n1]
      simpa using h2
  have EE : Hid (E 169 → rn = 0 ∧ re = 12) := fun e => by
    rw [hE, fst_all h.srt h.tks h.now] at e
    rw [hrn, hre, e]
    exact ⟨rfl, rfl⟩
  have c2 := CS.out 0 (by decide)
  clear h hl hS hE hrn hre
  go_enter Tryz.func99, Tryz.ntmps99
  go_wp2_with fail
  go_step3
  go_wp2_with fail
  go_step3
  go_wp2_with fail
  go_loopw [4, 13] (fun v i wr => wr = w ∧ ∃ l : Nat, (l : Int) ≤ 21 ∧ i = .int .i64 l ∧ v = S (8 * l) ∧ Hid (E (8 * l))) (fun _ i _ => 21 - (intOf i).toNat)
  case atStart => exact ⟨rfl, 0, by omega, rfl, rfl, E0⟩
  case round =>
    obtain ⟨rfl, l, hl, rfl, rfl, e0⟩ := hrel
    clear c2
    by_cases h : (l : Int) < 21
    · go_wp2_with fail
      obtain ⟨wo, rfl⟩ : ∃ wo, wo = wr := ⟨_, rfl⟩
      go_loopw [4, 16] (fun v i wr => wr = wo ∧ ∃ k : Nat, (k : Int) ≤ 8 ∧ i = .int .i64 k ∧ v = S (8 * l + k) ∧ Hid (E (8 * l + k))) (fun _ i _ => 8 - (intOf i).toNat)
      case atStart => exact ⟨rfl, 0, by omega, rfl, rfl, e0⟩
      case round =>
        obtain ⟨rfl, k, hk, rfl, rfl, e1⟩ := hrel
        clear e0
        by_cases h5 : (k : Int) < 8
        · rcases CE.out (8 * l + k) (by omega) e1.out with ⟨a, n, cap, eS, n1, n2, rfl, g, rfl, cg⟩ | ⟨a, cap, eS, e2⟩
          · rw [eS]
            have n3 : ((n : Int) == 0) = false := by rw [beq_eq_false_iff_ne]; omega
            clear e1 eS
            go_wp2
            try rw [Exit.noGoto_ret]
            go_ret2
            exact ⟨rfl, rfl⟩
          · rw [eS]
            have c5 := CS.out (8 * l + k + 1) (by omega)
            rw [show 2 + (8 * l + k + 1) = 3 + l * 8 + k by omega] at c5
            have E2 : Hid (E (8 * l + k + 1)) := e2
            clear e1 eS e2
            go_wp2
            go_roundw
            case rel => exact ⟨trivial, k + 1, by omega, by go_num, rfl, E2⟩
            case measure => simp [intOf]; omega
        · obtain rfl : k = 8 := by omega
          have E2 : Hid (E (8 * (l + 1))) := e1.out
          go_wp2
          go_roundw
          case rel => exact ⟨trivial, l + 1, by omega, by go_num, rfl, E2⟩
          case measure => simp [intOf]; omega
    · obtain rfl : l = 21 := by omega
      rcases CE.out 168 (by decide) e0.out with ⟨a, n, cap, eS, n1, n2, rfl, g, rfl, cg⟩ | ⟨a, cap, eS, e2⟩
      · rw [show S (8 * 21) = _ from eS]
        have n3 : ((n : Int) == 0) = false := by rw [beq_eq_false_iff_ne]; omega
        clear e0 eS
        go_wp2
        try rw [Exit.noGoto_ret]
        go_ret2
        exact ⟨rfl, rfl⟩
      · rw [show S (8 * 21) = _ from eS]
        obtain ⟨rfl, rfl⟩ := EE.out e2
        clear e0 eS e2
        go_wp2
        try rw [Exit.noGoto_ret]
        go_ret2
        exact ⟨rfl, rfl⟩
end Go.Proofs.YtfipiifickdeiaaGreatDoor.Tim
namespace Go.Proofs.YtfipiifickdeiaaGreatDoor.Tim
open Slt
open Go.ChangeShapes Go.WideShapes Go.ChangeAt Go.RowKit
theorem wnil_next (w : World) : Calls Tryz.prog 99 #[.pointer none] w fun e w' => e = .returned (.tuple #[.int .i64 0, .int .i64 1]) ∧ w' = w := by
  go_enter Tryz.func99, Tryz.ntmps99
  go_wp2
  go_step3
  go_wp2
  try rw [Exit.noGoto_ret]
  go_ret2
  exact ⟨rfl, rfl⟩
end Go.Proofs.YtfipiifickdeiaaGreatDoor.Tim
namespace Go.Proofs.YtfipiifickdeiaaGreatDoor.Zm
open Slt Tim
open Wm Sl
abbrev Ks := Nat → List It
def up (K : Ks) (c : Nat) (X : List It) : Ks := fun j => if j = c then X else K j
theorem up_same (K : Ks) (c : Nat) (X : List It) : up K c X c = X := if_pos rfl
theorem up_other {K : Ks} {c j : Nat} (X : List It) (h : j ≠ c) : up K c X j = K j := if_neg h
def has (L : List It) (id : Int) : Bool := (wn L id).isSome
theorem has_mem {L : List It} {id : Int} (h : has L id = true) : ∃ d, (d, id) ∈ L := by
  unfold has at h
  cases e : wn L id with
  | none => rw [e] at h; cases h
  | some d => exact ⟨d, wn_mem e⟩
theorem has_of {L : List It} {x : It} (hx : x ∈ L) : has L x.2 = true := by
  unfold has
  cases e : wn L x.2 with
  | none => exact absurd rfl (wn_none.1 e x hx)
  | some d => rfl
theorem has_no {L : List It} {id : Int} (h : has L id = false) : ∀ y ∈ L, y.2 ≠ id := by
  intro y hy e
  have := has_of hy
  rw [e, h] at this
  cases this
/-- The core that a timer is on. -/
def onc (n : Nat) (K : Ks) (id : Int) : Option Nat := (List.range n).find? fun c => has (K c) id
/-- Each list is as it must be, each timer on one core. -/
structure Al (n : Nat) (K : Ks) : Prop where
  uni : ∀ c, c < n → Uni (K c)
  srt : ∀ c, c < n → Srt (K c)
  one : ∀ c d, c < n → d < n → ∀ id, has (K c) id = true → has (K d) id = true → c = d
  rg : ∀ c, c < n → ∀ id, has (K c) id = true → 1 ≤ id ∧ id ≤ 48
theorem onc_none {n : Nat} {K : Ks} {id : Int} : onc n K id = none ↔ ∀ c, c < n → has (K c) id = false := by
  unfold onc
  rw [List.find?_eq_none]
  simp
theorem al_nil (n : Nat) : Al n fun _ => [] :=
  ⟨fun _ _ => List.Pairwise.nil, fun _ _ => List.Pairwise.nil, fun _ _ _ _ id h => by simp [has, wn] at h, fun _ _ id h => by simp [has, wn] at h⟩
theorem onc_nil (n : Nat) (id : Int) : onc n (fun _ => []) id = none := onc_none.2 fun c _ => by simp [has, wn]
/-- At most so many, whose numbers go so far. -/
theorem few : ∀ (m : Nat) (L : List It), Srt L → Uni L → (∀ x ∈ L, 1 ≤ x.2 ∧ x.2 ≤ (m : Int)) → L.length ≤ m
  | 0, L, _, _, h => by
    cases L with
    | nil => exact Nat.le_refl _
    | cons x r => have := h x (by simp); omega
  | m + 1, L, s, u, h => by
    have ih := few m (rid ((m : Int) + 1) L) (srt_rid s _) (uni_rid u _) fun x hx => by
      obtain ⟨h1, h2⟩ := mem_rid.1 hx
      have := h x h1
      omega
    cases e : has L ((m : Int) + 1) with
    | true =>
      obtain ⟨d, hd⟩ := has_mem e
      have := rid_len s u hd
      simp only at this
      omega
    | false =>
      rw [rid_none (has_no e)] at ih
      omega
theorem Al.len {n : Nat} {K : Ks} (h : Al n K) {c : Nat} (hc : c < n) : (K c).length ≤ 48 :=
  few 48 (K c) (h.srt c hc) (h.uni c hc) fun x hx => h.rg c hc x.2 (has_of hx)
/-- As the program's map has it, and its table of numbers. -/
def cq (n : Nat) (K : Ks) (id : Int) : Option Int := (onc n K id).map fun c : Nat => (c : Int)
def oc (n : Nat) (K : Ks) (i : Nat) : Bool := (onc n K (i : Int)).isSome
def cnt (O : Nat → Bool) : Nat := (List.range 48).countP fun i => O (i + 1)
theorem cp (p q : Nat → Bool) (k : Nat) (h : ∀ j, j ≠ k → p j = q j) (hp : p k = true) (hq : q k = false) : ∀ N, (List.range N).countP p = (List.range N).countP q + if k < N then 1 else 0
  | 0 => rfl
  | N + 1 => by
    have ih := cp p q k h hp hq N
    rw [List.range_succ, List.countP_append, List.countP_append, ih, List.countP_singleton, List.countP_singleton]
    by_cases e : N = k
    · subst e
      rw [hp, hq]
      simp
    · rw [h N e]
      generalize (if q N = true then 1 else 0) = z
      by_cases g : k < N
      · have g2 : k < N + 1 := by omega
        simp only [if_pos g, if_pos g2]; omega
      · have g2 : ¬ k < N + 1 := by omega
        simp only [if_neg g, if_neg g2]; omega
theorem cq_none {n : Nat} {K : Ks} {id : Int} : cq n K id = none ↔ onc n K id = none := by
  unfold cq
  rw [Option.map_eq_none_iff]
/-- Is there such a core? -/
def isC (n : Nat) (c : Int) : Prop := 0 ≤ c ∧ c < n
instance (n : Nat) (c : Int) : Decidable (isC n c) := by unfold isC; exact inferInstance
/-- What Arm answers and leaves, if there is the core, and the tick is one. -/
def arK (n : Nat) (K : Ks) (c : Nat) (d : Int) : Ks := match ff 48 (oc n K) with | some i => up K c (ins (d, ((i + 1 : Nat) : Int)) (K c)) | none => K
def caK (n : Nat) (K : Ks) (id : Int) : Ks := match onc n K id with | some c => up K c (rid id (K c)) | none => K
def caE (n : Nat) (K : Ks) (id : Int) : Int := if (onc n K id).isSome = true then 0 else 4
def fiN (now : Int) (L : List It) : Int := match duL now L with | [] => 0 | x :: _ => x.2
def fiK (now : Int) (K : Ks) (c : Nat) : Ks := match duL now (K c) with | [] => K | x :: _ => up K c (rid x.2 (K c))
end Go.Proofs.YtfipiifickdeiaaGreatDoor.Zm
namespace Go.Proofs.YtfipiifickdeiaaGreatDoor.Tim
open Slt
open Go.ChangeShapes Go.WideShapes Go.ChangeAt Go.RowKit
open Wm Zm
def upd {α : Type} (f : Nat → α) (c : Nat) (x : α) : Nat → α := fun j => if j = c then x else f j
theorem upd_same {α : Type} (f : Nat → α) (c : Nat) (x : α) : upd f c x c = x := if_pos rfl
theorem upd_other {α : Type} {f : Nat → α} {c j : Nat} (x : α) (h : j ≠ c) : upd f c x j = f j := if_neg h
/-- All of it, with wheels of their own ticks. -/
structure TB (w : World) (t sb sg tb mb n : Nat) (N : Nat → Int) (S : Nat → Nat) (K : Ks) (G : Nat → List Nat) (W : List Nat) (O : Nat → Bool) (m : Nat) (f : Int → Option Int) : Prop where
  st : Blk w t [.pointer (some ⟨sb, 0, none⟩), .slice (some ⟨tb, 0, none⟩) n n, .map (some mb)] 133
  tab : Blk w tb ((List.range n).map fun c => .pointer (some ⟨S c, 0, none⟩)) 134
  sl : T w sb sg 48 W O
  mp : MQ 3 w mb m f
  ws : ∀ c, c < n → WW w (S c) (N c) (K c) (G c)
  dis : ∀ c d, c < n → d < n → c ≠ d → ∀ g ∈ G c, g ∉ G d
  nb : ∀ c, c < n → ∀ g ∈ G c, g ∉ [t, sb, sg, tb, mb]
  n1 : 1 ≤ n
  n2 : n ≤ 64
def foot (t sb sg tb mb n : Nat) (G : Nat → List Nat) : List Nat := [t, sb, sg, tb, mb] ++ (List.range n).flatMap G
theorem mem_foot {t sb sg tb mb n : Nat} {G : Nat → List Nat} {g : Nat} : g ∈ foot t sb sg tb mb n G ↔ g ∈ [t, sb, sg, tb, mb] ∨ ∃ c, c < n ∧ g ∈ G c := by
  unfold foot
  rw [List.mem_append, List.mem_flatMap]
  simp
section
variable {w : World} {t sb sg tb mb n : Nat} {N : Nat → Int} {S : Nat → Nat} {K : Ks} {G : Nat → List Nat} {W : List Nat} {O : Nat → Bool} {m : Nat} {f : Int → Option Int}
theorem TB.c0 (h : TB w t sb sg tb mb n N S K G W O m f) : w.cell? ⟨t, 0, none⟩ = some (.pointer (some ⟨sb, 0, none⟩)) := h.st.cell 0
theorem TB.c1 (h : TB w t sb sg tb mb n N S K G W O m f) : w.cell? ⟨t, 1, none⟩ = some (.slice (some ⟨tb, 0, none⟩) n n) := h.st.cell 1
theorem TB.c2 (h : TB w t sb sg tb mb n N S K G W O m f) : w.cell? ⟨t, 2, none⟩ = some (.map (some mb)) := h.st.cell 2
theorem TB.cw (h : TB w t sb sg tb mb n N S K G W O m f) {c : Nat} (hc : c < n) : w.cell? ⟨tb, c, none⟩ = some (.pointer (some ⟨S c, 0, none⟩)) := by
  rw [h.tab.cell c, List.getElem?_map, List.getElem?_range hc]
  rfl
theorem TB.lt (h : TB w t sb sg tb mb n N S K G W O m f) {g : Nat} (hg : g ∈ [t, sb, sg, tb, mb]) : g < w.heap.size := by
  simp only [List.mem_cons, List.not_mem_nil, or_false] at hg
  rcases hg with rfl | rfl | rfl | rfl | rfl
  · exact h.st.lt
  · exact h.sl.sb.lt
  · exact h.sl.sg.lt
  · exact h.tab.lt
  · exact h.mp.lt
theorem TB.hi (h : TB w t sb sg tb mb n N S K G W O m f) {g : Nat} (hg : g ∈ foot t sb sg tb mb n G) : g < w.heap.size := by
  rcases mem_foot.1 hg with q | ⟨c, hc, q⟩
  · exact h.lt q
  · exact (h.ws c hc).lt q
theorem TB.keep {B : Nat} {Z : List Nat} {w' : World} (h : TB w t sb sg tb mb n N S K G W O m f) (k : Fr B Z w w') (hB : w.heap.size ≤ B) (hZ : ∀ g ∈ foot t sb sg tb mb n G, g ∉ Z) : TB w' t sb sg tb mb n N S K G W O m f := by
  have z : ∀ g ∈ [t, sb, sg, tb, mb], g < B ∧ g ∉ Z := fun g hg => ⟨Nat.lt_of_lt_of_le (h.lt hg) hB, hZ g (mem_foot.2 (Or.inl hg))⟩
  refine ⟨h.st.keep k (z t (by simp)).1 (z t (by simp)).2, h.tab.keep k (z tb (by simp)).1 (z tb (by simp)).2, h.sl.keep k ⟨(z sb (by simp)).1, (z sg (by simp)).1⟩ ⟨(z sb (by simp)).2, (z sg (by simp)).2⟩, h.mp.keep k (z mb (by simp)).1 (z mb (by simp)).2, fun c hc => (h.ws c hc).keep k hB fun g hg => hZ g (mem_foot.2 (Or.inr ⟨c, hc, hg⟩)), h.dis, h.nb, h.n1, h.n2⟩
/-- One wheel is another one now. -/
theorem TB.wheel {w' : World} (h : TB w t sb sg tb mb n N S K G W O m f) {c : Nat} (hc : c < n) {now : Int} {X : List It} {F' : List Nat} (q : WW w' (S c) now X F') (v : Mv w w' (G c) F') :
    TB w' t sb sg tb mb n (upd N c now) S (up K c X) (upd G c F') W O m f ∧ Mv w w' (foot t sb sg tb mb n G) (foot t sb sg tb mb n (upd G c F')) := by
  have z : ∀ g ∈ [t, sb, sg, tb, mb], g < w.heap.size ∧ g ∉ G c := fun g hg => ⟨h.lt hg, fun e => h.nb c hc g e hg⟩
  refine ⟨⟨h.st.keep v.fr (z t (by simp)).1 (z t (by simp)).2, h.tab.keep v.fr (z tb (by simp)).1 (z tb (by simp)).2, h.sl.keep v.fr ⟨(z sb (by simp)).1, (z sg (by simp)).1⟩ ⟨(z sb (by simp)).2, (z sg (by simp)).2⟩, h.mp.keep v.fr (z mb (by simp)).1 (z mb (by simp)).2, fun d hd => ?_, fun d e hd he hn g hg => ?_, fun d hd g hg => ?_, h.n1, h.n2⟩, ?_, fun g hg => ?_⟩
  · by_cases e : d = c
    · subst e
      rw [upd_same, upd_same, up_same]
      exact q
    · rw [upd_other _ e, upd_other _ e, up_other _ e]
      exact (h.ws d hd).keep v.fr (Nat.le_refl _) fun g hg hg2 => h.dis d c hd hc e g hg hg2
  · have key : ∀ d, d < n → d ≠ c → ∀ g ∈ G d, g ∉ F' := fun d hd hn g hg hg2 => by
      rcases v.sub g hg2 with r | r
      · exact h.dis d c hd hc hn g hg r
      · have := (h.ws d hd).lt hg; omega
    by_cases e1 : d = c
    · subst e1
      rw [upd_same] at hg
      rw [upd_other _ (fun r => hn r.symm)]
      exact fun hg2 => key e he (fun r => hn r.symm) g hg2 hg
    · rw [upd_other _ e1] at hg
      by_cases e2 : e = c
      · subst e2
        rw [upd_same]
        exact key d hd e1 g hg
      · rw [upd_other _ e2]
        exact h.dis d e hd he hn g hg
  · by_cases e : d = c
    · subst e
      rw [upd_same] at hg
      rcases v.sub g hg with r | r
      · exact h.nb d hd g r
      · exact fun hg2 => by have := h.lt hg2; omega
    · rw [upd_other _ e] at hg
      exact h.nb d hd g hg
  · exact v.fr.mono (Nat.le_refl _) fun k _ hk hk2 => hk (mem_foot.2 (Or.inr ⟨c, hc, hk2⟩))
  · rcases mem_foot.1 hg with r | ⟨d, hd, r⟩
    · exact Or.inl (mem_foot.2 (Or.inl r))
    · by_cases e : d = c
      · subst e
        rw [upd_same] at r
        rcases v.sub g r with r | r
        · exact Or.inl (mem_foot.2 (Or.inr ⟨d, hd, r⟩))
        · exact Or.inr r
      · rw [upd_other _ e] at r
        exact Or.inl (mem_foot.2 (Or.inr ⟨d, hd, r⟩))
/-- The map is another one. -/
theorem TB.map {w' : World} (h : TB w t sb sg tb mb n N S K G W O m f) {m' : Nat} {f' : Int → Option Int} (q : MQ 3 w' mb m' f') (v : Fr w.heap.size [mb] w w') :
    TB w' t sb sg tb mb n N S K G W O m' f' ∧ Mv w w' (foot t sb sg tb mb n G) (foot t sb sg tb mb n G) := by
  have n1 := h.mp.blk h.st
  have n2 := h.mp.blk h.tab
  have n3 := h.mp.blk h.sl.sb
  have n4 := h.mp.blk h.sl.sg
  refine ⟨⟨h.st.keep v h.st.lt (by simp [n1.symm]), h.tab.keep v h.tab.lt (by simp [n2.symm]), h.sl.keep v ⟨h.sl.sb.lt, h.sl.sg.lt⟩ ⟨by simp [n3.symm], by simp [n4.symm]⟩, q, fun c hc => (h.ws c hc).keep v (Nat.le_refl _) fun g hg hg2 => h.nb c hc g hg (by simp at hg2; simp [hg2]), h.dis, h.nb, h.n1, h.n2⟩, v.mono (Nat.le_refl _) fun k _ hk hk2 => hk (mem_foot.2 (Or.inl (by simp at hk2; simp [hk2]))), fun g hg => Or.inl hg⟩
end
/-- Timers of n cores at the tick now; core c has K c; the blocks are F. -/
def TX (w : World) (t n : Nat) (now : Int) (K : Ks) (F : List Nat) : Prop :=
  ∃ sb sg tb mb S G W O, TB w t sb sg tb mb n (fun _ => now) S K G W O (cnt (oc n K)) (cq n K) ∧ Al n K ∧ (∀ i, 1 ≤ i → i ≤ 48 → O i = oc n K i) ∧ F = foot t sb sg tb mb n G
theorem TX.keep {B : Nat} {Z : List Nat} {w w' : World} {t n : Nat} {now : Int} {K : Ks} {F : List Nat} (h : TX w t n now K F) (k : Fr B Z w w') (hB : w.heap.size ≤ B) (hZ : ∀ g ∈ F, g ∉ Z) : TX w' t n now K F := by
  obtain ⟨sb, sg, tb, mb, S, G, W, O, b, a, o, rfl⟩ := h
  exact ⟨sb, sg, tb, mb, S, G, W, O, b.keep k hB hZ, a, o, rfl⟩
theorem TX.below {w w' : World} {t n : Nat} {now : Int} {K : Ks} {F : List Nat} (h : TX w t n now K F) (k : Below w.heap.size w w') : TX w' t n now K F := h.keep (Fr.of_below k) (Nat.le_refl _) (by simp)
theorem TX.lt {w : World} {t n : Nat} {now : Int} {K : Ks} {F : List Nat} (h : TX w t n now K F) {g : Nat} (hg : g ∈ F) : g < w.heap.size := by
  obtain ⟨sb, sg, tb, mb, S, G, W, O, b, a, o, rfl⟩ := h
  exact b.hi hg
theorem TX.al {w : World} {t n : Nat} {now : Int} {K : Ks} {F : List Nat} (h : TX w t n now K F) : Al n K := by
  obtain ⟨sb, sg, tb, mb, S, G, W, O, b, a, o, rfl⟩ := h
  exact a
theorem TX.n2 {w : World} {t n : Nat} {now : Int} {K : Ks} {F : List Nat} (h : TX w t n now K F) : 1 ≤ n ∧ n ≤ 64 := by
  obtain ⟨sb, sg, tb, mb, S, G, W, O, b, a, o, rfl⟩ := h
  exact ⟨b.n1, b.n2⟩
/-- The wheel of a core. -/
theorem on_yes {w : World} {t tb n : Nat} {S : Nat → Nat} (c : Nat) (hc : (c : Int) < n) (c1 : w.cell? ⟨t, 1, none⟩ = some (.slice (some ⟨tb, 0, none⟩) n n)) (cw : w.cell? ⟨tb, c, none⟩ = some (.pointer (some ⟨S c, 0, none⟩))) :
    Calls Tryz.prog 98 #[.pointer (some ⟨t, 0, none⟩), .int .i64 (c : Int)] w fun e w' => e = .returned (.tuple #[.pointer (some ⟨S c, 0, none⟩), .int .i64 0]) ∧ w' = w := by
  generalize S c = s at *
  go_enter Tryz.func98, Tryz.ntmps98
  go_wp2
  go_ret2
  exact ⟨rfl, rfl⟩
theorem on_no {w : World} {t tb n : Nat} (c : Int) (hc : ¬ isC n c) (c1 : w.cell? ⟨t, 1, none⟩ = some (.slice (some ⟨tb, 0, none⟩) n n)) :
    Calls Tryz.prog 98 #[.pointer (some ⟨t, 0, none⟩), .int .i64 c] w fun e w' => e = .returned (.tuple #[.pointer none, .int .i64 3]) ∧ w' = w := by
  unfold isC at hc
  by_cases q : c < 0
  · go_enter Tryz.func98, Tryz.ntmps98
    go_wp2
    go_ret2
    exact ⟨rfl, rfl⟩
  · have q2 : ¬ c < n := fun z => hc ⟨by omega, z⟩
    go_enter Tryz.func98, Tryz.ntmps98
    go_wp2
    go_ret2
    exact ⟨rfl, rfl⟩
end Go.Proofs.YtfipiifickdeiaaGreatDoor.Tim
namespace Go.Proofs.YtfipiifickdeiaaGreatDoor.Tim
open Slt
open Go.ChangeShapes Go.WideShapes Go.ChangeAt Go.RowKit
open Wm Zm Sl
end Go.Proofs.YtfipiifickdeiaaGreatDoor.Tim
namespace Go.Proofs.YtfipiifickdeiaaGreatDoor.Tim
open Slt
open Go.ChangeShapes Go.WideShapes Go.ChangeAt Go.RowKit
open Wm Zm Sl
/-- What Arm answers. -/
def arN (n : Nat) (K : Ks) (c d : Int) : Int := if isC n c then (if isT d then tN (ff 48 (oc n K)) else 0) else 0
def arE (n : Nat) (K : Ks) (c d : Int) : Int := if isC n c then (if isT d then tE (ff 48 (oc n K)) else 2) else 3
def arL (n : Nat) (K : Ks) (c d : Int) : Ks := if isC n c then (if isT d then arK n K c.toNat d else K) else K
end Go.Proofs.YtfipiifickdeiaaGreatDoor.Tim
namespace Go.Proofs.YtfipiifickdeiaaGreatDoor.Tim
open Slt
open Go.ChangeShapes Go.WideShapes Go.ChangeAt Go.RowKit
open Wm Zm Sl
theorem Tryz.infoPW : (Tryz.prog.info? 134).map (fun i => (i.zero, i.size, i.bytes)) = some (some (.pointer none), 1, 8) := by kernel_rfl
/-- The table while wheels are made: the first k are there. -/
def wtab (S : Nat → Nat) (n k : Nat) : List Value := (List.range n).map fun c => if c < k then .pointer (some ⟨S c, 0, none⟩) else .pointer none
theorem wtab_get (S : Nat → Nat) (n k c : Nat) (h : c < n) : (wtab S n k)[c]? = some (if c < k then .pointer (some ⟨S c, 0, none⟩) else .pointer none) := by
  unfold wtab
  rw [List.getElem?_map, List.getElem?_range h]
  rfl
theorem wtab_set (S : Nat → Nat) (n k s : Nat) (_ : k < n) : (wtab S n k).set k (.pointer (some ⟨s, 0, none⟩)) = wtab (upd S k s) n (k + 1) := by
  apply List.ext_getElem?
  intro c
  by_cases hc : c < n
  · rw [wtab_get _ _ _ _ hc, List.getElem?_set]
    by_cases e : k = c
    · subst e
      rw [if_pos rfl, if_pos (by simpa [wtab] using hc), if_pos (by omega), upd_same]
    · rw [if_neg e, wtab_get _ _ _ _ hc, upd_other _ (fun q => e q.symm)]
      by_cases q : c < k
      · rw [if_pos q, if_pos (by omega)]
      · rw [if_neg q, if_neg (by omega)]
  · rw [List.getElem?_eq_none (by simp [wtab]; omega), List.getElem?_eq_none (by simp [wtab]; omega)]
theorem wtab_all (S : Nat → Nat) (n : Nat) : wtab S n n = (List.range n).map fun c => .pointer (some ⟨S c, 0, none⟩) := by
  unfold wtab
  apply List.map_congr_left
  intro c hc
  rw [if_pos (List.mem_range.1 hc)]
theorem made_wptr (S : Nat → Nat) (n : Nat) : madeCells #[Value.pointer none] n = (wtab S n 0).toArray := by
  apply Array.ext
  · simp [size_madeCells, wtab]
  · intro i h1 h2
    simp [madeCells, wtab, Nat.mod_one]
structure TN (w wr : World) (t sb sg tb mb n k : Nat) (S : Nat → Nat) : Prop where
  bel : Below w.heap.size w wr
  lo : ∀ g ∈ [t, sb, sg, tb, mb], w.heap.size ≤ g
  st : Blk wr t [.pointer (some ⟨sb, 0, none⟩), .slice (some ⟨tb, 0, none⟩) n n, .map (some mb)] 133
  tab : Blk wr tb (wtab S n k) 134
  sl : ∃ W, T wr sb sg 48 W fun _ => false
  mp : MQ 3 wr mb 0 fun _ => none
  ws : ∀ c, c < k → WW wr (S c) 0 [] [S c]
  dis : ∀ c d, c < k → d < k → c ≠ d → S c ≠ S d
  nb : ∀ c, c < k → S c ∉ [t, sb, sg, tb, mb] ∧ w.heap.size ≤ S c
theorem TN.lt {w wr : World} {t sb sg tb mb n k : Nat} {S : Nat → Nat} (h : TN w wr t sb sg tb mb n k S) {g : Nat} (hg : g ∈ [t, sb, sg, tb, mb]) : g < wr.heap.size := by
  obtain ⟨W, s⟩ := h.sl
  simp only [List.mem_cons, List.not_mem_nil, or_false] at hg
  rcases hg with rfl | rfl | rfl | rfl | rfl
  · exact h.st.lt
  · exact s.sb.lt
  · exact s.sg.lt
  · exact h.tab.lt
  · exact h.mp.lt
theorem tn_step {w wr w1 : World} {t sb sg tb mb n k : Nat} {S : Nat → Nat} (h : TN w wr t sb sg tb mb n k S) (hk : k < n) (q : WW w1 wr.heap.size 0 [] [wr.heap.size]) (f : Below wr.heap.size wr w1) :
    TN w (w1.setCell ⟨tb, k, none⟩ (.pointer (some ⟨wr.heap.size, 0, none⟩))) t sb sg tb mb n (k + 1) (upd S k wr.heap.size) := by
  obtain ⟨W, s⟩ := h.sl
  have hw := h.bel.size
  have hz := f.size
  have f1 := Fr.of_below f
  have n1 : t ≠ tb := h.st.ne h.tab (by decide)
  have n2 : sb ≠ tb := s.sb.ne h.tab (by decide)
  have n3 : sg ≠ tb := s.sg.ne h.tab (by decide)
  have n4 : mb ≠ tb := h.mp.blk h.tab
  have fs : Fr w1.heap.size [tb] w1 (w1.setCell ⟨tb, k, none⟩ (.pointer (some ⟨wr.heap.size, 0, none⟩))) := (Fr.refl _ _ _).setCell (Or.inr (by simp)) _
  have ltb := h.lt (g := tb) (by simp)
  have mem1 := h.lo tb (by simp)
  refine ⟨(h.bel.trans (f.mono hw)).setCell (p := ⟨tb, k, none⟩) mem1 _, h.lo, (h.st.keep f1 h.st.lt (by simp)).other (p := ⟨tb, k, none⟩) n1 _, ?_, ⟨W, ?_⟩, ?_, fun c hc => ?_, fun c d hc hd hn => ?_, fun c hc => ?_⟩
  · rw [← wtab_set _ _ _ _ hk]
    exact (h.tab.keep f1 h.tab.lt (by simp)).set k _
  · have s1 := s.keep f1 ⟨s.sb.lt, s.sg.lt⟩ (by simp)
    exact s1.keep fs ⟨s1.sb.lt, s1.sg.lt⟩ ⟨by simp [n2], by simp [n3]⟩
  · have m1 := h.mp.keep f1 h.mp.lt (by simp)
    exact m1.keep fs m1.lt (by simp [n4])
  · by_cases e : c = k
    · subst e
      rw [upd_same]
      exact q.keep fs (Nat.le_refl _) (by simp; omega)
    · rw [upd_other _ e]
      have := (h.nb c (by omega)).1
      simp only [List.mem_cons, List.not_mem_nil, or_false, not_or] at this
      exact ((h.ws c (by omega)).below f).keep fs (Nat.le_refl _) (by simp; exact this.2.2.2.1)
  · have key : ∀ c, c < k → S c ≠ wr.heap.size := fun c hc => by
      have := (h.ws c hc).lt (g := S c) (by simp)
      omega
    by_cases e1 : c = k
    · subst e1
      rw [upd_same, upd_other _ (fun z => hn z.symm)]
      exact fun z => key d (by omega) z.symm
    · rw [upd_other _ e1]
      by_cases e2 : d = k
      · subst e2
        rw [upd_same]
        exact key c (by omega)
      · rw [upd_other _ e2]
        exact h.dis c d (by omega) (by omega) hn
  · by_cases e : c = k
    · subst e
      rw [upd_same]
      exact ⟨fun hm => by have := h.lt hm; omega, hw⟩
    · rw [upd_other _ e]
      exact h.nb c (by omega)
theorem tn_end {w wr : World} {t sb sg tb mb n : Nat} {S : Nat → Nat} (h : TN w wr t sb sg tb mb n n S) (h1 : 1 ≤ n) (h2 : n ≤ 64) :
    ∃ F, TX wr t n 0 (fun _ => []) F ∧ (∀ g ∈ F, w.heap.size ≤ g) ∧ Below w.heap.size w wr := by
  obtain ⟨W, s⟩ := h.sl
  have e1 : oc n (fun _ => []) = fun _ => false := funext fun i => by unfold oc; rw [onc_nil]; rfl
  have e2 : cq n (fun _ => []) = fun _ => none := funext fun i => cq_none.2 (onc_nil n i)
  have e3 : cnt (fun _ => false) = 0 := by decide
  refine ⟨foot t sb sg tb mb n fun c => [S c], ⟨sb, sg, tb, mb, S, fun c => [S c], W, fun _ => false, ⟨h.st, by rw [← wtab_all]; exact h.tab, s, by rw [e1, e2, e3]; exact h.mp, h.ws, fun c d hc hd hn g hg => ?_, fun c hc g hg => ?_, h1, h2⟩, al_nil n, fun i _ _ => by rw [e1], rfl⟩, fun g hg => ?_, h.bel⟩
  · simp at hg ⊢
    rw [hg]
    exact h.dis c d hc hd hn
  · simp only [List.mem_singleton] at hg
    rw [hg]
    exact (h.nb c hc).1
  · rcases mem_foot.1 hg with q | ⟨c, hc, q⟩
    · exact h.lo g q
    · simp only [List.mem_singleton] at q
      rw [q]
      exact (h.nb c hc).2
set_option maxRecDepth 100000 in
set_option maxHeartbeats 1000000 in
theorem tnew_any (n : Nat) (w : World) (h1 : (1 : Int) ≤ n) (h2 : (n : Int) ≤ 64) :
    Calls Tryz.prog 21 #[.int .i64 (n : Int)] w fun e w' => ∃ t, e = .returned (.tuple #[.pointer (some ⟨t, 0, none⟩), .int .i64 0]) ∧ ∃ F, TX w' t n 0 (fun _ => []) F ∧ (∀ g ∈ F, w.heap.size ≤ g) ∧ Below w.heap.size w w' := by
  have NS : Hid (∀ _ : Unit, _) := fun _ => new_any 48 w (by decide) (by decide)
  have C : Hid (∀ w, _) := fun w => wnew_any 0 w (by decide)
  have hmk := run_make_row' (P := Tryz.prog) 131 134 (.pointer none) 8 Tryz.underlying131 Tryz.infoPW rfl .i64 .i64 n (by omega) (by omega)
  rw [made_wptr (fun _ => 0) n] at hmk
  have hmm := @run_makeMap Tryz.prog
  obtain ⟨T0, hT⟩ : ∃ T0, wtab (fun _ => 0) n 0 = T0 := ⟨_, rfl⟩
  have HT : Hid (wtab (fun _ => 0) n 0 = T0) := hT
  rw [hT] at hmk
  clear hT
  go_enter Tryz.func21, Tryz.ntmps21
  go_wp2_with fail
  refine (NS.out ()).mono ?_
  rintro e w1 ⟨rfl, ⟨W, s⟩, f1⟩
  have hs := s.sb.lt
  have hg := s.sg.lt
  have P0 : Hid (TN w (((w1.alloc (.cells T0.toArray 134)).alloc (.map #[] 0)).alloc (.cells #[.pointer (some ⟨w.heap.size + 1, 0, none⟩), .slice (some ⟨w1.heap.size, 0, none⟩) n n, .map (some (w1.heap.size + 1))] 133)) (w1.heap.size + 2) (w.heap.size + 1) w.heap.size w1.heap.size (w1.heap.size + 1) n 0 fun _ => 0) := by
    have b0 : Below w.heap.size w w1 := f1.below (by simp)
    refine ⟨((b0.alloc (by omega) _).alloc (by simp; omega) _).alloc (by simp; omega) _, ?_, ?_, ?_, ⟨W, ?_⟩, ?_, fun c hc => by omega, fun c d hc => by omega, fun c hc => by omega⟩
    · intro g hg
      simp only [List.mem_cons, List.not_mem_nil, or_false] at hg
      omega
    · have := Blk.new ((w1.alloc (.cells T0.toArray 134)).alloc (.map #[] 0)) [.pointer (some ⟨w.heap.size + 1, 0, none⟩), .slice (some ⟨w1.heap.size, 0, none⟩) n n, .map (some (w1.heap.size + 1))] 133
      rwa [World.size_alloc, World.size_alloc] at this
    · rw [HT.out]
      exact ((Blk.new w1 _ _).alloc _).alloc _
    · exact ⟨((s.sb.alloc _).alloc _).alloc _, ((s.sg.alloc _).alloc _).alloc _, s.wd⟩
    · have m0 := mq_new (te := 3) (w1.alloc (.cells T0.toArray 134))
      rw [World.size_alloc] at m0
      exact m0.keep ((Fr.refl _ [] _).alloc (Nat.le_refl _) _) (by simp) (by simp)
  clear s f1 hs hg NS
  go_wp2
  generalize w1.heap.size + 2 = t at *
  generalize w1.heap.size + 1 = mb at *
  generalize w1.heap.size = tb at *
  generalize w.heap.size + 1 = sb at *
  go_loopw [34] (fun i wr => ∃ (k : Nat) (S : Nat → Nat), (k : Int) ≤ n ∧ i = .int .i64 (k : Int) ∧ TN w wr t sb w.heap.size tb mb n k S) (fun i _ => n - (intOf i).toNat)
  case atStart => exact ⟨0, _, by omega, rfl, P0.out⟩
  case round =>
    obtain ⟨k, S, hk, rfl, P⟩ := hrel
    by_cases c : (k : Int) < n
    · have C1 : Hid (∀ _ : Unit, _) := fun _ => C.out wr
      have ST : Hid (∀ w1 : World, _ → _ → _) := fun w1 q f => tn_step (w1 := w1) P (by omega) q f
      have cb : Hid (∀ w1 : World, Below wr.heap.size wr w1 → w1.cell? ⟨tb, k, none⟩ = some (.pointer none) ∧ w1.frozen? ⟨tb, k, none⟩ = false ∧ w1.cell? ⟨t, 1, none⟩ = some (.slice (some ⟨tb, 0, none⟩) n n)) := fun w1 f => by
        have b := P.tab.keep (Fr.of_below f) P.tab.lt (by simp)
        have b2 := P.st.keep (Fr.of_below f) P.st.lt (by simp)
        exact ⟨by rw [b.cell, wtab_get _ _ _ _ (by omega), if_neg (by omega)], b.free k, b2.cell 1⟩
      clear P P0
      go_wp2_with fail
      refine (C1.out ()).mono ?_
      rintro e w1 ⟨rfl, q, f⟩
      obtain ⟨c1, f1, s1⟩ := cb.out w1 f
      have N2 : Hid _ := ST.out w1 q f
      clear q f
      go_wp2
      go_roundw
      case rel => exact ⟨k + 1, _, by omega, by go_num, N2.out⟩
      case measure => simp [intOf]; omega
    · obtain rfl : k = n := by omega
      have e : Hid _ := tn_end P (by omega) (by omega)
      clear P P0
      go_wp2
      go_ret2
      exact ⟨t, rfl, e.out⟩
end Go.Proofs.YtfipiifickdeiaaGreatDoor.Tim
namespace Go.Proofs.YtfipiifickdeiaaGreatDoor.Tim
open Slt
open Go.ChangeShapes Go.WideShapes Go.ChangeAt Go.RowKit
open Wm Zm Sl
theorem tnow_any {w : World} {t n : Nat} {now : Int} {K : Ks} {F : List Nat} (h : TX w t n now K F) :
    Calls Tryz.prog 111 #[.pointer (some ⟨t, 0, none⟩)] w fun e w' => e = .returned (.int .i64 now) ∧ w' = w := by
  obtain ⟨sb, sg, tb, mb, S, G, W, O, b, a, o, rfl⟩ := h
  have h1 := b.n1
  have ON : Hid (∀ _ : Unit, _) := fun _ => on_yes (S := S) (n := n) 0 (by omega) b.c1 (b.cw h1)
  have NW : Hid (∀ _ : Unit, _) := fun _ => now_any (b.ws 0 h1)
  generalize S 0 = s at *
  clear b a o h1
  go_enter Tryz.func111, Tryz.ntmps111
  go_wp2_with fail
  refine (ON.out ()).mono ?_
  rintro e w' ⟨rfl, rfl⟩
  go_wp2_with fail
  refine (NW.out ()).mono ?_
  rintro e w' ⟨rfl, rfl⟩
  go_wp2
  go_ret
  exact ⟨rfl, rfl⟩
end Go.Proofs.YtfipiifickdeiaaGreatDoor.Tim
namespace Go.Proofs.YtfipiifickdeiaaGreatDoor.Tim
open Slt
open Go.ChangeShapes Go.WideShapes Go.ChangeAt Go.RowKit
open Wm Zm Sl
def txN (n : Nat) (K : Ks) (c : Int) : Int := if isC n c then nxN (K c.toNat) else 0
def txE (n : Nat) (K : Ks) (c : Int) : Int := if isC n c then nxE (K c.toNat) else 3
def txR (n : Nat) (now : Int) (K : Ks) (c : Int) : Bool := if isC n c then decide (duL now (K c.toNat) ≠ []) else false
theorem core_of {n : Nat} {c : Int} (h : isC n c) : ∃ k : Nat, c = k ∧ k < n := ⟨c.toNat, by have := h.1; omega, by have := h.1; have := h.2; omega⟩
/-- Sorted by when they are due: one is due, if the first is. -/
theorem du_nil {now : Int} {L : List It} (s : Srt L) : duL now L = [] ↔ nxE L = 12 ∨ now < nxN L := by
  cases L with
  | nil => simp [duL, nxE]
  | cons x R =>
    unfold duL nxE nxN
    rw [List.filter_eq_nil_iff]
    simp only [decide_eq_true_eq]
    constructor
    · intro h
      have := h x (by simp)
      exact Or.inr (by omega)
    · intro h y hy hle
      have hx : now < x.1 := by rcases h with h | h; omega; exact h
      rcases List.mem_cons.1 hy with e | hm
      · rw [e] at hle; omega
      · have := List.rel_of_pairwise_cons s hm
        unfold lt at this
        omega
theorem tnext_any {w : World} {t n : Nat} {now : Int} {K : Ks} {F : List Nat} (c : Int) (h : TX w t n now K F) :
    Calls Tryz.prog 112 #[.pointer (some ⟨t, 0, none⟩), .int .i64 c] w fun e w' => e = .returned (.tuple #[.int .i64 (txN n K c), .int .i64 (txE n K c)]) ∧ w' = w := by
  obtain ⟨sb, sg, tb, mb, S, G, W, O, b, a, o, rfl⟩ := h
  unfold txN txE
  by_cases hc : isC n c
  · rw [if_pos hc, if_pos hc]
    obtain ⟨k, rfl, hk⟩ := core_of hc
    rw [Int.toNat_natCast]
    have ON : Hid (∀ _ : Unit, _) := fun _ => on_yes (S := S) k (by omega) b.c1 (b.cw hk)
    have NX : Hid (∀ _ : Unit, _) := fun _ => next_any (b.ws k hk) (Nat.le_trans (a.len hk) (by omega))
    generalize S k = s at *
    generalize nxN (K k) = r1 at *
    generalize nxE (K k) = r2 at *
    clear b a o hc hk
    go_enter Tryz.func112, Tryz.ntmps112
    go_wp2_with fail
    refine (ON.out ()).mono ?_
    rintro e w' ⟨rfl, rfl⟩
    go_wp2_with fail
    refine (NX.out ()).mono ?_
    rintro e w' ⟨rfl, rfl⟩
    go_wp2
    go_ret2
    exact ⟨rfl, rfl⟩
  · rw [if_neg hc, if_neg hc]
    have ON : Hid (∀ _ : Unit, _) := fun _ => on_no c hc b.c1
    clear b a o hc
    go_enter Tryz.func112, Tryz.ntmps112
    go_wp2_with fail
    refine (ON.out ()).mono ?_
    rintro e w' ⟨rfl, rfl⟩
    go_wp2
    go_ret2
    exact ⟨rfl, rfl⟩
theorem tready_any {w : World} {t n : Nat} {now : Int} {K : Ks} {F : List Nat} (c : Int) (h : TX w t n now K F) :
    Calls Tryz.prog 64 #[.pointer (some ⟨t, 0, none⟩), .int .i64 c] w fun e w' => e = .returned (.bool (txR n now K c)) ∧ w' = w := by
  obtain ⟨sb, sg, tb, mb, S, G, W, O, b, a, o, rfl⟩ := h
  unfold txR
  by_cases hc : isC n c
  · rw [if_pos hc]
    obtain ⟨k, rfl, hk⟩ := core_of hc
    rw [Int.toNat_natCast]
    have ON : Hid (∀ _ : Unit, _) := fun _ => on_yes (S := S) k (by omega) b.c1 (b.cw hk)
    have NX : Hid (∀ _ : Unit, _) := fun _ => next_any (b.ws k hk) (Nat.le_trans (a.len hk) (by omega))
    have NW : Hid (∀ _ : Unit, _) := fun _ => now_any (b.ws k hk)
    have D := du_nil (now := now) (a.srt k hk)
    have r12 : nxE (K k) = 12 ∨ nxE (K k) = 0 := by unfold nxE; split; exact Or.inl rfl; exact Or.inr rfl
    generalize S k = s at *
    generalize nxN (K k) = r1 at *
    generalize nxE (K k) = r2 at *
    obtain ⟨rb, hrb⟩ : ∃ rb, rb = decide (duL now (K k) ≠ []) := ⟨_, rfl⟩
    rw [← hrb]
    rcases r12 with rfl | rfl
    · have e : rb = false := by rw [hrb]; simp; exact D.2 (Or.inl rfl)
      subst e
      clear b a o hc hk D hrb NW
      go_enter Tryz.func64, Tryz.ntmps64
      go_wp2_with fail
      refine (ON.out ()).mono ?_
      rintro e w' ⟨rfl, rfl⟩
      go_wp2_with fail
      refine (NX.out ()).mono ?_
      rintro e w' ⟨rfl, rfl⟩
      go_wp2
      go_ret
      exact ⟨rfl, rfl⟩
    · have e : rb = decide (r1 ≤ now) := by
        rw [hrb]
        apply decide_eq_decide.2
        rw [ne_eq, D]
        omega
      subst e
      clear b a o hc hk D hrb
      go_enter Tryz.func64, Tryz.ntmps64
      go_wp2_with fail
      refine (ON.out ()).mono ?_
      rintro e w' ⟨rfl, rfl⟩
      go_wp2_with fail
      refine (NX.out ()).mono ?_
      rintro e w' ⟨rfl, rfl⟩
      go_wp2_with fail
      refine (NW.out ()).mono ?_
      rintro e w' ⟨rfl, rfl⟩
      go_wp2
      go_ret
      exact ⟨rfl, rfl⟩
  · rw [if_neg hc]
    have ON : Hid (∀ _ : Unit, _) := fun _ => on_no c hc b.c1
    have NX : Hid (∀ w, _) := fun w => wnil_next w
    clear b a o hc
    go_enter Tryz.func64, Tryz.ntmps64
    go_wp2_with fail
    refine (ON.out ()).mono ?_
    rintro e w' ⟨rfl, rfl⟩
    go_wp2_with fail
    refine (NX.out _).mono ?_
    rintro e w' ⟨rfl, rfl⟩
    go_wp2
    go_ret
    exact ⟨rfl, rfl⟩
end Go.Proofs.YtfipiifickdeiaaGreatDoor.Tim
namespace Go.Proofs.YtfipiifickdeiaaGreatDoor.Tim
open Slt
open Go.ChangeShapes Go.WideShapes Go.ChangeAt Go.RowKit
open Wm Zm Sl
theorem WW.tks {w : World} {s : Nat} {now : Int} {L : List It} {F : List Nat} (h : WW w s now L F) : Tks L := by
  obtain ⟨mp, V, h, rfl⟩ := h
  exact h.tks
/-- What is left when one moves. -/
def mvK (K : Ks) (f t : Nat) (x : It) : Ks := up (up K t (ins x (K t))) f (rid x.2 (K f))
def moE (n : Nat) (K : Ks) (c d : Int) : Int := if isC n c ∧ isC n d then (if c = d then 2 else match K c.toNat with | [] => 12 | _ :: _ => 0) else 3
def moK (n : Nat) (K : Ks) (c d : Int) : Ks := if isC n c ∧ isC n d then (if c = d then K else match K c.toNat with | [] => K | x :: _ => mvK K c.toNat d.toNat x) else K
/-- What Fire answers and leaves. -/
def fxN (n : Nat) (now : Int) (K : Ks) (c : Int) : Int := if isC n c then fiN now (K c.toNat) else 0
def fxK (n : Nat) (now : Int) (K : Ks) (c : Int) : Ks := if isC n c then fiK now K c.toNat else K
end Go.Proofs.YtfipiifickdeiaaGreatDoor.Tim
