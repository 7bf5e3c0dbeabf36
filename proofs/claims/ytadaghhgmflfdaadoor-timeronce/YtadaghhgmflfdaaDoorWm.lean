/- Ticks to the base eight, rooms of a wheel, lists in order: plain facts; no program in it. -/
import Derived.Lib.BitFns
namespace Go.Proofs.YtadaghhgmflfdaaDoor.Wm

/-- How high two ticks part. -/
def lv (a b : Nat) : Nat := (Lib.bitLen (a ^^^ b) - 1) / 3

theorem bl_lt : ∀ (k x : Nat), x < 2 ^ k → k ≤ 64 → Lib.bitLen x ≤ k
  | 0, x, h, _ => by
    obtain rfl : x = 0 := by omega
    exact Nat.le_refl _
  | k + 1, x, h, hk => by
    by_cases e : x = 0
    · subst e
      exact Nat.zero_le _
    · have h64 : x < 2 ^ 64 := Nat.lt_of_lt_of_le h (Nat.pow_le_pow_right (by decide) hk)
      rw [Lib.bitLen_half x e h64]
      have := bl_lt k (x / 2) (by rw [Nat.pow_succ] at h; omega) (by omega)
      omega
theorem bl_ge (k x : Nat) (h : 2 ^ k ≤ x) (hx : x < 2 ^ 64) : k + 1 ≤ Lib.bitLen x := by
  have e0 : x / 2 ^ k ≠ 0 := by
    have := Nat.div_pos h (Nat.two_pow_pos k)
    omega
  have l0 : x / 2 ^ k < 2 ^ 64 := Nat.lt_of_le_of_lt (Nat.div_le_self _ _) hx
  rw [Lib.bitLen_shift k x h hx, Lib.bitLen_half _ e0 l0]
  omega

theorem p8 (k : Nat) : 8 ^ k = 2 ^ (3 * k) := by rw [Nat.pow_mul]
theorem same8 (a b k : Nat) : a / 8 ^ k = b / 8 ^ k ↔ (a ^^^ b) < 8 ^ k := by
  rw [p8]
  have e := @Nat.xor_div_two_pow a b (3 * k)
  constructor
  · intro h
    rw [h, Nat.xor_self] at e
    have := (Nat.div_eq_zero_iff).1 e
    rcases this with h | h
    · have := Nat.two_pow_pos (3 * k)
      omega
    · exact h
  · intro h
    rw [Nat.div_eq_of_lt h] at e
    have e2 := congrArg (fun z => z ^^^ (b / 2 ^ (3 * k))) e
    simp only [Nat.zero_xor, Nat.xor_assoc, Nat.xor_self, Nat.xor_zero] at e2
    exact e2.symm

/-- Ticks are below 2^61. -/
def tk (a : Nat) : Prop := a ≤ 1152921504606846976

theorem xor_small {a b : Nat} (ha : tk a) (hb : tk b) : a ^^^ b < 2 ^ 61 := Nat.xor_lt_two_pow (by unfold tk at ha; omega) (by unfold tk at hb; omega)

theorem lv_hi {a b : Nat} (ha : tk a) (hb : tk b) : a / 8 ^ (lv a b + 1) = b / 8 ^ (lv a b + 1) := by
  rw [same8, p8]
  have hx := xor_small ha hb
  unfold lv
  refine Nat.not_le.1 fun h => ?_
  have := bl_ge _ _ h (Nat.lt_trans hx (by decide))
  omega
theorem lv_lo {a b : Nat} (ha : tk a) (hb : tk b) (h : lv a b ≠ 0) : a / 8 ^ lv a b ≠ b / 8 ^ lv a b := by
  rw [Ne, same8, p8]
  have hx := xor_small ha hb
  intro h2
  have l : 3 * lv a b ≤ 64 := by
    have := bl_lt 61 _ hx (by decide)
    unfold lv
    omega
  have := bl_lt _ _ h2 l
  unfold lv at *
  omega
theorem lv_le {a b : Nat} (ha : tk a) (hb : tk b) : lv a b ≤ 20 := by
  have := bl_lt 61 _ (xor_small ha hb) (by decide)
  unfold lv
  omega
theorem up8 {a b : Nat} {k m : Nat} (h : a / 8 ^ k = b / 8 ^ k) (hk : k ≤ m) : a / 8 ^ m = b / 8 ^ m := by
  obtain ⟨d, rfl⟩ := Nat.exists_eq_add_of_le hk
  rw [Nat.pow_add, ← Nat.div_div_eq_div_mul, ← Nat.div_div_eq_div_mul, h]
theorem lv_is {a b l : Nat} (ha : tk a) (hb : tk b) (h1 : a / 8 ^ (l + 1) = b / 8 ^ (l + 1)) (h2 : l = 0 ∨ a / 8 ^ l ≠ b / 8 ^ l) : lv a b = l := by
  rcases Nat.lt_trichotomy (lv a b) l with h | h | h
  · rcases h2 with h2 | h2
    · omega
    · exact absurd (up8 (lv_hi ha hb) (by omega)) h2
  · exact h
  · exact absurd (up8 h1 (by omega)) (lv_lo ha hb (by omega))

theorem div8 (a k : Nat) : a / 8 ^ k / 8 = a / 8 ^ (k + 1) := by rw [Nat.div_div_eq_div_mul, Nat.pow_succ]

/-- The room of a tick, as the wheel's tick is: 0 is what is due. -/
def rn (a d : Nat) : Nat := if d ≤ a then 0 else 1 + 8 * lv a d + d / 8 ^ lv a d % 8

theorem rn_lt {a d : Nat} (ha : tk a) (hd : tk d) : rn a d < 169 := by
  unfold rn
  split
  · omega
  · have := lv_le ha hd
    have := Nat.mod_lt (d / 8 ^ lv a d) (show 0 < 8 by decide)
    omega
theorem rn_due (a d : Nat) (h : d ≤ a) : rn a d = 0 := if_pos h
theorem rn_not (a d : Nat) (h : a < d) : rn a d = 1 + 8 * lv a d + d / 8 ^ lv a d % 8 := if_neg (by omega)
theorem rn_zero (a d : Nat) : rn a d = 0 ↔ d ≤ a := by
  unfold rn
  split <;> omega

theorem rn_mono {a d e : Nat} (ha : tk a) (hd : tk d) (he : tk e) (h : d ≤ e) : rn a d ≤ rn a e := by
  by_cases c : d ≤ a
  · rw [rn_due a d c]
    exact Nat.zero_le _
  rw [rn_not a d (by omega), rn_not a e (by omega)]
  have dd : ∀ k, d / 8 ^ k ≤ e / 8 ^ k := fun k => Nat.div_le_div_right h
  have ad : ∀ k, a / 8 ^ k ≤ d / 8 ^ k := fun k => Nat.div_le_div_right (by omega)
  have l1 := lv_hi ha hd
  have l2 := lv_hi ha he
  have m1 := Nat.mod_lt (d / 8 ^ lv a d) (show 0 < 8 by decide)
  rcases Nat.lt_trichotomy (lv a d) (lv a e) with q | q | q
  · omega
  · rw [← q] at l2 ⊢
    have := dd (lv a d)
    rw [← div8 a, ← div8 d] at l1
    rw [← div8 a, ← div8 e] at l2
    omega
  · have x := up8 l2 (show lv a e + 1 ≤ lv a d by omega)
    have y := lv_lo ha hd (by omega)
    have := dd (lv a d)
    have := ad (lv a d)
    omega

/-- How far a wheel that goes on must be settled. -/
def jn (a b : Nat) : Nat := 1 + 8 * lv a b + b / 8 ^ lv a b % 8
theorem jn_lt {a b : Nat} (ha : tk a) (hb : tk b) : jn a b < 169 := by
  unfold jn
  have := lv_le ha hb
  have := Nat.mod_lt (b / 8 ^ lv a b) (show 0 < 8 by decide)
  omega

theorem lt_of_div {a b c : Nat} (h : a / c < b / c) : a < b := by
  refine Nat.not_le.1 fun q => ?_
  have := Nat.div_le_div_right (c := c) q
  omega

theorem rn_low {a b d : Nat} (ha : tk a) (hb : tk b) (hd : tk d) (h : a ≤ b) (hj : rn a d ≤ jn a b) : rn b d ≤ rn a d - 1 := by
  by_cases c : d ≤ b
  · rw [rn_due b d c]
    exact Nat.zero_le _
  have hj' := hj
  rw [rn_not a d (by omega)] at hj ⊢
  rw [rn_not b d (by omega)]
  have l1 := lv_hi ha hd
  have l2 := lv_hi ha hb
  have m1 := Nat.mod_lt (d / 8 ^ lv a d) (show 0 < 8 by decide)
  have m2 := Nat.mod_lt (b / 8 ^ lv a b) (show 0 < 8 by decide)
  have m3 := Nat.mod_lt (d / 8 ^ lv b d) (show 0 < 8 by decide)
  have bd : ∀ k, b / 8 ^ k ≤ d / 8 ^ k := fun k => Nat.div_le_div_right (by omega)
  have ab : ∀ k, a / 8 ^ k ≤ b / 8 ^ k := fun k => Nat.div_le_div_right h
  unfold jn at hj
  rcases Nat.lt_trichotomy (lv a d) (lv a b) with q | q | q
  · have x := up8 l1 (show lv a d + 1 ≤ lv a b by omega)
    have y := lv_lo ha hb (by omega)
    have := bd (lv a b)
    have := ab (lv a b)
    omega
  · have e : b / 8 ^ lv a b = d / 8 ^ lv a b := by
      rw [q] at hj l1 m1
      have := bd (lv a b)
      rw [← div8 a, ← div8 d] at l1
      rw [← div8 a, ← div8 b] at l2
      omega
    have lt : lv b d < lv a b := by
      refine Nat.not_le.1 fun g => ?_
      by_cases z : lv b d = 0
      · rw [show lv a b = 0 by omega] at e
        simp at e
        omega
      · exact absurd (up8 e g) (lv_lo hb hd z)
    omega
  · omega

theorem rn_high {a b d : Nat} (ha : tk a) (hb : tk b) (hd : tk d) (_h : a ≤ b) (hj : jn a b < rn a d) : rn b d = rn a d := by
  have c : a < d := by
    refine Nat.not_le.1 fun g => ?_
    rw [rn_due a d g] at hj
    omega
  rw [rn_not a d c] at hj ⊢
  have l1 := lv_hi ha hd
  have l2 := lv_hi ha hb
  have m1 := Nat.mod_lt (d / 8 ^ lv a d) (show 0 < 8 by decide)
  have m2 := Nat.mod_lt (b / 8 ^ lv a b) (show 0 < 8 by decide)
  have ad : ∀ k, a / 8 ^ k ≤ d / 8 ^ k := fun k => Nat.div_le_div_right (by omega)
  unfold jn at hj
  have key : lv a b ≤ lv a d ∧ b / 8 ^ lv a d < d / 8 ^ lv a d ∧ b / 8 ^ (lv a d + 1) = d / 8 ^ (lv a d + 1) := by
    rcases Nat.lt_trichotomy (lv a d) (lv a b) with q | q | q
    · omega
    · rw [← q] at l2 hj
      refine ⟨by omega, ?_, l2.symm.trans l1⟩
      rw [← div8 a, ← div8 d] at l1
      rw [← div8 a, ← div8 b] at l2
      omega
    · have x := up8 l2 (show lv a b + 1 ≤ lv a d by omega)
      have y := lv_lo ha hd (by omega)
      refine ⟨by omega, ?_, (up8 x (Nat.le_succ _)).symm.trans l1⟩
      have := ad (lv a d)
      omega
  obtain ⟨k1, k2, k3⟩ := key
  have bd := lt_of_div k2
  have e : lv b d = lv a d := lv_is hb hd k3 (Or.inr (by omega))
  rw [rn_not b d bd, e]

/- Things in order. -/
/-- A thing: its tick, its number. -/
abbrev It := Int × Int
def lt (x y : It) : Prop := x.1 < y.1 ∨ (x.1 = y.1 ∧ x.2 < y.2)
instance (x y : It) : Decidable (lt x y) := by unfold lt; infer_instance
def Srt (L : List It) : Prop := L.Pairwise lt
/-- What comes of comparing two things. -/
def cm (x y : It) : Int := if x.1 < y.1 then -1 else if y.1 < x.1 then 1 else if x.2 < y.2 then -1 else if y.2 < x.2 then 1 else 0
theorem cm_lt (x y : It) : cm x y < 0 ↔ lt x y := by
  unfold cm lt
  repeat' split
  all_goals omega
theorem cm_eq (x y : It) : cm x y = 0 ↔ x = y := by
  obtain ⟨a, b⟩ := x
  obtain ⟨c, d⟩ := y
  rw [Prod.mk.injEq]
  unfold cm
  dsimp only
  repeat' split
  all_goals omega
theorem lt_trans {x y z : It} (h : lt x y) (k : lt y z) : lt x z := by unfold lt at *; omega
theorem lt_irrefl (x : It) : ¬ lt x x := by unfold lt; omega

/-- How many come ahead of x. -/
def at_ (L : List It) (x : It) : Nat := (L.filter fun y => decide (lt y x)).length
/-- x put in; things that are not x. -/
def ins (x : It) (L : List It) : List It := L.filter (fun y => decide (lt y x)) ++ x :: L.filter (fun y => decide (lt x y))
def rid (i : Int) (L : List It) : List It := L.filter fun y => decide (y.2 ≠ i)

theorem filter_split : ∀ {L : List It} (_ : Srt L) (x : It), L = L.filter (fun y => decide (lt y x)) ++ L.filter (fun y => !decide (lt y x))
  | [], _, _ => rfl
  | y :: L, h, x => by
    have h' := List.pairwise_cons.1 h
    by_cases e : lt y x
    · rw [List.filter_cons_of_pos (by simpa using e), List.filter_cons_of_neg (by simpa using e), List.cons_append, ← filter_split h'.2 x]
    · rw [List.filter_cons_of_neg (by simpa using e), List.filter_cons_of_pos (by simpa using e)]
      have e1 : L.filter (fun y => decide (lt y x)) = [] := List.filter_eq_nil_iff.2 fun z hz g => e (lt_trans (h'.1 z hz) (by simpa using g))
      have e2 : L.filter (fun y => !decide (lt y x)) = L := List.filter_eq_self.2 fun z hz => by simp; exact fun g => e (lt_trans (h'.1 z hz) g)
      rw [e1, e2]
      rfl
theorem take_at {L : List It} (h : Srt L) (x : It) : L.take (at_ L x) = L.filter fun y => decide (lt y x) := by
  have e := congrArg (List.take (at_ L x)) (filter_split h x)
  rw [e]
  exact List.take_left' rfl
theorem drop_at {L : List It} (h : Srt L) (x : It) : L.drop (at_ L x) = L.filter fun y => !decide (lt y x) := by
  have e := congrArg (List.drop (at_ L x)) (filter_split h x)
  rw [e]
  exact List.drop_left' rfl
theorem lt_total {x y : It} (h : ¬ lt y x) (n : y ≠ x) : lt x y := by
  obtain ⟨a, b⟩ := x
  obtain ⟨c, d⟩ := y
  rw [Ne, Prod.mk.injEq] at n
  unfold lt at *
  dsimp only at *
  omega
theorem lt_asymm {x y : It} (h : lt x y) : ¬ lt y x := by unfold lt at *; omega
theorem ge_filter {L : List It} {x : It} (h : x ∉ L) : L.filter (fun y => !decide (lt y x)) = L.filter fun y => decide (lt x y) := by
  refine List.filter_congr fun y hy => ?_
  have ne : y ≠ x := fun e => h (e ▸ hy)
  by_cases e : lt y x
  · simp [e, lt_asymm e]
  · simp [e, lt_total e ne]
theorem ins_is {L : List It} (h : Srt L) {x : It} (hx : x ∉ L) : ins x L = L.take (at_ L x) ++ x :: L.drop (at_ L x) := by
  rw [take_at h, drop_at h, ge_filter hx]
  rfl
theorem at_le (L : List It) (x : It) : at_ L x ≤ L.length := List.length_filter_le _ _
theorem srt_filter {L : List It} (h : Srt L) (p : It → Bool) : Srt (L.filter p) := List.Pairwise.filter p h
theorem srt_ins {L : List It} (h : Srt L) (x : It) : Srt (ins x L) := by
  unfold ins Srt
  rw [List.pairwise_append, List.pairwise_cons]
  refine ⟨srt_filter h _, ⟨fun y hy => by simpa using (List.mem_filter.1 hy).2, srt_filter h _⟩, fun a ha b hb => ?_⟩
  have h1 : lt a x := by simpa using (List.mem_filter.1 ha).2
  rcases List.mem_cons.1 hb with rfl | hb
  · exact h1
  · exact lt_trans h1 (by simpa using (List.mem_filter.1 hb).2)
theorem ins_filter {L : List It} (x : It) (p : It → Bool) : (ins x L).filter p = if p x = true then ins x (L.filter p) else (L.filter p).filter (fun y => decide (lt y x)) ++ (L.filter p).filter fun y => decide (lt x y) := by
  unfold ins
  rw [List.filter_append, List.filter_cons]
  simp only [List.filter_filter]
  have e : ∀ q : It → Bool, (fun a => p a && q a) = fun a => q a && p a := fun q => by funext a; rw [Bool.and_comm]
  rw [e, e]
  split <;> rfl
theorem filter_both {L : List It} (h : Srt L) {x : It} (hx : x ∉ L) : L.filter (fun y => decide (lt y x)) ++ L.filter (fun y => decide (lt x y)) = L := by
  rw [← ge_filter hx, ← filter_split h]
theorem mem_ins {L : List It} {x y : It} (hx : x ∉ L) : y ∈ ins x L ↔ y = x ∨ y ∈ L := by
  unfold ins
  rw [List.mem_append, List.mem_cons, List.mem_filter, List.mem_filter]
  constructor
  · rintro (h | h | h)
    · exact Or.inr h.1
    · exact Or.inl h
    · exact Or.inr h.1
  · rintro (h | h)
    · exact Or.inr (Or.inl h)
    · by_cases e : lt y x
      · exact Or.inl ⟨h, by simpa using e⟩
      · exact Or.inr (Or.inr ⟨h, by simpa using lt_total e (fun q => hx (q ▸ h))⟩)
theorem ins_len {L : List It} (h : Srt L) {x : It} (hx : x ∉ L) : (ins x L).length = L.length + 1 := by
  have := congrArg List.length (filter_both h hx)
  rw [List.length_append] at this
  unfold ins
  rw [List.length_append, List.length_cons]
  omega

/-- The thing at its place. -/
theorem at_get {L : List It} (h : Srt L) {x : It} (hx : x ∈ L) : L = L.take (at_ L x) ++ x :: L.drop (at_ L x + 1) := by
  have e := filter_split h x
  have hm : x ∈ L.filter (fun y => !decide (lt y x)) := List.mem_filter.2 ⟨hx, by simpa using lt_irrefl x⟩
  have hs := srt_filter h (fun y => !decide (lt y x))
  rw [← List.drop_drop, take_at h, drop_at h]
  cases q : L.filter (fun y => !decide (lt y x)) with
  | nil => rw [q] at hm; cases hm
  | cons z M =>
    rw [q] at hm hs e
    have hz : ¬ lt z x := by
      have : z ∈ L.filter (fun y => !decide (lt y x)) := by rw [q]; exact List.mem_cons_self
      simpa using (List.mem_filter.1 this).2
    obtain rfl : x = z := by
      rcases List.mem_cons.1 hm with g | g
      · exact g
      · exact absurd ((List.pairwise_cons.1 hs).1 x g) hz
    simpa using e
theorem at_lt {L : List It} (h : Srt L) {x : It} (hx : x ∈ L) : at_ L x < L.length := by
  have e := congrArg List.length (at_get h hx)
  rw [List.length_append, List.length_cons, List.length_take, List.length_drop] at e
  have := at_le L x
  omega

/-- Numbers are each once. -/
def Uni (L : List It) : Prop := L.Pairwise fun x y => x.2 ≠ y.2
theorem uni_filter {L : List It} (h : Uni L) (p : It → Bool) : Uni (L.filter p) := List.Pairwise.filter p h
theorem uni_eq : ∀ {L : List It} (_ : Uni L) {x y : It}, x ∈ L → y ∈ L → x.2 = y.2 → x = y
  | [], _, _, _, hx, _, _ => by cases hx
  | z :: L, h, x, y, hx, hy, e => by
    have h' := List.pairwise_cons.1 h
    rcases List.mem_cons.1 hx with h1 | h1
    · rcases List.mem_cons.1 hy with h2 | h2
      · rw [h1, h2]
      · rw [h1] at e
        exact absurd e (h'.1 y h2)
    · rcases List.mem_cons.1 hy with h2 | h2
      · rw [h2] at e
        exact absurd e.symm (h'.1 x h1)
      · exact uni_eq h'.2 h1 h2 e
theorem rid_is {L : List It} (h : Srt L) (u : Uni L) {x : It} (hx : x ∈ L) : rid x.2 L = L.take (at_ L x) ++ L.drop (at_ L x + 1) := by
  have e := at_get h hx
  have u2 := u
  rw [e] at u2
  unfold Uni at u2
  rw [List.pairwise_append, List.pairwise_cons] at u2
  have f := congrArg (rid x.2) e
  rw [f]
  unfold rid
  rw [List.filter_append, List.filter_cons_of_neg (by simp)]
  congr 1
  · exact List.filter_eq_self.2 fun z hz => by simpa using u2.2.2 z hz x List.mem_cons_self
  · exact List.filter_eq_self.2 fun z hz => by simpa using fun g => u2.2.1.1 z hz g.symm
theorem rid_filter (i : Int) (L : List It) (p : It → Bool) : (rid i L).filter p = rid i (L.filter p) := by
  unfold rid
  rw [List.filter_filter, List.filter_filter]
  congr 1
  funext a
  rw [Bool.and_comm]
theorem rid_none {L : List It} {i : Int} (h : ∀ x ∈ L, x.2 ≠ i) : rid i L = L := List.filter_eq_self.2 fun z hz => by simpa using h z hz
theorem srt_rid {L : List It} (h : Srt L) (i : Int) : Srt (rid i L) := srt_filter h _
theorem uni_rid {L : List It} (h : Uni L) (i : Int) : Uni (rid i L) := uni_filter h _
theorem mem_rid {L : List It} {i : Int} {x : It} : x ∈ rid i L ↔ x ∈ L ∧ x.2 ≠ i := by
  unfold rid
  rw [List.mem_filter]
  simp
theorem rid_len {L : List It} (h : Srt L) (u : Uni L) {x : It} (hx : x ∈ L) : (rid x.2 L).length + 1 = L.length := by
  have l := at_lt h hx
  rw [rid_is h u hx, List.length_append, List.length_take, List.length_drop]
  omega
theorem uni_ins {L : List It} (u : Uni L) {x : It} (hx : ∀ y ∈ L, y.2 ≠ x.2) : Uni (ins x L) := by
  have u1 := u
  unfold ins Uni
  rw [List.pairwise_append, List.pairwise_cons]
  refine ⟨uni_filter u _, ⟨fun y hy => fun e => hx y (List.mem_filter.1 hy).1 e.symm, uni_filter u _⟩, fun a ha b hb => ?_⟩
  rcases List.mem_cons.1 hb with rfl | hb
  · exact hx a (List.mem_filter.1 ha).1
  · intro e
    have q := uni_eq u (List.mem_filter.1 ha).1 (List.mem_filter.1 hb).1 e
    have h1 : lt a x := by simpa using (List.mem_filter.1 ha).2
    have h2 : lt x b := by simpa using (List.mem_filter.1 hb).2
    rw [← q] at h2
    exact lt_asymm h1 h2

/-- The tick of a number. -/
def wn (L : List It) (i : Int) : Option Int := (L.find? fun y => decide (y.2 = i)).map (·.1)
theorem wn_some {L : List It} (u : Uni L) {x : It} (hx : x ∈ L) : wn L x.2 = some x.1 := by
  unfold wn
  cases e : L.find? fun y => decide (y.2 = x.2) with
  | none =>
    have := List.find?_eq_none.1 e x hx
    simp at this
  | some y =>
    have h1 := List.mem_of_find?_eq_some e
    have h2 := List.find?_some e
    rw [uni_eq u h1 hx (by simpa using h2)]
    rfl
theorem wn_none {L : List It} {i : Int} : wn L i = none ↔ ∀ x ∈ L, x.2 ≠ i := by
  unfold wn
  rw [Option.map_eq_none_iff, List.find?_eq_none]
  simp
theorem wn_mem {L : List It} {i d : Int} (h : wn L i = some d) : (d, i) ∈ L := by
  unfold wn at h
  cases e : L.find? fun y => decide (y.2 = i) with
  | none => rw [e] at h; cases h
  | some y =>
    rw [e] at h
    have h1 := List.mem_of_find?_eq_some e
    have h2 : y.2 = i := by simpa using List.find?_some e
    simp at h
    rw [← h, ← h2]
    exact h1
theorem wn_ins {L : List It} (u : Uni L) {x : It} (hx : ∀ y ∈ L, y.2 ≠ x.2) (i : Int) : wn (ins x L) i = if i = x.2 then some x.1 else wn L i := by
  have nx : x ∉ L := fun h => hx x h rfl
  have u2 := uni_ins u hx
  by_cases e : i = x.2
  · rw [if_pos e, e]
    exact wn_some u2 ((mem_ins nx).2 (Or.inl rfl))
  · rw [if_neg e]
    cases g : wn L i with
    | none =>
      rw [wn_none] at g ⊢
      intro y hy
      rcases (mem_ins nx).1 hy with rfl | hy
      · exact fun q => e q.symm
      · exact g y hy
    | some d => exact wn_some u2 (x := (d, i)) ((mem_ins nx).2 (Or.inr (wn_mem g)))
theorem wn_rid {L : List It} (u : Uni L) (j i : Int) : wn (rid j L) i = if i = j then none else wn L i := by
  by_cases e : i = j
  · rw [if_pos e, wn_none]
    intro y hy
    rw [e]
    exact (mem_rid.1 hy).2
  · rw [if_neg e]
    cases g : wn L i with
    | none =>
      rw [wn_none] at g ⊢
      exact fun y hy => g y (mem_rid.1 hy).1
    | some d => exact wn_some (uni_rid u j) (x := (d, i)) (mem_rid.2 ⟨wn_mem g, e⟩)

/- Rooms. -/
/-- The things of a room. -/
def rl (f : It → Nat) (L : List It) (r : Nat) : List It := L.filter fun x => decide (f x = r)
/-- The room of a thing, as the wheel's tick is. -/
def rm (now : Int) (x : It) : Nat := rn now.toNat x.1.toNat
/-- Ticks that may be. -/
def Tks (L : List It) : Prop := ∀ x ∈ L, 0 ≤ x.1 ∧ x.1 ≤ 1152921504606846976

theorem cat_rooms (f : It → Nat) : ∀ (N : Nat) (L : List It), L.Pairwise (fun x y => f x ≤ f y) → (List.range N).flatMap (rl f L) = L.filter fun x => decide (f x < N)
  | 0, L, _ => by simp
  | N + 1, L, h => by
    rw [List.range_succ, List.flatMap_append, cat_rooms f N L h]
    simp only [List.flatMap_cons, List.flatMap_nil, List.append_nil]
    induction L with
    | nil => rfl
    | cons y L ih =>
      have h' := List.pairwise_cons.1 h
      have ih' := ih h'.2
      unfold rl at *
      by_cases c : f y < N
      · rw [List.filter_cons_of_pos (by simpa using c), List.filter_cons_of_neg (by simp; omega), List.filter_cons_of_pos (by simp; omega), List.cons_append, ih']
      · have e0 : L.filter (fun x => decide (f x < N)) = [] := List.filter_eq_nil_iff.2 fun z hz => by have := h'.1 z hz; simp; omega
        rw [e0, List.nil_append] at ih'
        rw [List.filter_cons_of_neg (by simpa using c), e0, List.nil_append]
        by_cases c2 : f y = N
        · rw [List.filter_cons_of_pos (by simpa using c2), List.filter_cons_of_pos (by simp; omega), ih']
        · rw [List.filter_cons_of_neg (by simpa using c2), List.filter_cons_of_neg (by simp; omega), ih']

theorem mono_rm {now : Int} {L : List It} (h : Srt L) (t : Tks L) (h1 : 0 ≤ now) (h2 : now ≤ 1152921504606846976) : L.Pairwise fun x y => rm now x ≤ rm now y := by
  refine List.Pairwise.imp_of_mem ?_ h
  intro x y hx hy l
  have a := t x hx
  have b := t y hy
  unfold rm
  refine rn_mono (by unfold tk; omega) (by unfold tk; omega) (by unfold tk; omega) ?_
  unfold lt at l
  omega
theorem rm_lt {now : Int} {x : It} (h1 : 0 ≤ now) (h2 : now ≤ 1152921504606846976) (t : 0 ≤ x.1 ∧ x.1 ≤ 1152921504606846976) : rm now x < 169 := by
  unfold rm
  exact rn_lt (by unfold tk; omega) (by unfold tk; omega)
theorem rm_zero {now : Int} {x : It} (h1 : 0 ≤ now) (t : 0 ≤ x.1) : rm now x = 0 ↔ x.1 ≤ now := by
  unfold rm
  rw [rn_zero]
  omega
theorem cat_all {now : Int} {L : List It} (h : Srt L) (t : Tks L) (h1 : 0 ≤ now) (h2 : now ≤ 1152921504606846976) : (List.range 169).flatMap (rl (rm now) L) = L := by
  rw [cat_rooms _ _ _ (mono_rm h t h1 h2)]
  exact List.filter_eq_self.2 fun x hx => by simpa using rm_lt h1 h2 (t x hx)
theorem due_is {now : Int} {L : List It} (t : Tks L) (h1 : 0 ≤ now) : rl (rm now) L 0 = L.filter fun x => decide (x.1 ≤ now) := by
  unfold rl
  refine List.filter_congr fun x hx => ?_
  simp only [rm_zero h1 (t x hx).1]

/-- The room of a thing, while the rooms up to j are settled. -/
def fj (a b : Int) (j : Nat) (x : It) : Nat := if rm a x ≤ j then rm b x else rm a x
theorem step_list (f g : It → Nat) (j r : Nat) (hr : r ≠ j + 1) : ∀ (L : List It), L.Pairwise (fun x y => f x ≤ f y) → (∀ x ∈ L, f x ≤ j + 1 → g x ≤ f x - 1) →
    L.filter (fun x => decide ((if f x ≤ j then g x else f x) = r)) ++ L.filter (fun x => decide (f x = j + 1) && decide (g x = r)) = L.filter (fun x => decide ((if f x ≤ j + 1 then g x else f x) = r))
  | [], _, _ => rfl
  | y :: L, h, k => by
    have h' := List.pairwise_cons.1 h
    have ih := step_list f g j r hr L h'.2 fun x hx => k x (List.mem_cons_of_mem _ hx)
    have ky := k y List.mem_cons_self
    by_cases c : f y ≤ j
    · have c2 : f y ≤ j + 1 := by omega
      have c3 : ¬ f y = j + 1 := by omega
      simp only [List.filter_cons, c, c2, c3, if_true, decide_false, Bool.false_and, if_neg Bool.false_ne_true]
      split
      · rw [List.cons_append, ih]
      · exact ih
    · by_cases d : f y = j + 1
      · have c2 : f y ≤ j + 1 := by omega
        have gy := ky c2
        have e1 : ¬ f y = r := fun q => hr (q ▸ d)
        rw [List.filter_cons_of_neg (by rw [if_neg c]; simpa using e1)]
        by_cases gr : g y = r
        · have e0 : L.filter (fun x => decide ((if f x ≤ j then g x else f x) = r)) = [] := List.filter_eq_nil_iff.2 fun z hz => by
            have := h'.1 z hz
            rw [if_neg (by omega)]
            simp
            omega
          rw [e0, List.nil_append] at ih ⊢
          rw [List.filter_cons_of_pos (by simp [d, gr]), List.filter_cons_of_pos (by rw [if_pos c2]; simpa using gr), ih]
        · rw [List.filter_cons_of_neg (by simp [gr]), List.filter_cons_of_neg (by rw [if_pos c2]; simpa using gr)]
          exact ih
      · have c2 : ¬ f y ≤ j + 1 := by omega
        simp only [List.filter_cons, c, c2, d, if_false, decide_false, Bool.false_and, if_neg Bool.false_ne_true]
        split
        · rw [List.cons_append, ih]
        · exact ih

theorem settle_step {a b : Int} {L : List It} (h : Srt L) (t : Tks L) (a1 : 0 ≤ a) (ab : a ≤ b) (b2 : b ≤ 1152921504606846976) {j : Nat} (hj : j + 1 ≤ jn a.toNat b.toNat) (r : Nat) :
    (if r = j + 1 then [] else rl (fj a b j) L r) ++ rl (rm b) (rl (fj a b j) L (j + 1)) r = rl (fj a b (j + 1)) L r := by
  have low : ∀ x ∈ L, rm a x ≤ j + 1 → rm b x ≤ rm a x - 1 := fun x hx hl => by
    have := t x hx
    unfold rm at *
    exact rn_low (by unfold tk; omega) (by unfold tk; omega) (by unfold tk; omega) (by omega) (by omega)
  have e1 : rl (fj a b j) L (j + 1) = L.filter fun x => decide (rm a x = j + 1) := by
    unfold rl
    refine List.filter_congr fun x hx => ?_
    have := low x hx
    unfold fj
    simp only [decide_eq_decide]
    split <;> omega
  have e2 : rl (rm b) (rl (fj a b j) L (j + 1)) r = L.filter fun x => decide (rm a x = j + 1) && decide (rm b x = r) := by
    rw [e1]
    unfold rl
    rw [List.filter_filter]
    congr 1
    funext x
    rw [Bool.and_comm]
  rw [e2]
  by_cases hr : r = j + 1
  · subst hr
    rw [if_pos rfl, List.nil_append]
    have z1 : L.filter (fun x => decide (rm a x = j + 1) && decide (rm b x = j + 1)) = [] := List.filter_eq_nil_iff.2 fun x hx => by
      have := low x hx
      simp
      omega
    have z2 : rl (fj a b (j + 1)) L (j + 1) = [] := List.filter_eq_nil_iff.2 fun x hx => by
      have := low x hx
      unfold fj
      simp
      split <;> omega
    rw [z1, z2]
  · rw [if_neg hr]
    exact step_list (rm a) (rm b) j r hr L (mono_rm h t a1 (by omega)) low
theorem settle_start {a b : Int} {L : List It} (t : Tks L) (a1 : 0 ≤ a) (ab : a ≤ b) (r : Nat) : rl (fj a b 0) L r = rl (rm a) L r := by
  unfold rl
  refine List.filter_congr fun x hx => ?_
  have q := t x hx
  have e : fj a b 0 x = rm a x := by
    unfold fj
    split
    · rename_i h
      have h0 : rm a x = 0 := by omega
      rw [h0]
      have := (rm_zero a1 q.1).1 h0
      exact (rm_zero (by omega) q.1).2 (by omega)
    · rfl
  rw [e]
theorem settle_end {a b : Int} {L : List It} (t : Tks L) (ab : a ≤ b) (b2 : b ≤ 1152921504606846976) (r : Nat) : rl (fj a b (jn a.toNat b.toNat)) L r = rl (rm b) L r := by
  unfold rl
  refine List.filter_congr fun x hx => ?_
  have q := t x hx
  have e : fj a b (jn a.toNat b.toNat) x = rm b x := by
    unfold fj
    split
    · rfl
    · rename_i h
      unfold rm at *
      exact (rn_high (by unfold tk; omega) (by unfold tk; omega) (by unfold tk; omega) (by omega) (by omega)).symm
  rw [e]
/-- The rooms while one is settled, k of its things on. -/
def mid (g : It → Nat) (R : Nat → List It) (j k : Nat) : Nat → List It := fun r => (if r = j then [] else R r) ++ rl g ((R j).take k) r
theorem mid_step (g : It → Nat) (R : Nat → List It) (j k : Nat) (x : It) (hx : (R j)[k]? = some x) (r : Nat) : mid g R j (k + 1) r = if r = g x then mid g R j k r ++ [x] else mid g R j k r := by
  obtain ⟨hk, e⟩ := List.getElem?_eq_some_iff.1 hx
  unfold mid rl
  rw [List.take_succ_eq_append_getElem hk, e, List.filter_append, List.filter_cons, List.filter_nil]
  by_cases q : g x = r
  · rw [if_pos q.symm, if_pos (show decide (g x = r) = true by simpa using q), List.append_assoc]
  · rw [if_neg (fun p => q p.symm : ¬ r = g x), if_neg (show ¬ decide (g x = r) = true by simpa using q), List.append_nil]
theorem mid_end (g : It → Nat) (R : Nat → List It) (j : Nat) (r : Nat) : mid g R j (R j).length r = (if r = j then [] else R r) ++ rl g (R j) r := by
  unfold mid
  rw [List.take_length]
theorem mid_start (g : It → Nat) (R : Nat → List It) (j : Nat) (r : Nat) : mid g R j 0 r = if r = j then [] else R r := by
  unfold mid rl
  simp

theorem rl_ins {f : It → Nat} {L : List It} (h : Srt L) {x : It} (hx : x ∉ L) (r : Nat) : rl f (ins x L) r = if r = f x then ins x (rl f L r) else rl f L r := by
  unfold rl
  rw [ins_filter]
  by_cases e : f x = r
  · rw [if_pos (by simpa using e), if_pos e.symm]
  · rw [if_neg (by simpa using e), if_neg (fun q => e q.symm), filter_both (srt_filter h _) (fun q => hx (List.mem_filter.1 q).1)]
theorem rl_rid {f : It → Nat} {L : List It} (u : Uni L) {x : It} (hx : x ∈ L) (r : Nat) : rl f (rid x.2 L) r = if r = f x then rid x.2 (rl f L r) else rl f L r := by
  unfold rl
  rw [rid_filter]
  by_cases e : f x = r
  · rw [if_pos e.symm]
  · rw [if_neg (fun q => e q.symm)]
    refine rid_none fun y hy g => ?_
    obtain ⟨h1, h2⟩ := List.mem_filter.1 hy
    have := uni_eq u h1 hx g
    rw [this] at h2
    exact e (by simpa using h2)
theorem srt_rl {f : It → Nat} {L : List It} (h : Srt L) (r : Nat) : Srt (rl f L r) := srt_filter h _
theorem uni_rl {f : It → Nat} {L : List It} (h : Uni L) (r : Nat) : Uni (rl f L r) := uni_filter h _
theorem mem_rl {f : It → Nat} {L : List It} {x : It} {r : Nat} : x ∈ rl f L r ↔ x ∈ L ∧ f x = r := by
  unfold rl
  rw [List.mem_filter]
  simp
theorem rl_len (f : It → Nat) (L : List It) (r : Nat) : (rl f L r).length ≤ L.length := List.length_filter_le _ _
end Go.Proofs.YtadaghhgmflfdaaDoor.Wm
