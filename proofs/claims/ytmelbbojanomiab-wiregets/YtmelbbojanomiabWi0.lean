/- Events as bytes, as plain functions: numbers in the fewest bytes, events, lists of events; there and back. No program in it. -/
import Derived.WalkKit
namespace Go.Proofs.Ytmelbbojanomiab.Wi0

def hf : Nat → Int
  | 1 => 128 | 2 => 32768 | 3 => 8388608 | 4 => 2147483648 | 5 => 549755813888 | 6 => 140737488355328 | 7 => 36028797018963968 | _ => 9223372036854775808
def I6 (n : Int) : Prop := -9223372036854775808 ≤ n ∧ n < 9223372036854775808
/-- Does a number fit in so many bytes, with its sign? -/
def fitk (n : Int) (k : Nat) : Bool := decide (-(hf k) ≤ n) && decide (n < hf k)
/-- The fewest bytes in which it does. -/
def wd (n : Int) : Nat := if fitk n 1 then 1 else if fitk n 2 then 2 else if fitk n 3 then 3 else if fitk n 4 then 4 else if fitk n 5 then 5 else if fitk n 6 then 6 else if fitk n 7 then 7 else 8
theorem wd_le (n : Int) : 1 ≤ wd n ∧ wd n ≤ 8 := by unfold wd; repeat' split
                                                    all_goals omega
theorem fit_iff (n : Int) (k : Nat) : fitk n k = true ↔ -(hf k) ≤ n ∧ n < hf k := by simp [fitk]
theorem wd_cases (n : Int) (h : I6 n) (k : Nat) (h1 : 1 ≤ k) (h8 : k ≤ 8) : wd n = k ↔ fitk n k = true ∧ (k = 1 ∨ fitk n (k - 1) = false) := by
  have a1 := fit_iff n 1; have a2 := fit_iff n 2; have a3 := fit_iff n 3; have a4 := fit_iff n 4; have a5 := fit_iff n 5; have a6 := fit_iff n 6; have a7 := fit_iff n 7; have a8 := fit_iff n 8
  simp only [hf] at a1 a2 a3 a4 a5 a6 a7 a8
  obtain ⟨l1, l2⟩ := h
  have : k = 1 ∨ k = 2 ∨ k = 3 ∨ k = 4 ∨ k = 5 ∨ k = 6 ∨ k = 7 ∨ k = 8 := by omega
  unfold wd
  cases b1 : fitk n 1 <;> cases b2 : fitk n 2 <;> cases b3 : fitk n 3 <;> cases b4 : fitk n 4 <;> cases b5 : fitk n 5 <;> cases b6 : fitk n 6 <;> cases b7 : fitk n 7 <;> cases b8 : fitk n 8 <;>
    simp only [b1, b2, b3, b4, b5, b6, b7, b8, true_iff, false_iff, Bool.false_eq_true, not_and, Int.not_lt] at a1 a2 a3 a4 a5 a6 a7 a8 <;>
    first
    | (exfalso; omega)
    | (rcases this with rfl | rfl | rfl | rfl | rfl | rfl | rfl | rfl <;> simp [b1, b2, b3, b4, b5, b6, b7, b8])
theorem wd_fit (n : Int) (h : I6 n) : -(hf (wd n)) ≤ n ∧ n < hf (wd n) := (fit_iff n (wd n)).1 ((wd_cases n h (wd n) (wd_le n).1 (wd_le n).2).1 rfl).1

/-- A byte of a number. -/
def bt (n : Int) (i : Nat) : Nat := (n / (2 : Int) ^ (8 * i) % 256).toNat
/-- Its lowest bytes, the highest first. -/
def bs (n : Int) : Nat → List Nat
  | 0 => []
  | k + 1 => bt n k :: bs n k
theorem bs_len (n : Int) (k : Nat) : (bs n k).length = k := by induction k with | zero => rfl | succ k ih => simp [bs, ih]
theorem bt_lt (n : Int) (i : Nat) : bt n i < 256 := by unfold bt; omega
theorem bt_succ (n : Int) (i : Nat) : bt n (i + 1) = bt (n / 256) i := by
  unfold bt
  rw [show (2 : Int) ^ (8 * (i + 1)) = 256 * 2 ^ (8 * i) by rw [Nat.mul_add, Int.pow_add, Int.mul_comm]; rfl, Int.ediv_ediv_of_nonneg (by omega)]
theorem bt_zero (n : Int) : bt n 0 = (n % 256).toNat := by unfold bt; simp
theorem bs_snoc (n : Int) (k : Nat) : bs n (k + 1) = bs (n / 256) k ++ [(n % 256).toNat] := by
  induction k with
  | zero => simp [bs, bt_zero]
  | succ k ih =>
    show bt n (k + 1) :: bs n (k + 1) = _
    rw [ih, bt_succ]
    rfl
theorem bs_by (n : Int) (k : Nat) : ∀ x ∈ bs n k, x < 256 := by
  induction k with
  | zero => simp [bs]
  | succ k ih =>
    intro x hx
    rcases List.mem_cons.1 hx with rfl | hx
    · exact bt_lt _ _
    · exact ih x hx

def sb (x : Nat) : Int := if 128 ≤ x then (x : Int) - 256 else x
/-- What bytes are together, with the sign of the first. -/
def vl : List Nat → Int
  | [] => 0
  | x :: r => r.foldl (fun (a : Int) (y : Nat) => a * 256 + (y : Int)) (sb x)
theorem vl_snoc (q : List Nat) (x : Nat) (h : q ≠ []) : vl (q ++ [x]) = vl q * 256 + x := by
  cases q with
  | nil => exact absurd rfl h
  | cons a r => simp [vl, List.foldl_append]
def hg (k : Nat) : Int := 128 * 256 ^ (k - 1)
theorem hg_succ (k : Nat) (h : 1 ≤ k) : hg (k + 1) = hg k * 256 := by
  obtain ⟨j, rfl⟩ : ∃ j, k = j + 1 := ⟨k - 1, by omega⟩
  simp only [hg, Nat.add_sub_cancel, Int.pow_succ, Int.mul_assoc]
theorem hg_hf (k : Nat) (h : 1 ≤ k) (h8 : k ≤ 8) : hg k = hf k := by
  have : k = 1 ∨ k = 2 ∨ k = 3 ∨ k = 4 ∨ k = 5 ∨ k = 6 ∨ k = 7 ∨ k = 8 := by omega
  rcases this with rfl | rfl | rfl | rfl | rfl | rfl | rfl | rfl <;> decide
theorem vl_bs (k : Nat) : ∀ n : Int, -(hg (k + 1)) ≤ n → n < hg (k + 1) → vl (bs n (k + 1)) = n := by
  induction k with
  | zero =>
    intro n h1 h2
    have e : hg 1 = 128 := by decide
    rw [e] at h1 h2
    show sb (bt n 0) = n
    rw [bt_zero]
    unfold sb
    split <;> omega
  | succ k ih =>
    intro n h1 h2
    rw [hg_succ _ (by omega)] at h1 h2
    rw [bs_snoc, vl_snoc _ _ (by simp [bs]), ih (n / 256) (by omega) (by omega)]
    omega
theorem vl_range (r : List Nat) : ∀ k, r.length = k + 1 → (∀ x ∈ r, x < 256) → -(hg (k + 1)) ≤ vl r ∧ vl r < hg (k + 1) ∧ bs (vl r) (k + 1) = r := by
  intro k
  induction k generalizing r with
  | zero =>
    intro hl hb
    match r, hl with
    | [x], _ =>
      have hx := hb x (by simp)
      have e : hg 1 = 128 := by decide
      rw [e]
      have v : vl [x] = sb x := rfl
      rw [v]
      have q : -128 ≤ sb x ∧ sb x < 128 ∧ (sb x % 256).toNat = x := by unfold sb; split <;> omega
      refine ⟨q.1, q.2.1, ?_⟩
      show [bt (sb x) 0] = [x]
      rw [bt_zero, q.2.2]
  | succ k ih =>
    intro hl hb
    obtain ⟨q, x, rfl⟩ : ∃ q x, r = q ++ [x] := ⟨r.dropLast, r.getLast (fun e => by rw [e] at hl; simp at hl), (List.dropLast_concat_getLast _).symm⟩
    have hq : q.length = k + 1 := by simpa using hl
    have hx := hb x (by simp)
    obtain ⟨a, b, c⟩ := ih q hq (fun y hy => hb y (List.mem_append_left _ hy))
    have hn : q ≠ [] := fun e => by rw [e] at hq; simp at hq
    rw [hg_succ _ (by omega), vl_snoc _ _ hn]
    refine ⟨by omega, by omega, ?_⟩
    rw [bs_snoc, show (vl q * 256 + (x : Int)) / 256 = vl q by omega, show ((vl q * 256 + (x : Int)) % 256).toNat = x by omega, c]

/-- A number's bytes: none of 0. -/
def pn (n : Int) : List Nat := if n = 0 then [] else wd n :: bs n (wd n)
theorem pn_len (n : Int) : (pn n).length ≤ 9 := by
  unfold pn
  split
  · simp
  · rw [List.length_cons, bs_len]; have := (wd_le n).2; omega
theorem pn_by (n : Int) : ∀ x ∈ pn n, x < 256 := by
  unfold pn
  split
  · simp
  · intro x hx
    rcases List.mem_cons.1 hx with rfl | hx
    · have := (wd_le n).2; omega
    · exact bs_by _ _ x hx
theorem wd_val (n : Int) (h : I6 n) : vl (bs n (wd n)) = n := by
  obtain ⟨l1, l2⟩ := wd_le n
  obtain ⟨a, b⟩ := wd_fit n h
  obtain ⟨j, hj⟩ : ∃ j, wd n = j + 1 := ⟨wd n - 1, by omega⟩
  rw [← hg_hf _ l1 l2, hj] at a b
  rw [hj]
  exact vl_bs j n a b

/-- The number that bytes begin with, and how many bytes it has; or why there is none. -/
def gn : List Nat → Except Int (Int × Nat)
  | [] => .error 14
  | k :: r => if k < 1 ∨ 8 < k then .error 13 else if r.length < k then .error 14 else if vl (r.take k) = 0 ∨ wd (vl (r.take k)) ≠ k then .error 13 else .ok (vl (r.take k), k + 1)
theorem gn_pn (n : Int) (more : List Nat) (h : I6 n) (h0 : n ≠ 0) : gn (pn n ++ more) = .ok (n, (pn n).length) := by
  obtain ⟨l1, l2⟩ := wd_le n
  have e : pn n = wd n :: bs n (wd n) := by unfold pn; rw [if_neg h0]
  have t : (bs n (wd n) ++ more).take (wd n) = bs n (wd n) := by rw [List.take_append_of_le_length (by rw [bs_len]; omega)]; exact List.take_of_length_le (by rw [bs_len]; omega)
  rw [e]
  show gn (wd n :: (bs n (wd n) ++ more)) = _
  simp only [gn]
  rw [if_neg (by omega), if_neg (by rw [List.length_append, bs_len]; omega), t, wd_val n h, if_neg (by simp [h0]), List.length_cons, bs_len]
theorem gn_back (c : List Nat) (hb : ∀ x ∈ c, x < 256) (n : Int) (k : Nat) (h : gn c = .ok (n, k)) : n ≠ 0 ∧ I6 n ∧ 2 ≤ k ∧ k ≤ c.length ∧ c.take k = pn n := by
  cases c with
  | nil => simp [gn] at h
  | cons x r =>
    simp only [gn] at h
    split at h
    · cases h
    · split at h
      · cases h
      · split at h
        · cases h
        · rename_i h1 h2 h3
          simp only [Except.ok.injEq, Prod.mk.injEq] at h
          obtain ⟨rfl, rfl⟩ := h
          have hx : 1 ≤ x ∧ x ≤ 8 := by omega
          have hl : (r.take x).length = x := by rw [List.length_take]; omega
          obtain ⟨j, rfl⟩ : ∃ j, x = j + 1 := ⟨x - 1, by omega⟩
          obtain ⟨a, b, c⟩ := vl_range (r.take (j + 1)) j hl (fun y hy => hb y (List.mem_cons_of_mem _ (List.mem_of_mem_take hy)))
          have h4 : vl (r.take (j + 1)) ≠ 0 ∧ wd (vl (r.take (j + 1))) = j + 1 := by
            constructor
            · intro e; exact h3 (Or.inl e)
            · rcases Nat.decEq (wd (vl (r.take (j + 1)))) (j + 1) with e | e
              · exact absurd (Or.inr e) h3
              · exact e
          refine ⟨h4.1, ?_, by omega, by simp only [List.length_cons]; omega, ?_⟩
          · rw [hg_hf _ (by omega) (by omega)] at a b
            have : hf (j + 1) ≤ 9223372036854775808 := by
              have : j = 0 ∨ j = 1 ∨ j = 2 ∨ j = 3 ∨ j = 4 ∨ j = 5 ∨ j = 6 ∨ j = 7 := by omega
              rcases this with rfl | rfl | rfl | rfl | rfl | rfl | rfl | rfl <;> simp [hf]
            exact ⟨by omega, by omega⟩
          · unfold pn
            rw [if_neg h4.1, h4.2, List.take_succ_cons, c]

/-- The numbers of the first i fields, and where the next one begins; or why there are none. -/
def gl (b : List Nat) (wh : Nat) : Nat → Except Int (List Int × Nat)
  | 0 => .ok ([], 2)
  | i + 1 => match gl b wh i with
    | .error e => .error e
    | .ok (l, p) => if wh / 2 ^ i % 2 = 0 then .ok (l ++ [0], p) else match gn (b.drop p) with
      | .error e => .error e
      | .ok (n, k) => .ok (l ++ [n], p + k)

/-- An event. -/
structure Ev where
  kind : Int
  cpu : Int
  id : Int
  mask : Int
  n : Int
  deriving DecidableEq

def s6 (m : Int) : Int := if m < 9223372036854775808 then m else m - 18446744073709551616
def u6 (n : Int) : Int := if n < 0 then n + 18446744073709551616 else n
def fs (e : Ev) : List Int := [e.cpu, e.id, s6 e.mask, e.n]
def wn (n : Int) (k : Nat) : Nat := if n = 0 then 0 else k
def wh4 (e : Ev) : Nat := wn e.cpu 1 + wn e.id 2 + wn (s6 e.mask) 4 + wn e.n 8
/-- The first i numbers' bytes. -/
def pa (l : List Int) (i : Nat) : List Nat := (l.take i).flatMap pn
def okk (k : Int) : Bool := decide (1 ≤ k) && decide (k ≤ 30)
/-- An event's bytes. -/
def putE (e : Ev) : List Nat := if okk e.kind then e.kind.toNat :: wh4 e :: pa (fs e) 4 else []
/-- Can it be an event's numbers? -/
structure Eok (e : Ev) : Prop where
  k : I6 e.kind
  c : I6 e.cpu
  i : I6 e.id
  m0 : 0 ≤ e.mask
  m1 : e.mask < 18446744073709551616
  n : I6 e.n
def z5 : Ev := ⟨0, 0, 0, 0, 0⟩
/-- The event that bytes begin with. -/
def getE : List Nat → Except Int (Ev × Nat)
  | [] => .error 14
  | [k] => if k < 1 ∨ 30 < k then .error 13 else .error 14
  | k :: wh :: r => if k < 1 ∨ 30 < k then .error 13 else if 15 < wh then .error 13 else match gl (k :: wh :: r) wh 4 with
    | .error e => .error e
    | .ok (l, p) => .ok (⟨k, l.getD 0 0, l.getD 1 0, u6 (l.getD 2 0), l.getD 3 0⟩, p)

theorem s6_i (m : Int) (h0 : 0 ≤ m) (h1 : m < 18446744073709551616) : I6 (s6 m) := by unfold s6; split <;> exact ⟨by omega, by omega⟩
theorem u6_s6 (m : Int) (h0 : 0 ≤ m) (h1 : m < 18446744073709551616) : u6 (s6 m) = m := by
  unfold s6 u6
  by_cases c : m < 9223372036854775808
  · rw [if_pos c, if_neg (by omega)]
  · rw [if_neg c, if_pos (by omega)]; omega
theorem s6_u6 (n : Int) (h : I6 n) : s6 (u6 n) = n := by
  obtain ⟨a, b⟩ := h
  unfold s6 u6
  by_cases c : n < 0
  · rw [if_pos c, if_neg (by omega)]; omega
  · rw [if_neg c, if_pos (by omega)]
theorem wh4_lt (e : Ev) : wh4 e ≤ 15 := by unfold wh4 wn; repeat' split
                                           all_goals omega
theorem pa_by (l : List Int) (i : Nat) : ∀ x ∈ pa l i, x < 256 := fun x hx => by
  obtain ⟨n, _, hn⟩ := List.mem_flatMap.1 hx
  exact pn_by n x hn
theorem putE_by (e : Ev) : ∀ x ∈ putE e, x < 256 := by
  unfold putE
  split
  · rename_i h
    simp only [okk, Bool.and_eq_true, decide_eq_true_eq] at h
    intro x hx
    rcases List.mem_cons.1 hx with rfl | hx
    · omega
    · rcases List.mem_cons.1 hx with rfl | hx
      · have := wh4_lt e; omega
      · exact pa_by _ _ x hx
  · simp
theorem putE_len (e : Ev) : (putE e).length ≤ 38 := by
  unfold putE
  split
  · have a := pn_len e.cpu; have b := pn_len e.id; have c := pn_len (s6 e.mask); have d := pn_len e.n
    simp only [pa, fs, List.take, List.flatMap_cons, List.flatMap_nil, List.length_cons, List.length_append, List.length_nil]
    omega
  · simp

set_option linter.unusedSimpArgs false in
theorem wbit0 (e : Ev) : wh4 e / 2 ^ 0 % 2 = 0 ↔ e.cpu = 0 := by
  unfold wh4 wn
  by_cases c0 : e.cpu = 0 <;> by_cases c1 : e.id = 0 <;> by_cases c2 : s6 e.mask = 0 <;> by_cases c3 : e.n = 0 <;> simp [c0, c1, c2, c3]
set_option linter.unusedSimpArgs false in
theorem wbit1 (e : Ev) : wh4 e / 2 ^ 1 % 2 = 0 ↔ e.id = 0 := by
  unfold wh4 wn
  by_cases c0 : e.cpu = 0 <;> by_cases c1 : e.id = 0 <;> by_cases c2 : s6 e.mask = 0 <;> by_cases c3 : e.n = 0 <;> simp [c0, c1, c2, c3]
set_option linter.unusedSimpArgs false in
theorem wbit2 (e : Ev) : wh4 e / 2 ^ 2 % 2 = 0 ↔ s6 e.mask = 0 := by
  unfold wh4 wn
  by_cases c0 : e.cpu = 0 <;> by_cases c1 : e.id = 0 <;> by_cases c2 : s6 e.mask = 0 <;> by_cases c3 : e.n = 0 <;> simp [c0, c1, c2, c3]
set_option linter.unusedSimpArgs false in
theorem wbit3 (e : Ev) : wh4 e / 2 ^ 3 % 2 = 0 ↔ e.n = 0 := by
  unfold wh4 wn
  by_cases c0 : e.cpu = 0 <;> by_cases c1 : e.id = 0 <;> by_cases c2 : s6 e.mask = 0 <;> by_cases c3 : e.n = 0 <;> simp [c0, c1, c2, c3]
theorem gl_step {b q : List Nat} {l : List Int} {wh i p : Nat} {x : Int} (h : gl b wh i = .ok (l, p)) (d : b.drop p = pn x ++ q) (z : wh / 2 ^ i % 2 = 0 ↔ x = 0) (hx : I6 x) : gl b wh (i + 1) = .ok (l ++ [x], p + (pn x).length) ∧ b.drop (p + (pn x).length) = q := by
  refine ⟨?_, by rw [← List.drop_drop, d, List.drop_left]⟩
  simp only [gl, h]
  by_cases e : x = 0
  · rw [if_pos (z.2 e)]
    subst e
    rfl
  · rw [if_neg (fun c => e (z.1 c)), d, gn_pn x q hx e]

/-- What was put is got, whatever stands behind it. -/
theorem get_put (e : Ev) (more : List Nat) (ok : Eok e) (hk : okk e.kind = true) : getE (putE e ++ more) = .ok (e, (putE e).length) := by
  have hk2 := hk
  simp only [okk, Bool.and_eq_true, decide_eq_true_eq] at hk2
  have hp : putE e = e.kind.toNat :: wh4 e :: pa (fs e) 4 := by unfold putE; rw [if_pos hk]
  have hb : pa (fs e) 4 = pn e.cpu ++ (pn e.id ++ (pn (s6 e.mask) ++ pn e.n)) := by simp [pa, fs]
  have hw := wh4_lt e
  have s0 : gl (putE e ++ more) (wh4 e) 0 = .ok ([], 2) := rfl
  have d0 : (putE e ++ more).drop 2 = pn e.cpu ++ (pn e.id ++ (pn (s6 e.mask) ++ (pn e.n ++ more))) := by rw [hp, hb]; simp
  have w0 : wh4 e / 2 ^ 0 % 2 = 0 ↔ e.cpu = 0 := wbit0 e
  have w1 : wh4 e / 2 ^ 1 % 2 = 0 ↔ e.id = 0 := wbit1 e
  have w2 : wh4 e / 2 ^ 2 % 2 = 0 ↔ s6 e.mask = 0 := wbit2 e
  have w3 : wh4 e / 2 ^ 3 % 2 = 0 ↔ e.n = 0 := wbit3 e
  obtain ⟨s1, d1⟩ := gl_step s0 d0 w0 ok.c
  obtain ⟨s2, d2⟩ := gl_step s1 d1 w1 ok.i
  obtain ⟨s3, d3⟩ := gl_step s2 d2 w2 (s6_i _ ok.m0 ok.m1)
  obtain ⟨s4, d4⟩ := gl_step s3 d3 w3 ok.n
  have hl : 2 + (pn e.cpu).length + (pn e.id).length + (pn (s6 e.mask)).length + (pn e.n).length = (putE e).length := by
    rw [hp, hb]; simp only [List.length_cons, List.length_append]; omega
  rw [hl] at s4
  have hg : getE (e.kind.toNat :: wh4 e :: (pa (fs e) 4 ++ more)) = .ok (⟨(e.kind.toNat : Nat), e.cpu, e.id, u6 (s6 e.mask), e.n⟩, (putE e).length) := by
    have s5 : gl (e.kind.toNat :: wh4 e :: (pa (fs e) 4 ++ more)) (wh4 e) 4 = .ok ([e.cpu, e.id, s6 e.mask, e.n], (putE e).length) := by
      have : putE e ++ more = e.kind.toNat :: wh4 e :: (pa (fs e) 4 ++ more) := by rw [hp]; rfl
      rw [← this]
      exact s4
    unfold getE
    simp only
    rw [if_neg (by omega), if_neg (by omega), s5]
    rfl
  rw [show putE e ++ more = e.kind.toNat :: wh4 e :: (pa (fs e) 4 ++ more) by rw [hp]; rfl, hg, u6_s6 _ ok.m0 ok.m1, Int.toNat_of_nonneg (by omega)]

theorem gl_back (b : List Nat) (wh : Nat) (hb : ∀ x ∈ b, x < 256) (h2 : 2 ≤ b.length) (i : Nat) : ∀ l p, gl b wh i = .ok (l, p) →
    l.length = i ∧ 2 ≤ p ∧ p ≤ b.length ∧ b.take p = b.take 2 ++ l.flatMap pn ∧ ∀ j, j < i → I6 (l.getD j 0) ∧ (wh / 2 ^ j % 2 = 0 ↔ l.getD j 0 = 0) := by
  induction i with
  | zero =>
    intro l p h
    simp only [gl, Except.ok.injEq, Prod.mk.injEq] at h
    obtain ⟨rfl, rfl⟩ := h
    exact ⟨rfl, by omega, h2, by simp, fun j hj => by omega⟩
  | succ i ih =>
    intro l p h
    simp only [gl] at h
    split at h
    · cases h
    · rename_i l0 p0 e0
      obtain ⟨a1, a2, a3, a4, a5⟩ := ih l0 p0 e0
      have ext : ∀ (x : Int), I6 x → (wh / 2 ^ i % 2 = 0 ↔ x = 0) → ∀ j, j < i + 1 → I6 ((l0 ++ [x]).getD j 0) ∧ (wh / 2 ^ j % 2 = 0 ↔ (l0 ++ [x]).getD j 0 = 0) := by
        intro x hx hz j hj
        by_cases e : j = i
        · subst e
          have : (l0 ++ [x]).getD j 0 = x := by rw [List.getD_eq_getElem?_getD, List.getElem?_append_right (by omega), a1]; simp
          rw [this]
          exact ⟨hx, hz⟩
        · have : (l0 ++ [x]).getD j 0 = l0.getD j 0 := by rw [List.getD_eq_getElem?_getD, List.getElem?_append_left (by omega), List.getD_eq_getElem?_getD]
          rw [this]
          exact a5 j (by omega)
      split at h
      · rename_i hz
        simp only [Except.ok.injEq, Prod.mk.injEq] at h
        obtain ⟨rfl, rfl⟩ := h
        refine ⟨by simp [a1], a2, a3, ?_, ext 0 ⟨by omega, by omega⟩ ⟨fun _ => rfl, fun _ => hz⟩⟩
        rw [List.flatMap_append, a4]
        simp [pn]
      · rename_i hz
        split at h
        · cases h
        · rename_i n k e1
          simp only [Except.ok.injEq, Prod.mk.injEq] at h
          obtain ⟨rfl, rfl⟩ := h
          obtain ⟨b1, b2, b3, b4, b5⟩ := gn_back _ (fun x hx => hb x (List.mem_of_mem_drop hx)) n k e1
          rw [List.length_drop] at b4
          refine ⟨by simp [a1], by omega, by omega, ?_, ext n b2 ⟨fun c => absurd c hz, fun c => absurd c b1⟩⟩
          rw [List.take_add, a4, b5, List.flatMap_append]
          simp

/-- What is got, put, is the bytes that it has. -/
theorem put_get (b : List Nat) (hb : ∀ x ∈ b, x < 256) (e : Ev) (p : Nat) (h : getE b = .ok (e, p)) : 2 ≤ p ∧ p ≤ b.length ∧ Eok e ∧ okk e.kind = true ∧ putE e = b.take p := by
  match b, hb, h with
  | [], _, h => simp [getE] at h
  | [k], _, h => simp only [getE] at h; split at h <;> cases h
  | k :: wh :: r, hb, h =>
    simp only [getE] at h
    split at h
    · cases h
    · split at h
      · cases h
      · rename_i h1 h2
        split at h
        · cases h
        · rename_i l q e0
          simp only [Except.ok.injEq, Prod.mk.injEq] at h
          obtain ⟨rfl, rfl⟩ := h
          obtain ⟨a1, a2, a3, a4, a5⟩ := gl_back (k :: wh :: r) wh hb (by simp) 4 l q e0
          match l, a1 with
          | [x0, x1, x2, x3], _ =>
            obtain ⟨i0, z0⟩ := a5 0 (by omega)
            obtain ⟨i1, z1⟩ := a5 1 (by omega)
            obtain ⟨i2, z2⟩ := a5 2 (by omega)
            obtain ⟨i3, z3⟩ := a5 3 (by omega)
            simp only [List.getD_cons_zero, List.getD_cons_succ] at i0 z0 i1 z1 i2 z2 i3 z3 ⊢
            have hu : 0 ≤ u6 x2 ∧ u6 x2 < 18446744073709551616 := by obtain ⟨c, d⟩ := i2; unfold u6; split <;> omega
            have hk : okk (k : Int) = true := by simp [okk]; omega
            refine ⟨a2, a3, ⟨⟨by show -9223372036854775808 ≤ (k : Int); omega, by show (k : Int) < _; omega⟩, i0, i1, hu.1, hu.2, i3⟩, hk, ?_⟩
            have hw : wh4 ⟨k, x0, x1, u6 x2, x3⟩ = wh := by
              unfold wh4 wn
              simp only [s6_u6 x2 i2]
              have p0 : wh / 2 ^ 0 = wh := by simp
              rw [p0] at z0
              have e1 : (2 : Nat) ^ 1 = 2 := rfl
              have e2 : (2 : Nat) ^ 2 = 4 := rfl
              have e3 : (2 : Nat) ^ 3 = 8 := rfl
              rw [e1] at z1
              rw [e2] at z2
              rw [e3] at z3
              by_cases c0 : x0 = 0 <;> by_cases c1 : x1 = 0 <;> by_cases c2 : x2 = 0 <;> by_cases c3 : x3 = 0 <;> simp only [c0, c1, c2, c3, if_true, if_false, iff_true, iff_false] at z0 z1 z2 z3 ⊢ <;> omega
            unfold putE
            rw [if_pos hk, hw, a4]
            simp only [Int.toNat_natCast, fs, s6_u6 x2 i2, pa, List.take]
            rfl

/-- The events that bytes are, behind those of l. -/
def rd : Nat → List Ev → List Nat → Except Int (List Ev)
  | 0, l, _ => .ok l
  | f + 1, l, b => if b = [] then .ok l else if l.length = 600 then .error 15 else match getE b with
    | .error e => .error e
    | .ok (e, p) => rd f (l ++ [e]) (b.drop p)
def readE (l : List Ev) (b : List Nat) : Except Int (List Ev) := rd (b.length + 1) l b

theorem rd_fuel (m : Nat) : ∀ f g l b, (∀ x ∈ b, x < 256) → b.length ≤ m → b.length < f → b.length < g → rd f l b = rd g l b := by
  induction m with
  | zero =>
    intro f g l b _ h hf hg
    obtain rfl : b = [] := List.eq_nil_of_length_eq_zero (by omega)
    obtain ⟨f', rfl⟩ : ∃ f', f = f' + 1 := ⟨f - 1, by omega⟩
    obtain ⟨g', rfl⟩ : ∃ g', g = g' + 1 := ⟨g - 1, by omega⟩
    simp [rd]
  | succ m ih =>
    intro f g l b hb h hf hg
    obtain ⟨f', rfl⟩ : ∃ f', f = f' + 1 := ⟨f - 1, by omega⟩
    obtain ⟨g', rfl⟩ : ∃ g', g = g' + 1 := ⟨g - 1, by omega⟩
    by_cases e : b = []
    · subst e; simp [rd]
    · simp only [rd, if_neg e]
      split
      · rfl
      · split
        · rfl
        · rename_i ev p h2
          obtain ⟨a1, a2, _⟩ := put_get b hb ev p h2
          have hd : (b.drop p).length = b.length - p := List.length_drop ..
          exact ih _ _ _ _ (fun x hx => hb x (List.mem_of_mem_drop hx)) (by omega) (by omega) (by omega)
theorem read_nil (l : List Ev) : readE l [] = .ok l := by simp [readE, rd]
theorem read_size (l : List Ev) (b : List Nat) (h : b ≠ []) (hl : l.length = 600) : readE l b = .error 15 := by simp only [readE, rd, if_neg h, if_pos hl]
theorem read_bad (l : List Ev) (b : List Nat) (h : b ≠ []) (hl : l.length ≠ 600) (c : Int) (e : getE b = .error c) : readE l b = .error c := by simp only [readE, rd, if_neg h, if_neg hl, e]
theorem read_more (l : List Ev) (b : List Nat) (hb : ∀ x ∈ b, x < 256) (h : b ≠ []) (hl : l.length ≠ 600) (ev : Ev) (p : Nat) (e : getE b = .ok (ev, p)) : readE l b = readE (l ++ [ev]) (b.drop p) := by
  obtain ⟨a1, a2, _⟩ := put_get b hb ev p e
  have hd : (b.drop p).length = b.length - p := List.length_drop ..
  simp only [readE]
  rw [show rd (b.length + 1) l b = rd b.length (l ++ [ev]) (b.drop p) by simp only [rd, if_neg h, if_neg hl, e]]
  exact rd_fuel b.length _ _ _ _ (fun x hx => hb x (List.mem_of_mem_drop hx)) (by omega) (by omega) (by omega)
/-- All events that bytes are, put, are the bytes; there are 600 at most, and each can be. -/
theorem rd_back (f : Nat) : ∀ l b l', (∀ x ∈ b, x < 256) → b.length < f → l.length ≤ 600 → rd f l b = .ok l' → l'.flatMap putE = l.flatMap putE ++ b ∧ l'.length ≤ 600 ∧ ((∀ e ∈ l, Eok e) → ∀ e ∈ l', Eok e) := by
  induction f with
  | zero => intro l b l' _ h; omega
  | succ f ih =>
    intro l b l' hb h hl hr
    simp only [rd] at hr
    split at hr
    · rename_i e
      cases hr
      subst e
      exact ⟨by simp, hl, fun h => h⟩
    · split at hr
      · cases hr
      · rename_i h600
        split at hr
        · cases hr
        · rename_i ev p h2
          obtain ⟨a1, a2, a3, a4, a5⟩ := put_get b hb ev p h2
          have hd : (b.drop p).length = b.length - p := List.length_drop ..
          obtain ⟨c1, c2, c3⟩ := ih _ _ l' (fun x hx => hb x (List.mem_of_mem_drop hx)) (by omega) (by simp; omega) hr
          refine ⟨?_, c2, fun h => c3 fun e he => ?_⟩
          · rw [c1, List.flatMap_append]
            simp only [List.flatMap_cons, List.flatMap_nil, List.append_nil]
            rw [a5, List.append_assoc, List.take_append_drop]
          · rcases List.mem_append.1 he with he | he
            · exact h e he
            · simp at he; rw [he]; exact a3
theorem read_back (b : List Nat) (hb : ∀ x ∈ b, x < 256) (l : List Ev) (h : readE [] b = .ok l) : l.flatMap putE = b ∧ l.length ≤ 600 ∧ ∀ e ∈ l, Eok e := by
  obtain ⟨a, c, d⟩ := rd_back (b.length + 1) [] b l hb (by omega) (by simp) h
  exact ⟨by simpa using a, c, d (by simp)⟩
end Go.Proofs.Ytmelbbojanomiab.Wi0
