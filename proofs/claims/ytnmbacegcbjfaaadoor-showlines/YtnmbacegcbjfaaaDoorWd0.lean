/- Events as lines: what numbers, masks, words and lines are as bytes, and that each has one alone. Of no program. -/
import Derived.Test.YtnmbacegcbjfaaaDoorMm
import Derived.Lib.ParseIntBCases
import Derived.Lib.ItoaNum
import Derived.Lib.ItoaLen
import Derived.Lib.SplitLaws
import Derived.Lib.Join
import Derived.ProofKit
namespace Go.Proofs.YtnmbacegcbjfaaaDoor.Wd
open Go Go.Lib
open Mm

/-! The parts of a text between the bytes b. -/
def parts (b : UInt8) : List UInt8 → List (List UInt8)
  | [] => [[]]
  | x :: l => if x = b then [] :: parts b l else match parts b l with
    | [] => [[x]]
    | p :: q => (x :: p) :: q

theorem parts_ne (b : UInt8) : ∀ l, parts b l ≠ []
  | [] => by simp [parts]
  | x :: l => by
    unfold parts
    split
    · simp
    · cases h : parts b l with
      | nil => simp
      | cons p q => simp

theorem parts_hit (b : UInt8) (l : List UInt8) : parts b (b :: l) = [] :: parts b l := by simp [parts]
theorem parts_plain (b : UInt8) : ∀ (w : List UInt8), b ∉ w → parts b w = [w]
  | [], _ => rfl
  | x :: l, h => by
    have h1 : x ≠ b := fun e => h (by simp [e])
    have ih := parts_plain b l (fun m => h (by simp [m]))
    unfold parts
    rw [if_neg h1, ih]
theorem parts_cut (b : UInt8) : ∀ (w r : List UInt8), b ∉ w → parts b (w ++ b :: r) = w :: parts b r
  | [], r, _ => by simp [parts]
  | x :: l, r, h => by
    have h1 : x ≠ b := fun e => h (by simp [e])
    have ih := parts_cut b l r (fun m => h (by simp [m]))
    rw [List.cons_append, parts, if_neg h1, ih]

/-- A text is one part, or one, the byte, and a rest. -/
theorem parts_cases (b : UInt8) : ∀ l : List UInt8, (b ∉ l ∧ parts b l = [l]) ∨ ∃ w r, l = w ++ b :: r ∧ b ∉ w ∧ parts b l = w :: parts b r
  | [] => Or.inl ⟨by simp, rfl⟩
  | x :: l => by
    by_cases h : x = b
    · subst h
      exact Or.inr ⟨[], l, rfl, by simp, by simp [parts]⟩
    · rcases parts_cases b l with ⟨h1, h2⟩ | ⟨w, r, h1, h2, h3⟩
      · have : b ∉ x :: l := by simp [h1, Ne.symm h]
        exact Or.inl ⟨this, parts_plain b _ this⟩
      · subst h1
        have : b ∉ x :: w := by simp [h2, Ne.symm h]
        exact Or.inr ⟨x :: w, r, rfl, this, by rw [show x :: (w ++ b :: r) = (x :: w) ++ b :: r from rfl, parts_cut b _ r this]⟩

theorem parts_join (b : UInt8) : ∀ (ws : List (List UInt8)), ws ≠ [] → (∀ w ∈ ws, b ∉ w) → parts b (join ws [b]) = ws
  | [], h, _ => absurd rfl h
  | [w], _, h => by rw [join_one, parts_plain b w (h w (by simp))]
  | w :: v :: ws, _, h => by
    have ih := parts_join b (v :: ws) (by simp) (fun x hx => h x (by simp [hx]))
    have e : join (w :: v :: ws) [b] = w ++ b :: join (v :: ws) [b] := by
      rw [join_cons, join_cons]
      simp [joinTail]
    rw [e, parts_cut b w _ (h w (by simp)), ih]

theorem join_parts (b : UInt8) : ∀ (n : Nat) (l : List UInt8), l.length ≤ n → join (parts b l) [b] = l := by
  intro n
  induction n with
  | zero =>
    intro l h
    have : l = [] := List.eq_nil_of_length_eq_zero (by omega)
    subst this
    rfl
  | succ n ih =>
    intro l h
    rcases parts_cases b l with ⟨h1, h2⟩ | ⟨w, r, h1, h2, h3⟩
    · rw [h2, join_one]
    · have hr : r.length ≤ n := by rw [h1] at h; simp at h; omega
      rw [h3]
      obtain ⟨p, q, e⟩ : ∃ p q, parts b r = p :: q := by
        cases hp : parts b r with
        | nil => exact absurd hp (parts_ne b r)
        | cons p q => exact ⟨p, q, rfl⟩
      have i := ih r hr
      rw [e] at i ⊢
      have e2 : join (w :: p :: q) [b] = w ++ b :: join (p :: q) [b] := by
        rw [join_cons, join_cons]
        simp [joinTail]
      rw [e2, i, h1]

theorem parts_snoc (b x : UInt8) : ∀ l : List UInt8, parts b (l ++ [x]) = if x = b then parts b l ++ [[]] else (parts b l).dropLast ++ [((parts b l).getLastD []) ++ [x]]
  | [] => by by_cases h : x = b <;> simp [parts, h]
  | y :: l => by
    have ih := parts_snoc b x l
    obtain ⟨p, q, e⟩ : ∃ p q, parts b l = p :: q := by
      cases hp : parts b l with
      | nil => exact absurd hp (parts_ne b l)
      | cons p q => exact ⟨p, q, rfl⟩
    by_cases h : x = b
    · rw [if_pos h] at ih ⊢
      rw [List.cons_append, parts, ih]
      by_cases hy : y = b
      · simp [parts, hy]
      · simp [parts, hy, e]
    · rw [if_neg h] at ih ⊢
      rw [List.cons_append, parts, ih]
      by_cases hy : y = b
      · simp [parts, hy, e]
      · simp only [parts, hy, if_false, e]
        cases q with
        | nil => simp
        | cons q1 q2 => simp [List.dropLast]

theorem parts_mem (b : UInt8) : ∀ (n : Nat) (l : List UInt8), l.length ≤ n → ∀ w ∈ parts b l, b ∉ w := by
  intro n
  induction n with
  | zero =>
    intro l h w hw
    have : l = [] := List.eq_nil_of_length_eq_zero (by omega)
    subst this
    simp [parts] at hw
    simp [hw]
  | succ n ih =>
    intro l h w hw
    rcases parts_cases b l with ⟨h1, h2⟩ | ⟨v, r, h1, h2, h3⟩
    · rw [h2] at hw
      simp at hw
      rw [hw]; exact h1
    · rw [h3] at hw
      rcases List.mem_cons.1 hw with rfl | hm
      · exact h2
      · exact ih r (by rw [h1] at h; simp at h; omega) w hm

theorem parts_length (b : UInt8) : ∀ l : List UInt8, (parts b l).length = l.count b + 1
  | [] => rfl
  | x :: l => by
    have ih := parts_length b l
    unfold parts
    by_cases h : x = b
    · rw [if_pos h, h]
      simp [ih]
    · rw [if_neg h, List.count_cons_of_ne (by simpa using h)]
      cases hp : parts b l with
      | nil => exact absurd hp (parts_ne b l)
      | cons p q => rw [hp] at ih; simpa using ih

theorem index_plain (b : UInt8) (l : List UInt8) (h : b ∉ l) : index l [b] = -1 := by
  apply index_none
  intro j _
  unfold occAt
  cases hd : l.drop j with
  | nil => rfl
  | cons x t =>
    have : x ∈ l := List.mem_of_mem_drop (by rw [hd]; simp)
    simp only [List.isPrefixOf, Bool.and_eq_false_imp]
    intro e
    exact absurd (by rw [beq_iff_eq.1 e]; exact this) h
theorem index_cut (b : UInt8) (w r : List UInt8) (h : b ∉ w) : index (w ++ b :: r) [b] = w.length := by
  apply index_first
  · simp
  · unfold occAt
    simp [List.isPrefixOf]
  · intro j hj
    unfold occAt
    rw [List.drop_append_of_le_length (by omega)]
    cases hd : w.drop j with
    | nil => have := congrArg List.length hd; simp at this; omega
    | cons x t =>
      have : x ∈ w := List.mem_of_mem_drop (by rw [hd]; simp)
      simp only [List.cons_append, List.isPrefixOf, Bool.and_eq_false_imp]
      intro e
      exact absurd (by rw [beq_iff_eq.1 e]; exact this) h

theorem splitK_parts (b : UInt8) : ∀ (n : Nat) (l : List UInt8), l.length ≤ n → splitK [b] 0 (l.count b) l = parts b l := by
  intro n
  induction n with
  | zero =>
    intro l h
    have : l = [] := List.eq_nil_of_length_eq_zero (by omega)
    subst this
    rfl
  | succ n ih =>
    intro l h
    rcases parts_cases b l with ⟨h1, h2⟩ | ⟨w, r, h1, h2, h3⟩
    · rw [h2, List.count_eq_zero.2 h1]
      rfl
    · have hc : l.count b = r.count b + 1 := by
        rw [h1, List.count_append, List.count_eq_zero.2 h2]
        simp
      rw [h3, hc, splitK, h1, index_cut b w r h2]
      have hne : ¬ ((w.length : Int) == -1) = true := fun e => by have := beq_iff_eq.1 e; omega
      rw [if_neg hne]
      have hr : r.length ≤ n := by rw [h1] at h; simp at h; omega
      have ed : (w ++ b :: r).drop (((w.length : Int)).toNat + [b].length) = r := by
        simp
      rw [ed, ih r hr]
      simp
theorem split_parts (b : UInt8) (s : ByteArray) : splitB ⟨#[b]⟩ 0 (countB s ⟨#[b]⟩) s = (parts b s.data.toList).map fun l => ⟨l.toArray⟩ := by
  have h := splitB_data ⟨#[b]⟩ 0 (countB s ⟨#[b]⟩) s
  have hc : countB s ⟨#[b]⟩ = s.data.toList.count b := count_one b _
  rw [hc] at h ⊢
  rw [show (⟨#[b]⟩ : ByteArray).data.toList = [b] from rfl, splitK_parts b _ _ (Nat.le_refl _)] at h
  rw [← h, List.map_map]
  conv => lhs; rw [← List.map_id (splitB _ _ _ _)]
  refine List.map_congr_left fun x _ => ?_
  cases x
  simp
theorem cut_hit (b : UInt8) (w r : List UInt8) (h : b ∉ w) : cut (w ++ b :: r) [b] = (w, r, true) := by
  unfold cut
  rw [index_cut b w r h, if_pos (by omega)]
  simp
theorem cut_miss (b : UInt8) (w : List UInt8) (h : b ∉ w) : cut w [b] = (w, [], false) := by
  unfold cut
  rw [index_plain b w h, if_neg (by omega)]

/-! Numbers. -/
def inR (n : Int) : Prop := -9223372036854775808 ≤ n ∧ n ≤ 9223372036854775807

theorem parseU_app (M : Nat) : ∀ (l : List UInt8) (a : Nat) (c : UInt8), parseUintM M a (l ++ [c]) = match parseUintM M a l with
    | .ok u => parseUintM M u [c]
    | .syntax => .syntax
    | .range => .range
  | [], a, c => by simp [parseUintM]
  | x :: l, a, c => by
    rw [List.cons_append, parseUintM, parseUintM]
    split
    · split
      · rfl
      · split
        · rfl
        · exact parseU_app M l _ c
    · rfl
theorem parseU_digits : ∀ (n u : Nat), u ≤ n → u ≤ 18446744073709551615 → parseUintM 18446744073709551615 0 (decDigits u) = .ok u := by
  intro n
  induction n with
  | zero =>
    intro u h _
    have : u = 0 := by omega
    subst this
    rw [decDigits_one (by omega)]
    rfl
  | succ n ih =>
    intro u h hu
    have hd : ∀ d : Nat, d < 10 → (UInt8.ofNat (48 + d)).toNat = 48 + d := fun d hd => by simp [UInt8.toNat_ofNat']; omega
    by_cases hs : u < 10
    · rw [decDigits_one hs, parseUintM, hd u hs, if_pos (by omega), if_neg (by omega), if_neg (by omega), parseUintM]
      congr 1
      omega
    · rw [decDigits, dif_neg hs, parseU_app, ih (u / 10) (by omega) (by omega)]
      simp only
      have h10 : u % 10 < 10 := Nat.mod_lt _ (by omega)
      rw [parseUintM, hd _ h10, if_pos (by omega), if_neg (by omega), if_neg (by omega), parseUintM]
      congr 1
      omega
theorem digits_ne (u : Nat) : decDigits u ≠ [] := by
  have := nDigits_pos u
  intro e
  have h := decDigits_length u
  rw [e] at h
  simp at h
  omega
theorem digits_mem : ∀ (n u : Nat), u ≤ n → ∀ x ∈ decDigits u, 48 ≤ x.toNat ∧ x.toNat ≤ 57 := by
  intro n
  have hd : ∀ d : Nat, d < 10 → (UInt8.ofNat (48 + d)).toNat = 48 + d := fun d hd => by simp [UInt8.toNat_ofNat']; omega
  induction n with
  | zero =>
    intro u h x hx
    rw [decDigits_one (by omega)] at hx
    rw [List.mem_singleton.1 hx, hd u (by omega)]
    omega
  | succ n ih =>
    intro u h x hx
    by_cases hs : u < 10
    · rw [decDigits_one hs] at hx
      rw [List.mem_singleton.1 hx, hd u hs]
      omega
    · rw [decDigits, dif_neg hs] at hx
      rcases List.mem_append.1 hx with h1 | h1
      · exact ih _ (by omega) x h1
      · rw [List.mem_singleton.1 h1, hd _ (Nat.mod_lt _ (by omega))]
        omega
theorem itoa_mem (n : Int) (x : UInt8) (h : x ∈ itoa n) : x = 45 ∨ 48 ≤ x.toNat ∧ x.toNat ≤ 57 := by
  unfold itoa at h
  split at h
  · rcases List.mem_cons.1 h with h | h
    · exact Or.inl h
    · exact Or.inr (digits_mem _ _ (Nat.le_refl _) x h)
  · exact Or.inr (digits_mem _ _ (Nat.le_refl _) x h)
theorem parse_itoa (n : Int) (h : inR n) : parseIntB 64 (itoa n) = .ok n := by
  unfold inR at h
  by_cases hn : n < 0
  · rw [itoa, if_pos hn, parseIntB_minus]
    unfold parseUintB
    rw [if_neg (digits_ne _)]
    have e : (2 ^ 64 - 1 : Nat) = 18446744073709551615 := by decide
    rw [e, parseU_digits n.natAbs _ (Nat.le_refl _) (by omega)]
    unfold signedC
    simp only
    rw [if_neg (by omega)]
    congr 1
    omega
  · rw [itoa, if_neg hn]
    obtain ⟨c, r, e⟩ : ∃ c r, decDigits n.toNat = c :: r := by
      cases hp : decDigits n.toNat with
      | nil => exact absurd hp (digits_ne _)
      | cons c r => exact ⟨c, r, rfl⟩
    have hc := digits_mem _ n.toNat (Nat.le_refl _) c (by rw [e]; simp)
    rw [e, parseIntB_plain 64 c r (by omega) (by omega), ← e]
    unfold parseUintB
    rw [if_neg (digits_ne _)]
    have e2 : (2 ^ 64 - 1 : Nat) = 18446744073709551615 := by decide
    rw [e2, parseU_digits n.toNat _ (Nat.le_refl _) (by omega)]
    unfold signlessC
    simp only
    rw [if_neg (by omega)]
    congr 1
    omega
theorem itoa_inj {a b : Int} (ha : inR a) (hb : inR b) (h : itoa a = itoa b) : a = b := by
  have h1 := parse_itoa a ha
  rw [h, parse_itoa b hb] at h1
  exact (NumEnd.ok.inj h1).symm

/-- The number that a word is. -/
def numOf (s : List UInt8) : Option Int := match parseIntB 64 s with
  | .ok v => if itoa v = s then some v else none
  | _ => none
/-- What is read of a word, whatever it is. -/
def readNum (s : List UInt8) : Int := match parseIntB 64 s with
  | .ok v => v
  | .syntax => 0
  | .range => intSat 64 s
theorem parse_in {s : List UInt8} {v : Int} (h : parseIntB 64 s = .ok v) : inR v := by
  have bu : ∀ {l : List UInt8} {u : Nat}, parseUintB 64 l = .ok u → u ≤ 18446744073709551615 := fun h => by have := parseUintB_le h; simpa using this
  unfold inR
  cases s with
  | nil => simp [parseIntB] at h
  | cons c r =>
    simp only [parseIntB] at h
    split at h
    · cases h
    · cases h
    · rename_i u hu
      split at h
      · cases h
      · split at h
        · cases h
        · rename_i h1 h2
          have e := NumEnd.ok.inj h
          have := bu hu
          split at e
          · rename_i hc
            have : ¬ 2 ^ (64 - 1) < u := fun g => h2 ⟨hc, g⟩
            have e3 : (2 ^ (64 - 1) : Nat) = 9223372036854775808 := by decide
            rw [e3] at this
            omega
          · rename_i hc
            have : ¬ 2 ^ (64 - 1) ≤ u := fun g => h1 ⟨hc, g⟩
            have e3 : (2 ^ (64 - 1) : Nat) = 9223372036854775808 := by decide
            rw [e3] at this
            omega
theorem readNum_in (s : List UInt8) : inR (readNum s) := by
  unfold readNum
  split
  · rename_i v h
    exact parse_in h
  · unfold inR; omega
  · unfold intSat inR
    have e3 : (2 ^ (64 - 1) : Nat) = 9223372036854775808 := by decide
    rw [e3]
    split <;> omega
theorem numOf_iff (s : List UInt8) (n : Int) : numOf s = some n ↔ inR n ∧ itoa n = s := by
  constructor
  · intro h
    unfold numOf at h
    split at h
    · rename_i v hv
      split at h
      · have e := Option.some.inj h
        subst e
        exact ⟨parse_in hv, by assumption⟩
      · cases h
    · cases h
  · rintro ⟨h1, rfl⟩
    unfold numOf
    rw [parse_itoa n h1]
    simp
theorem readNum_iff (s : List UInt8) : numOf s = if itoa (readNum s) = s then some (readNum s) else none := by
  by_cases h : itoa (readNum s) = s
  · rw [if_pos h]
    exact (numOf_iff s _).2 ⟨readNum_in s, h⟩
  · rw [if_neg h]
    cases hn : numOf s with
    | none => rfl
    | some n =>
      obtain ⟨h1, h2⟩ := (numOf_iff s n).1 hn
      exfalso
      apply h
      have : readNum s = n := by rw [← h2]; unfold readNum; rw [parse_itoa n h1]
      rw [this, h2]
end Go.Proofs.YtnmbacegcbjfaaaDoor.Wd
