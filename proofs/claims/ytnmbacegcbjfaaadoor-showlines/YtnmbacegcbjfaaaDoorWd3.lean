/- Events as lines: masks, events, lines and texts as bytes, and back. Of no program. -/
import Derived.Test.YtnmbacegcbjfaaaDoorWd0
namespace Go.Proofs.YtnmbacegcbjfaaaDoor.Wd
open Go Go.Lib
open Mm

/-- The words of the kinds; what stands behind each. -/
def nms : List (List UInt8) := [[], [115, 116, 101, 112], [116, 105, 99, 107], [115, 112, 97, 119, 110], [101, 120, 105, 116], [121, 105, 101, 108, 100], [115, 108, 101, 101, 112], [119, 97, 107, 101], [97, 102, 102, 105, 110], [119, 104, 101, 114, 101], [97, 114, 109], [99, 97, 110, 99, 101, 108], [114, 101, 113, 117, 101, 115, 116], [102, 114, 101, 101], [114, 111, 117, 116, 101], [109, 97, 115, 107], [117, 110, 109, 97, 115, 107], [114, 97, 105, 115, 101], [113, 117, 101, 117, 101], [102, 108, 117, 115, 104], [99, 97, 108, 108], [97, 108, 108, 111, 99], [103, 105, 118, 101], [111, 110, 108, 105, 110, 101], [111, 102, 102, 108, 105, 110, 101], [102, 97, 105, 108], [104, 111, 108, 100], [100, 114, 111, 112], [108, 105, 109, 105, 116], [115, 112, 101, 101, 100], [98, 97, 108, 97, 110, 99, 101]]
def lts : List (List UInt8) := [[], [99], [110], [105, 109], [105], [105], [105, 110], [105], [105, 109], [105], [99, 110], [105], [105, 109], [105], [105, 109], [105], [105], [105], [99], [105], [99], [99], [99, 105], [99], [99], [110], [99], [99], [110], [105, 110], []]
def nmk (k : Nat) : List UInt8 := nms.getD k []
def ltk (k : Nat) : List UInt8 := lts.getD k []

/-! Masks. -/
def cps (m : Nat) : List UInt8 := join ((ls m).map fun k : Nat => itoa k) [44]
def nums : List (List UInt8) → Option (List Int)
  | [] => some []
  | w :: ws => (numOf w).bind fun n => (nums ws).map (n :: ·)
theorem nums_app : ∀ (a b : List (List UInt8)), nums (a ++ b) = (nums a).bind fun x => (nums b).map (x ++ ·)
  | [], b => by simp [nums]
  | w :: a, b => by
    rw [List.cons_append, nums, nums, nums_app a b]
    cases numOf w with
    | none => rfl
    | some n =>
      simp only [Option.bind_some]
      cases nums a with
      | none => rfl
      | some x =>
        cases nums b with
        | none => rfl
        | some y => rfl
theorem nums_snoc (a : List (List UInt8)) (w : List UInt8) : nums (a ++ [w]) = (nums a).bind fun x => (numOf w).map fun n => x ++ [n] := by
  rw [nums_app]
  cases nums a with
  | none => rfl
  | some x => cases h : numOf w <;> simp [nums, h]
theorem nums_itoa : ∀ (l : List Nat), (∀ k ∈ l, k < 64) → nums (l.map fun k : Nat => itoa k) = some (l.map fun k : Nat => (k : Int))
  | [], _ => rfl
  | k :: l, h => by
    have hk := h k (by simp)
    have e : numOf (itoa (k : Int)) = some (k : Int) := (numOf_iff _ _).2 ⟨by unfold inR; omega, rfl⟩
    rw [List.map_cons, nums, e, nums_itoa l (fun x hx => h x (by simp [hx]))]
    rfl
theorem nums_len : ∀ (a : List (List UInt8)) (x : List Int), nums a = some x → x.length = a.length
  | [], x, h => by simp [nums] at h; simp [← h]
  | w :: a, x, h => by
    rw [nums] at h
    cases hw : numOf w with
    | none => rw [hw] at h; cases h
    | some n =>
      rw [hw] at h
      cases ha : nums a with
      | none => rw [ha] at h; cases h
      | some y =>
        rw [ha] at h
        have := Option.some.inj h
        rw [← this, List.length_cons, List.length_cons, nums_len a y ha]

/-- The mask that a word is. -/
def mskOf (s : List UInt8) : Option Nat := if s = [] then some 0 else match nums (parts 44 s) with
  | none => none
  | some vs => if cps (wl 0 vs) = s then some (wl 0 vs) else none

theorem itoa_no (n : Int) (b : UInt8) (h : b = 44 ∨ b = 32 ∨ b = 10) : b ∉ itoa n := by
  intro m
  rcases itoa_mem n b m with e | e
  · rcases h with rfl | rfl | rfl <;> simp at e
  · rcases h with rfl | rfl | rfl <;> simp at e
theorem itoa_ne (n : Int) : itoa n ≠ [] := by
  unfold itoa
  split
  · simp
  · exact digits_ne _
theorem ls_lt (m k : Nat) (h : k ∈ ls m) : k < 64 := ((mem_ls m k).1 h).1
theorem cps_zero : cps 0 = [] := by unfold cps; rw [ls_zero]; rfl
theorem cps_nil {m : Nat} (hm : m < 18446744073709551616) (h : cps m = []) : m = 0 := by
  refine ls_nil m hm ?_
  cases hl : ls m with
  | nil => rfl
  | cons k l =>
    exfalso
    unfold cps at h
    rw [hl, List.map_cons, join_cons] at h
    exact itoa_ne _ (List.append_eq_nil_iff.1 h).1
theorem cps_parts {m : Nat} (h : cps m ≠ []) : parts 44 (cps m) = (ls m).map fun k : Nat => itoa k := by
  unfold cps at h ⊢
  refine parts_join 44 _ (fun e => h (by rw [e]; rfl)) ?_
  intro w hw
  obtain ⟨k, _, rfl⟩ := List.mem_map.1 hw
  exact itoa_no _ _ (Or.inl rfl)
theorem cps_of {m : Nat} {vs : List Int} {s : List UInt8} (hs : s ≠ []) (h : cps m = s) (hv : nums (parts 44 s) = some vs) : vs = (ls m).map fun k : Nat => (k : Int) := by
  subst h
  rw [cps_parts hs, nums_itoa _ (fun k hk => ls_lt m k hk)] at hv
  exact (Option.some.inj hv).symm
theorem mskOf_iff (s : List UInt8) (m : Nat) : mskOf s = some m ↔ m < 18446744073709551616 ∧ cps m = s := by
  unfold mskOf
  by_cases hs : s = []
  · subst hs
    rw [if_pos rfl]
    constructor
    · intro h
      obtain rfl := Option.some.inj h
      exact ⟨by omega, cps_zero⟩
    · rintro ⟨h1, h2⟩
      rw [cps_nil h1 h2]
  · rw [if_neg hs]
    constructor
    · intro h
      cases hn : nums (parts 44 s) with
      | none => rw [hn] at h; cases h
      | some vs =>
        rw [hn] at h
        simp only at h
        split at h
        · rename_i hc
          obtain rfl := Option.some.inj h
          exact ⟨wl_lt 0 vs (by omega), hc⟩
        · cases h
    · rintro ⟨h1, rfl⟩
      rw [cps_parts hs, nums_itoa _ (fun k hk => ls_lt m k hk)]
      simp only
      rw [wl_ls m h1, if_pos rfl]
/-- A number that is no core is in no mask's word. -/
theorem mskOf_far {s : List UInt8} {vs : List Int} (hs : s ≠ []) (h : nums (parts 44 s) = some vs) (hv : ∃ v ∈ vs, v < 0 ∨ 63 < v) : mskOf s = none := by
  cases hm : mskOf s with
  | none => rfl
  | some m =>
    exfalso
    obtain ⟨h1, h2⟩ := (mskOf_iff s m).1 hm
    obtain ⟨v, hv1, hv2⟩ := hv
    rw [cps_of hs h2 h] at hv1
    obtain ⟨k, hk, rfl⟩ := List.mem_map.1 hv1
    have := ls_lt m k hk
    omega
theorem mskOf_part {s : List UInt8} (hs : s ≠ []) (h : nums (parts 44 s) = none) : mskOf s = none := by
  unfold mskOf
  rw [if_neg hs, h]
theorem mskOf_all {s : List UInt8} {vs : List Int} (hs : s ≠ []) (h : nums (parts 44 s) = some vs) : mskOf s = if cps (wl 0 vs) = s then some (wl 0 vs) else none := by
  unfold mskOf
  rw [if_neg hs, h]
theorem nums_head_none {a b : List (List UInt8)} {w : List UInt8} (h : numOf w = none) : nums (a ++ w :: b) = none := by
  rw [nums_app]
  cases nums a with
  | none => rfl
  | some x => simp [nums, h]

theorem join_mem (b x : UInt8) : ∀ (ws : List (List UInt8)), x ∈ join ws [b] → x = b ∨ ∃ w ∈ ws, x ∈ w
  | [], h => by simp [join] at h
  | [w], h => by rw [join_one] at h; exact Or.inr ⟨w, by simp, h⟩
  | w :: v :: ws, h => by
    have e : join (w :: v :: ws) [b] = w ++ b :: join (v :: ws) [b] := by
      rw [join_cons, join_cons]
      simp [joinTail]
    rw [e] at h
    rcases List.mem_append.1 h with h | h
    · exact Or.inr ⟨w, by simp, h⟩
    · rcases List.mem_cons.1 h with h | h
      · exact Or.inl h
      · rcases join_mem b x (v :: ws) h with h | ⟨y, h1, h2⟩
        · exact Or.inl h
        · exact Or.inr ⟨y, by simp [h1], h2⟩
theorem cps_no (m : Nat) (b : UInt8) (h : b = 32 ∨ b = 10) : b ∉ cps m := by
  intro hm
  rcases join_mem 44 b _ hm with e | ⟨w, hw, hx⟩
  · rcases h with rfl | rfl <;> simp at e
  · obtain ⟨k, _, rfl⟩ := List.mem_map.1 hw
    exact itoa_no _ _ (Or.inr h) hx
theorem join_len (b : UInt8) (c : Nat) : ∀ (ws : List (List UInt8)), (∀ w ∈ ws, w.length ≤ c) → (join ws [b]).length ≤ (c + 1) * ws.length
  | [], _ => by simp [join]
  | [w], h => by rw [join_one]; have := h w (by simp); simp; omega
  | w :: v :: ws, h => by
    have e : join (w :: v :: ws) [b] = w ++ b :: join (v :: ws) [b] := by
      rw [join_cons, join_cons]
      simp [joinTail]
    have i := join_len b c (v :: ws) (fun x hx => h x (by simp [hx]))
    have := h w (by simp)
    rw [e, List.length_append, List.length_cons, List.length_cons, Nat.mul_succ]
    omega
theorem small_len : ∀ k : Fin 64, (itoa (k.val : Int)).length ≤ 2 := by decide +kernel
theorem cps_len (m : Nat) : (cps m).length ≤ 192 := by
  have h := join_len 44 2 ((ls m).map fun k : Nat => itoa k) (fun w hw => by
    obtain ⟨k, hk, rfl⟩ := List.mem_map.1 hw
    exact small_len ⟨k, ls_lt m k hk⟩)
  have hl := ls_le m
  rw [List.length_map] at h
  unfold cps
  have : 3 * (ls m).length ≤ 192 := by omega
  omega

/-! Events. -/
structure V where
  k : Int
  c : Int
  i : Int
  m : Nat
  n : Int
  deriving DecidableEq
structure V.wf (e : V) : Prop where
  k : inR e.k
  c : inR e.c
  i : inR e.i
  m : e.m < 18446744073709551616
  n : inR e.n
def V.z : V := ⟨0, 0, 0, 0, 0⟩

def fld (e : V) (l : UInt8) : List UInt8 := if l = 99 then itoa e.c else if l = 105 then itoa e.i else if l = 109 then cps e.m else itoa e.n
def clr (e : V) (l : UInt8) : V := if l = 99 then { e with c := 0 } else if l = 105 then { e with i := 0 } else if l = 109 then { e with m := 0 } else { e with n := 0 }
def stf (e : V) (l : UInt8) (w : List UInt8) : Option V :=
  if l = 99 then (numOf w).map fun n => { e with c := n } else if l = 105 then (numOf w).map fun n => { e with i := n } else if l = 109 then (mskOf w).map fun m => { e with m := m } else (numOf w).map fun n => { e with n := n }
def clrs (e : V) (L : List UInt8) : V := L.foldl clr e
/-- What stands behind a kind's word. -/
def lw : List UInt8 → V → List UInt8
  | [], _ => []
  | l :: L, e => 32 :: (fld e l ++ lw L (clr e l))
def sets : V → List UInt8 → List (List UInt8) → Option V
  | e, [], _ => some e
  | _, _ :: _, [] => none
  | e, l :: L, w :: ws => (stf e l w).bind fun e' => sets e' L ws

/-- The letters of a line. -/
inductive Lt : List UInt8 → Prop where
  | p1 : Lt []
  | p2 : Lt [99]
  | p3 : Lt [110]
  | p4 : Lt [105]
  | p5 : Lt [105, 109]
  | p6 : Lt [105, 110]
  | p7 : Lt [99, 110]
  | p8 : Lt [99, 105]
theorem lt_all (k : Nat) : Lt (ltk k) := by
  have : ltk k ∈ ([[], [99], [110], [105], [105, 109], [105, 110], [99, 110], [99, 105]] : List (List UInt8)) := by
    by_cases h : k < 31
    · have : ∀ k : Fin 31, ltk k.val ∈ ([[], [99], [110], [105], [105, 109], [105, 110], [99, 110], [99, 105]] : List (List UInt8)) := by decide +kernel
      exact this ⟨k, h⟩
    · have : ltk k = [] := by
        unfold ltk
        rw [List.getD_eq_getElem?_getD, List.getElem?_eq_none (by simp [lts]; omega)]
        rfl
      rw [this]; simp
  simp only [List.mem_cons, List.mem_nil_iff, or_false] at this
  rcases this with h | h | h | h | h | h | h | h <;> rw [h] <;> constructor

theorem lw_is (e : V) {L : List UInt8} (h : Lt L) : lw L e = joinTail [32] (L.map (fld e)) := by
  cases h <;> simp [lw, fld, clr, joinTail]

theorem fld_no (e : V) (l b : UInt8) (h : b = 32 ∨ b = 10) : b ∉ fld e l := by
  unfold fld
  split
  · exact itoa_no _ _ (Or.inr h)
  · split
    · exact itoa_no _ _ (Or.inr h)
    · split
      · exact cps_no _ _ h
      · exact itoa_no _ _ (Or.inr h)

/-- An event's line. -/
def isK (k : Int) : Prop := 1 ≤ k ∧ k ≤ 30
instance (k : Int) : Decidable (isK k) := inferInstanceAs (Decidable (_ ∧ _))
def lineOf (e : V) : Option (List UInt8) := if isK e.k ∧ clrs e (ltk e.k.toNat) = ⟨e.k, 0, 0, 0, 0⟩ then some (nmk e.k.toNat ++ lw (ltk e.k.toNat) e) else none

/-- The kind of a word. -/
def kOf (s : List UInt8) : Nat := (nms.findIdx? (· == s)).getD 0
theorem kOf_nm : ∀ k : Fin 31, kOf (nmk k.val) = k.val := by decide +kernel
theorem kOf_some {s : List UInt8} (h : kOf s ≠ 0) : kOf s < 31 ∧ nmk (kOf s) = s := by
  unfold kOf at h ⊢
  cases hf : nms.findIdx? (· == s) with
  | none => rw [hf] at h; exact absurd rfl h
  | some k =>
    rw [hf] at h
    obtain ⟨h1, h2, _⟩ := List.findIdx?_eq_some_iff_getElem.1 hf
    simp only [Option.getD_some]
    refine ⟨by simpa [nms] using h1, ?_⟩
    unfold nmk
    rw [List.getD_eq_getElem?_getD, List.getElem?_eq_getElem h1, Option.getD_some]
    exact beq_iff_eq.1 h2
theorem nm_no : ∀ k : Fin 31, (32 : UInt8) ∉ nmk k.val ∧ (10 : UInt8) ∉ nmk k.val ∧ (nmk k.val).length ≤ 7 ∧ (k.val ≠ 0 → 6 ≤ (nmk k.val).length + (ltk k.val).foldl (fun a l => a + if l = 109 then 1 else 2) 0) := by decide +kernel

/-- The event whose line this is. -/
def evOf (l : List UInt8) : Option V := match parts 32 l with
  | [] => none
  | w :: ws => if kOf w = 0 then none else if ws.length = (ltk (kOf w)).length then sets ⟨(kOf w : Nat), 0, 0, 0, 0⟩ (ltk (kOf w)) ws else none

theorem num_eq {w : List UInt8} {n : Int} (h : numOf w = some n) : inR n ∧ itoa n = w := (numOf_iff w n).1 h
theorem msk_eq {w : List UInt8} {n : Nat} (h : mskOf w = some n) : n < 18446744073709551616 ∧ cps n = w := (mskOf_iff w n).1 h
theorem z_in : inR 0 := by unfold inR; omega

theorem sets_line {k : Nat} (hk : k < 31) {L : List UInt8} (h : Lt L) {ws : List (List UInt8)} (hl : ws.length = L.length) {e : V} (hs : sets ⟨(k : Nat), 0, 0, 0, 0⟩ L ws = some e) :
    e.wf ∧ e.k = (k : Nat) ∧ clrs e L = ⟨e.k, 0, 0, 0, 0⟩ ∧ L.map (fld e) = ws := by
  have hkR : inR ((k : Nat) : Int) := by unfold inR; omega
  cases h with
  | p1 =>
    obtain rfl := List.eq_nil_of_length_eq_zero hl
    simp only [sets, Option.some.injEq] at hs
    subst hs
    exact ⟨⟨hkR, z_in, z_in, by show (0 : Nat) < _; omega, z_in⟩, rfl, rfl, rfl⟩
  | p2 =>
    match ws, hl with
    | [w], _ =>
    simp only [sets, stf] at hs
    cases hn : numOf w with
    | none => simp [hn] at hs
    | some n =>
      simp [hn] at hs
      subst hs
      obtain ⟨h1, h2⟩ := num_eq hn
      exact ⟨⟨hkR, h1, z_in, by show (0 : Nat) < _; omega, z_in⟩, rfl, rfl, by simp [fld, h2]⟩
  | p3 =>
    match ws, hl with
    | [w], _ =>
    simp only [sets, stf] at hs
    cases hn : numOf w with
    | none => simp [hn] at hs
    | some n =>
      simp [hn] at hs
      subst hs
      obtain ⟨h1, h2⟩ := num_eq hn
      exact ⟨⟨hkR, z_in, z_in, by show (0 : Nat) < _; omega, h1⟩, rfl, rfl, by simp [fld, h2]⟩
  | p4 =>
    match ws, hl with
    | [w], _ =>
    simp only [sets, stf] at hs
    cases hn : numOf w with
    | none => simp [hn] at hs
    | some n =>
      simp [hn] at hs
      subst hs
      obtain ⟨h1, h2⟩ := num_eq hn
      exact ⟨⟨hkR, z_in, h1, by show (0 : Nat) < _; omega, z_in⟩, rfl, rfl, by simp [fld, h2]⟩
  | p5 =>
    match ws, hl with
    | [w, v], _ =>
    simp only [sets, stf] at hs
    cases hn : numOf w with
    | none => simp [hn] at hs
    | some n =>
      cases hm : mskOf v with
      | none => simp [hn, hm] at hs
      | some m =>
        simp [hn, hm] at hs
        subst hs
        obtain ⟨h1, h2⟩ := num_eq hn
        obtain ⟨h3, h4⟩ := msk_eq hm
        exact ⟨⟨hkR, z_in, h1, h3, z_in⟩, rfl, rfl, by simp [fld, h2, h4]⟩
  | p6 =>
    match ws, hl with
    | [w, v], _ =>
    simp only [sets, stf] at hs
    cases hn : numOf w with
    | none => simp [hn] at hs
    | some n =>
      cases hm : numOf v with
      | none => simp [hn, hm] at hs
      | some m =>
        simp [hn, hm] at hs
        subst hs
        obtain ⟨h1, h2⟩ := num_eq hn
        obtain ⟨h3, h4⟩ := num_eq hm
        exact ⟨⟨hkR, z_in, h1, by show (0 : Nat) < _; omega, h3⟩, rfl, rfl, by simp [fld, h2, h4]⟩
  | p7 =>
    match ws, hl with
    | [w, v], _ =>
    simp only [sets, stf] at hs
    cases hn : numOf w with
    | none => simp [hn] at hs
    | some n =>
      cases hm : numOf v with
      | none => simp [hn, hm] at hs
      | some m =>
        simp [hn, hm] at hs
        subst hs
        obtain ⟨h1, h2⟩ := num_eq hn
        obtain ⟨h3, h4⟩ := num_eq hm
        exact ⟨⟨hkR, h1, z_in, by show (0 : Nat) < _; omega, h3⟩, rfl, rfl, by simp [fld, h2, h4]⟩
  | p8 =>
    match ws, hl with
    | [w, v], _ =>
    simp only [sets, stf] at hs
    cases hn : numOf w with
    | none => simp [hn] at hs
    | some n =>
      cases hm : numOf v with
      | none => simp [hn, hm] at hs
      | some m =>
        simp [hn, hm] at hs
        subst hs
        obtain ⟨h1, h2⟩ := num_eq hn
        obtain ⟨h3, h4⟩ := num_eq hm
        exact ⟨⟨hkR, h1, h3, by show (0 : Nat) < _; omega, z_in⟩, rfl, rfl, by simp [fld, h2, h4]⟩

theorem line_sets {e : V} (w : e.wf) {L : List UInt8} (h : Lt L) (hc : clrs e L = ⟨e.k, 0, 0, 0, 0⟩) : sets ⟨e.k, 0, 0, 0, 0⟩ L (L.map (fld e)) = some e := by
  have nc : numOf (itoa e.c) = some e.c := (numOf_iff _ _).2 ⟨w.c, rfl⟩
  have ni : numOf (itoa e.i) = some e.i := (numOf_iff _ _).2 ⟨w.i, rfl⟩
  have nn : numOf (itoa e.n) = some e.n := (numOf_iff _ _).2 ⟨w.n, rfl⟩
  have nm : mskOf (cps e.m) = some e.m := (mskOf_iff _ _).2 ⟨w.m, rfl⟩
  obtain ⟨k, c, i, m, n⟩ := e
  cases h <;> simp [clrs, clr] at hc <;> simp_all [sets, stf, fld]

theorem line_join {e : V} {l : List UInt8} (h : lineOf e = some l) : isK e.k ∧ clrs e (ltk e.k.toNat) = ⟨e.k, 0, 0, 0, 0⟩ ∧ l = join (nmk e.k.toNat :: (ltk e.k.toNat).map (fld e)) [32] := by
  unfold lineOf at h
  split at h
  · rename_i hc
    refine ⟨hc.1, hc.2, ?_⟩
    rw [← Option.some.inj h, join_cons, lw_is e (lt_all _)]
  · cases h

theorem evOf_iff (l : List UInt8) (e : V) : evOf l = some e ↔ e.wf ∧ lineOf e = some l := by
  unfold evOf
  constructor
  · intro h
    have hj := join_parts 32 _ l (Nat.le_refl _)
    cases hp : parts 32 l with
    | nil => exact absurd hp (parts_ne _ _)
    | cons w ws =>
      rw [hp] at h hj
      simp only at h
      by_cases h0 : kOf w = 0
      · rw [if_pos h0] at h; cases h
      · rw [if_neg h0] at h
        obtain ⟨h1, h2⟩ := kOf_some h0
        by_cases hl : ws.length = (ltk (kOf w)).length
        · rw [if_pos hl] at h
          obtain ⟨a, b, c, d⟩ := sets_line h1 (lt_all _) hl h
          refine ⟨a, ?_⟩
          have ek : e.k.toNat = kOf w := by rw [b]; simp
          unfold lineOf
          rw [if_pos ⟨by rw [b]; unfold isK; omega, by rw [ek]; exact c⟩, ek, lw_is e (lt_all _), d, h2]
          rw [join_cons] at hj
          rw [hj]
        · rw [if_neg hl] at h; cases h
  · rintro ⟨w, h⟩
    obtain ⟨h1, h2, h3⟩ := line_join h
    have hk : e.k.toNat < 31 := by unfold isK at h1; omega
    have he : ((e.k.toNat : Nat) : Int) = e.k := by unfold isK at h1; omega
    have hp : parts 32 l = nmk e.k.toNat :: (ltk e.k.toNat).map (fld e) := by
      rw [h3]
      refine parts_join 32 _ (by simp) ?_
      intro x hx
      rcases List.mem_cons.1 hx with rfl | hx
      · exact (nm_no ⟨_, hk⟩).1
      · obtain ⟨y, _, rfl⟩ := List.mem_map.1 hx
        exact fld_no e y 32 (Or.inl rfl)
    rw [hp]
    simp only
    have hq := kOf_nm ⟨_, hk⟩
    simp only at hq
    rw [hq, if_neg (by unfold isK at h1; omega), if_pos (by simp), he]
    exact line_sets w (lt_all _) h2

theorem line_no (e : V) (l : List UInt8) (h : lineOf e = some l) : (10 : UInt8) ∉ l := by
  obtain ⟨h1, h2, h3⟩ := line_join h
  have hk : e.k.toNat < 31 := by unfold isK at h1; omega
  intro hm
  rw [h3] at hm
  rcases join_mem 32 10 _ hm with x | ⟨y, hy, hx⟩
  · simp at x
  · rcases List.mem_cons.1 hy with rfl | hy
    · exact (nm_no ⟨_, hk⟩).2.1 hx
    · obtain ⟨z, _, rfl⟩ := List.mem_map.1 hy
      exact fld_no e z 10 (Or.inr rfl) hx
theorem fld_len (e : V) (w : e.wf) (l : UInt8) : (fld e l).length ≤ 192 ∧ (l ≠ 109 → (fld e l).length ≤ 21) := by
  have a := itoa_length_le e.c w.c.1 w.c.2
  have b := itoa_length_le e.i w.i.1 w.i.2
  have c := itoa_length_le e.n w.n.1 w.n.2
  have d := cps_len e.m
  unfold fld
  split
  · omega
  · split
    · omega
    · split
      · exact ⟨d, fun h => by contradiction⟩
      · omega
theorem line_len (e : V) (w : e.wf) (l : List UInt8) (h : lineOf e = some l) : l.length ≤ 300 ∧ 6 ≤ l.length := by
  unfold lineOf at h
  split at h
  · rename_i hc
    have hk : e.k.toNat < 31 := by have := hc.1; unfold isK at this; omega
    have hk0 : e.k.toNat ≠ 0 := by have := hc.1; unfold isK at this; omega
    have hn := nm_no ⟨_, hk⟩
    have h7 : (nmk e.k.toNat).length ≤ 7 := hn.2.2.1
    have h3 : 6 ≤ (nmk e.k.toNat).length + (ltk e.k.toNat).foldl (fun a l => a + if l = 109 then 1 else 2) 0 := hn.2.2.2 hk0
    have f1 := fld_len e w 99
    have f2 := fld_len e w 105
    have f3 := fld_len e w 109
    have f4 := fld_len e w 110
    have p1 : 1 ≤ (fld e 99).length := by simp [fld]; exact List.length_pos_iff.2 (itoa_ne _)
    have p2 : 1 ≤ (fld e 105).length := by simp [fld]; exact List.length_pos_iff.2 (itoa_ne _)
    have p4 : 1 ≤ (fld e 110).length := by simp [fld]; exact List.length_pos_iff.2 (itoa_ne _)
    have he := Option.some.inj h
    have ll := lt_all e.k.toNat
    have ln : ltk e.k.toNat = [] → e.k.toNat = 30 := by
      have : ∀ k : Fin 31, k.val ≠ 0 → ltk k.val = [] → k.val = 30 := by decide +kernel
      exact fun h => this ⟨_, hk⟩ hk0 h
    rw [← he, lw_is e ll]
    generalize hL : ltk e.k.toNat = L at *
    cases ll with
    | p1 =>
      have : e.k.toNat = 30 := ln rfl
      rw [this]
      simp [joinTail, nmk, nms]
    | p2 => simp [joinTail] at h3 f1 ⊢; omega
    | p3 => simp [joinTail] at h3 f4 ⊢; omega
    | p4 => simp [joinTail] at h3 f2 ⊢; omega
    | p5 => simp [joinTail] at h3 f2 f3 ⊢; omega
    | p6 => simp [joinTail] at h3 f2 f4 ⊢; omega
    | p7 => simp [joinTail] at h3 f1 f4 ⊢; omega
    | p8 => simp [joinTail] at h3 f1 f2 ⊢; omega
  · cases h

/-- What is read of a line. -/
def psr (l : List UInt8) : Option V := if 300 < l.length then none else evOf l
theorem psr_line {e : V} (w : e.wf) {l : List UInt8} (h : lineOf e = some l) : psr l = some e := by
  unfold psr
  rw [if_neg (by have := (line_len e w l h).1; omega)]
  exact (evOf_iff l e).2 ⟨w, h⟩
theorem psr_some {l : List UInt8} {e : V} (h : psr l = some e) : e.wf ∧ lineOf e = some l ∧ l.length ≤ 300 := by
  unfold psr at h
  split at h
  · cases h
  · obtain ⟨a, b⟩ := (evOf_iff l e).1 h
    exact ⟨a, b, by omega⟩

/-! Texts. -/
def txt : List V → Option (List UInt8)
  | [] => some []
  | e :: es => (lineOf e).bind fun l => (txt es).map fun t => l ++ 10 :: t
theorem txt_app : ∀ (a b : List V), txt (a ++ b) = (txt a).bind fun x => (txt b).map (x ++ ·)
  | [], b => by cases h : txt b <;> simp [txt, h]
  | e :: a, b => by
    rw [List.cons_append, txt, txt, txt_app a b]
    cases lineOf e with
    | none => rfl
    | some l =>
      cases txt a with
      | none => rfl
      | some x =>
        cases txt b with
        | none => rfl
        | some y => simp
theorem txt_snoc (a : List V) (e : V) : txt (a ++ [e]) = (txt a).bind fun x => (lineOf e).map fun l => x ++ (l ++ [10]) := by
  rw [txt_app]
  cases txt a with
  | none => rfl
  | some x => cases h : lineOf e <;> simp [txt, h]
theorem txt_none {a b : List V} {e : V} (h : lineOf e = none) : txt (a ++ e :: b) = none := by
  rw [txt_app]
  cases txt a with
  | none => rfl
  | some x => simp [txt, h]

/-- What is read of a text's lines: the events, or the number of the first that is none. -/
def rdo : List (List UInt8) → Nat → List V → List V ⊕ Nat
  | [], _, a => .inl a
  | [p], j, a => if p = [] then .inl a else .inr j
  | p :: q :: r, j, a => match psr p with
    | none => .inr j
    | some e => rdo (q :: r) (j + 1) (a ++ [e])
theorem rdo_cut (w r : List UInt8) (j : Nat) (a : List V) (h : (10 : UInt8) ∉ w) : rdo (parts 10 (w ++ 10 :: r)) j a = match psr w with
    | none => .inr j
    | some e => rdo (parts 10 r) (j + 1) (a ++ [e]) := by
  rw [parts_cut 10 w r h]
  cases hp : parts 10 r with
  | nil => exact absurd hp (parts_ne _ _)
  | cons q s => rfl
theorem rdo_txt : ∀ (es : List V) (t : List UInt8) (j : Nat) (a : List V), (∀ e ∈ es, e.wf) → txt es = some t → rdo (parts 10 t) j a = .inl (a ++ es)
  | [], t, j, a, _, h => by
    obtain rfl := Option.some.inj h
    simp [parts, rdo]
  | e :: es, t, j, a, hw, h => by
    rw [txt] at h
    cases hl : lineOf e with
    | none => rw [hl] at h; cases h
    | some l =>
      rw [hl] at h
      cases ht : txt es with
      | none => rw [ht] at h; cases h
      | some u =>
        rw [ht] at h
        obtain rfl := Option.some.inj h
        rw [rdo_cut l u j a (line_no e l hl), psr_line (hw e (by simp)) hl]
        simp only
        rw [rdo_txt es u (j + 1) (a ++ [e]) (fun x hx => hw x (by simp [hx])) ht]
        simp
end Go.Proofs.YtnmbacegcbjfaaaDoor.Wd
