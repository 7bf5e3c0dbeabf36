/- The texts Sl Sa Sb of one layer, laid together. -/
import Derived.Test.YtmlilgbochbbiaaGreatDoorRows
import Derived.Test.YtmlilgbochbbiaaGreatDoorXb
import Derived.WalkKit
import Derived.ProofKit
import Derived.OpenShut
import Derived.BigQuiet
import Derived.Deep.OwnRows
import Derived.Laws.Bits64b
import Derived.Laws.BitsAllLaws
namespace Go.Proofs.YtmlilgbochbbiaaGreatDoor.Sl
open Mm
/-- A set with one number in it, or out of it. -/
def st (O : Nat → Bool) (n : Nat) (v : Bool) : Nat → Bool := fun j => if j = n then v else O j
/-- All that are given out, rising. -/
def li (m : Nat) (O : Nat → Bool) : List Int := ((List.range m).filter fun i => O (i + 1)).map fun i : Nat => ((i + 1 : Nat) : Int)
/-- The lowest one that is free, one less. -/
def ff (m : Nat) (O : Nat → Bool) : Option Nat := (List.range m).find? fun i => !O (i + 1)
def tN : Option Nat → Int | some i => ((i + 1 : Nat) : Int) | none => 0
def tE : Option Nat → Int | some _ => 0 | none => 5
def tO (O : Nat → Bool) : Option Nat → (Nat → Bool) | some i => st O (i + 1) true | none => O
/-- Is a number given out? -/
def hs (m : Nat) (O : Nat → Bool) (n : Int) : Bool := decide (1 ≤ n ∧ n ≤ m) && O n.toNat
def gE (m : Nat) (O : Nat → Bool) (n : Int) : Int := if hs m O n = true then 0 else 4
def gO (m : Nat) (O : Nat → Bool) (n : Int) : Nat → Bool := if hs m O n = true then st O n.toNat false else O
theorem ff_some (m : Nat) (O : Nat → Bool) (i : Nat) (hi : i < m) (h : O (i + 1) = false) (g : ∀ j, j < i → O (j + 1) = true) : ff m O = some i := by
  unfold ff
  rw [List.find?_range_eq_some]
  refine ⟨by simp [h], List.mem_range.2 hi, fun j hj => ?_⟩
  simp [g j hj]
theorem ff_none (m : Nat) (O : Nat → Bool) (g : ∀ j, j < m → O (j + 1) = true) : ff m O = none := by
  unfold ff
  rw [List.find?_eq_none]
  intro x hx
  simp [g x (List.mem_range.1 hx)]
/-- The words hold the set. -/
structure Wd (m : Nat) (W : List Nat) (O : Nat → Bool) : Prop where
  len : W.length = (m + 63) / 64
  m1 : 1 ≤ m
  m2 : m ≤ 1024
  lt : ∀ j, j < W.length → W.getD j 0 < 18446744073709551616
  bit : ∀ j i, j < W.length → i < 64 → (W.getD j 0).testBit i = (decide (64 * j + i < m) && O (64 * j + i + 1))
theorem getD_setN (r : List Nat) (p q : Nat) (n : Nat) (hp : p < r.length) : (r.set p n).getD q 0 = if q = p then n else r.getD q 0 := by
  simp only [List.getD, List.getElem?_set]
  by_cases h : p = q
  · subst h; simp [hp]
  · have : ¬ q = p := fun e => h e.symm
    simp [h, this]
theorem wd_new (m : Nat) (h1 : 1 ≤ m) (h2 : m ≤ 1024) : Wd m (List.replicate ((m + 63) / 64) 0) fun _ => false := by
  have e : ∀ j, (List.replicate ((m + 63) / 64) 0).getD j 0 = 0 := by
    intro j
    simp only [List.getD, List.getElem?_replicate]
    split <;> rfl
  refine ⟨by simp, h1, h2, fun j _ => by rw [e]; omega, fun j i _ _ => by rw [e]; simp⟩
theorem wd_set {m : Nat} {W : List Nat} {O : Nat → Bool} (h : Wd m W O) (j i : Nat) (hj : j < W.length) (hi : i < 64) (hm : 64 * j + i < m) :
    Wd m (W.set j (W.getD j 0 ||| 2 ^ i)) (st O (64 * j + i + 1) true) := by
  refine ⟨by simp [h.len], h.m1, h.m2, fun t ht => ?_, fun t s ht hs => ?_⟩
  · rw [getD_setN _ _ _ _ hj]
    split
    · exact or_lt (h.lt j hj) (Nat.lt_of_lt_of_eq (Nat.pow_lt_pow_right (by omega) hi) rfl)
    · exact h.lt t (by simpa using ht)
  · rw [getD_setN _ _ _ _ hj]
    have hb := h.bit t s (by simpa using ht) hs
    by_cases c : t = j
    · subst c
      rw [if_pos rfl, Nat.testBit_or, hb, Nat.testBit_two_pow]
      unfold st
      by_cases d : i = s
      · subst d
        simp [hm]
      · have d2 : ¬ s = i := fun e => d e.symm
        simp [d, d2]
    · rw [if_neg c, hb]
      unfold st
      rw [if_neg (by omega)]
theorem wd_has {m : Nat} {W : List Nat} {O : Nat → Bool} (h : Wd m W O) (n : Nat) (h1 : 1 ≤ n) (h2 : n ≤ m) :
    (n - 1) / 64 < W.length ∧ ((W.getD ((n - 1) / 64) 0 &&& 2 ^ ((n - 1) % 64) = 0) = (O n = false)) := by
  have hj : (n - 1) / 64 < W.length := by rw [h.len]; omega
  refine ⟨hj, ?_⟩
  have hb := h.bit ((n - 1) / 64) ((n - 1) % 64) hj (by omega)
  have e : 64 * ((n - 1) / 64) + (n - 1) % 64 = n - 1 := by omega
  rw [e, show n - 1 + 1 = n by omega] at hb
  have hd : decide (n - 1 < m) = true := decide_eq_true (by omega)
  rw [hd, Bool.true_and] at hb
  have hc : 0 ≤ (((n - 1) % 64 : Nat) : Int) ∧ (((n - 1) % 64 : Nat) : Int) < 64 := by omega
  have k := and_bv (W.getD ((n - 1) / 64) 0) (((n - 1) % 64 : Nat) : Int)
  rw [bv_some _ hc, tb_nat _ _ (by omega), hb, Int.toNat_natCast] at k
  exact k
end Go.Proofs.YtmlilgbochbbiaaGreatDoor.Sl
namespace Go.Proofs.YtmlilgbochbbiaaGreatDoor.Slt
open Go.ChangeShapes Go.WideShapes Go.ChangeAt Go.RowKit
open Mm Sl
theorem Tryz.infoW : (Tryz.prog.info? 48).map (fun i => (i.zero, i.size, i.bytes)) = some (some (.int .u64 0), 1, 8) := by kernel_rfl
def wv (x : Nat) : Value := .int .u64 (x : Int)
theorem made_word (n : Nat) : madeCells #[Value.int .u64 0] n = ((List.replicate n 0).map wv).toArray := by
  apply Array.ext
  · simp [size_madeCells]
  · intro i h1 h2
    simp [madeCells, Nat.mod_one, wv]
theorem getD_map_wv (xs : List Nat) (i : Nat) (h : i < xs.length) : (xs.map wv)[i]? = some (.int .u64 ((xs.getD i 0 : Nat) : Int)) := by
  rw [List.getElem?_map, List.getElem?_eq_getElem h, List.getD_eq_getElem?_getD, List.getElem?_eq_getElem h]
  rfl
/-- The table at block b, its words at block g. -/
structure T (w : World) (b g m : Nat) (W : List Nat) (O : Nat → Bool) : Prop where
  sb : Blk w b [.slice (some ⟨g, 0, none⟩) W.length W.length, .int .i64 (m : Int)] 234
  sg : Blk w g (W.map wv) 48
  wd : Wd m W O
theorem T.c0 {w : World} {b g m : Nat} {W : List Nat} {O : Nat → Bool} (h : T w b g m W O) : w.cell? ⟨b, 0, none⟩ = some (.slice (some ⟨g, 0, none⟩) W.length W.length) := h.sb.cell 0
theorem T.c1 {w : World} {b g m : Nat} {W : List Nat} {O : Nat → Bool} (h : T w b g m W O) : w.cell? ⟨b, 1, none⟩ = some (.int .i64 (m : Int)) := h.sb.cell 1
theorem T.ne {w : World} {b g m : Nat} {W : List Nat} {O : Nat → Bool} (h : T w b g m W O) : b ≠ g := h.sb.ne h.sg (by decide)
theorem T.heap {w w1 : World} {b g m : Nat} {W : List Nat} {O : Nat → Bool} (h : T w b g m W O) (e : w1.heap = w.heap) : T w1 b g m W O := ⟨h.sb.heap e, h.sg.heap e, h.wd⟩
theorem T.keep {B : Nat} {S : List Nat} {w w' : World} {b g m : Nat} {W : List Nat} {O : Nat → Bool} (h : T w b g m W O) (k : Fr B S w w') (hb : b < B ∧ g < B) (hs : b ∉ S ∧ g ∉ S) : T w' b g m W O :=
  ⟨h.sb.keep k hb.1 hs.1, h.sg.keep k hb.2 hs.2, h.wd⟩
theorem T.word {w : World} {b g m : Nat} {W : List Nat} {O : Nat → Bool} (h : T w b g m W O) {j : Nat} (hj : j < W.length) : w.cell? ⟨g, j, none⟩ = some (.int .u64 ((W.getD j 0 : Nat) : Int)) := by
  rw [h.sg.cell, getD_map_wv W j hj]
theorem T.len {w : World} {b g m : Nat} {W : List Nat} {O : Nat → Bool} (h : T w b g m W O) : (W.length : Int) ≤ 16 := by have := h.wd.len; have := h.wd.m2; omega
/-- Behind a store into a word. -/
theorem t_store {w : World} {b g m : Nat} {W : List Nat} {O O' : Nat → Bool} (h : T w b g m W O) (j x : Nat) (k : Wd m (W.set j x) O') :
    T (w.setCell ⟨g, j, none⟩ (.int .u64 (x : Int))) b g m (W.set j x) O' := by
  refine ⟨?_, ?_, k⟩
  · have := h.sb.other (p := ⟨g, j, none⟩) h.ne (.int .u64 (x : Int))
    simpa using this
  · have := h.sg.set j (.int .u64 (x : Int))
    rw [show Value.int .u64 (x : Int) = wv x from rfl] at this ⊢
    rwa [← List.map_set] at this
set_option maxHeartbeats 400000 in
theorem new_any (m : Nat) (w : World) (h1 : (1 : Int) ≤ m) (h2 : (m : Int) ≤ 1024) :
    Calls Tryz.prog 60 #[.int .i64 (m : Int)] w fun e w' => e = .returned (.tuple #[.pointer (some ⟨w.heap.size + 1, 0, none⟩), .int .i64 0]) ∧ (∃ W, T w' (w.heap.size + 1) w.heap.size m W fun _ => false) ∧ Fr w.heap.size [] w w' := by
  obtain ⟨n, hn⟩ : ∃ n, (m + 63) / 64 = n := ⟨_, rfl⟩
  have G := wd_new m (by omega) (by omega)
  rw [hn] at G
  have hq : ((m : Int) + 64 - 1).tdiv 64 = (n : Int) := by rw [Int.tdiv_eq_ediv_of_nonneg (by omega)]; omega
  have hmk := run_make_row' (P := Tryz.prog) 232 48 (.int .u64 0) 8 Tryz.underlying232 Tryz.infoW rfl .i64 .i64 n (by omega) (by omega)
  have F : Hid (∀ o1 o2, Fr w.heap.size [] w ((w.alloc o1).alloc o2)) := fun o1 o2 => ((Fr.refl _ _ _).alloc (Nat.le_refl _) o1).alloc (by simp) o2
  have HG : Hid (Wd m (List.replicate n 0) fun _ => false) := G
  clear G
  go_enter Tryz.func60, Tryz.ntmps60
  go_wp2
  go_ret2
  refine ⟨rfl, ⟨List.replicate n 0, ?_, ?_, HG.out⟩, F.out _ _⟩
  · have := Blk.new (w.alloc (Obj.cells (madeCells #[Value.int IntKind.u64 0] n) 48)) [.slice (some ⟨w.heap.size, 0, none⟩) n n, .int .i64 (m : Int)] 234
    simpa using this
  · rw [made_word]
    exact (Blk.new w _ 48).alloc _
theorem number_any (j i : Nat) (w : World) (hj : (j : Int) ≤ 16) (hi : (i : Int) ≤ 64) :
    Calls Tryz.prog 265 #[.int .i64 (j : Int), .int .i64 (i : Int)] w fun e w' => e = .returned (.int .i64 ((64 * j + i + 1 : Nat) : Int)) ∧ w' = w := by
  rw [show ((64 * j + i + 1 : Nat) : Int) = (j : Int) * 64 + i + 1 by omega]
  go_enter Tryz.func265, Tryz.ntmps265
  go_wp2
  go_ret
  exact ⟨rfl, rfl⟩
theorem ret_place {a b c d : Int} (h : a = b) (g : c = d) : Ending.returned (.tuple #[.int .i64 a, .int .u64 c]) = .returned (.tuple #[.int .i64 b, .int .u64 d]) := by rw [h, g]
theorem pow_word (k : Nat) (h : k < 64) : IntKind.u64.wrap ((2 : Int) ^ k) = ((2 ^ k : Nat) : Int) := by
  have hp : 2 ^ k < 18446744073709551616 := Nat.lt_of_lt_of_eq (Nat.pow_lt_pow_right (by omega) h) rfl
  have e : ((2 : Int) ^ k) = ((2 ^ k : Nat) : Int) := by simp
  rw [e]
  exact wrapN _ hp
theorem pow_lt (k : Nat) (h : k < 64) : 2 ^ k < 18446744073709551616 := Nat.lt_of_lt_of_eq (Nat.pow_lt_pow_right (by omega) h) rfl
set_option maxHeartbeats 400000 in
theorem place_any (n : Nat) (w : World) (h1 : (1 : Int) ≤ n) (h2 : (n : Int) ≤ 1024) :
    Calls Tryz.prog 258 #[.int .i64 (n : Int)] w fun e w' => e = .returned (.tuple #[.int .i64 (((n - 1) / 64 : Nat) : Int), .int .u64 ((2 ^ ((n - 1) % 64) : Nat) : Int)]) ∧ w' = w := by
  have P : Hid (IntKind.u64.wrap ((2 : Int) ^ ((n - 1) % 64)) = ((2 ^ ((n - 1) % 64) : Nat) : Int)) := pow_word _ (by omega)
  have D : Hid (((n : Int) - 1) / 64 = (((n - 1) / 64 : Nat) : Int)) := by unfold Hid; omega
  go_enter Tryz.func258, Tryz.ntmps258
  go_wp2
  go_ret2
  exact ⟨ret_place D.out P.out, rfl⟩
set_option maxHeartbeats 400000 in
theorem has_any {b g m : Nat} {W : List Nat} {O : Nat → Bool} (n : Int) (w : World) (h : T w b g m W O) :
    Calls Tryz.prog 257 #[.pointer (some ⟨b, 0, none⟩), .int .i64 n] w fun e w' => e = .returned (.bool (hs m O n)) ∧ w' = w := by
  have c0 := h.c0
  have c1 := h.c1
  have hm : (m : Int) ≤ 1024 := by have := h.wd.m2; omega
  by_cases l : n < 1
  · rw [show hs m O n = false by unfold hs; rw [decide_eq_false (by omega)]; rfl]
    clear h c0
    go_enter Tryz.func257, Tryz.ntmps257
    go_wp2
    go_ret
    exact ⟨rfl, rfl⟩
  · by_cases u : (m : Int) < n
    · rw [show hs m O n = false by unfold hs; rw [decide_eq_false (by omega)]; rfl]
      clear h c0
      go_enter Tryz.func257, Tryz.ntmps257
      go_wp2
      go_ret
      exact ⟨rfl, rfl⟩
    · obtain ⟨k, rfl⟩ := Int.eq_ofNat_of_zero_le (show 0 ≤ n by omega)
      rw [show hs m O (k : Int) = O k by unfold hs; rw [decide_eq_true (by omega)]; simp]
      have C : Hid (∀ _ : Unit, _) := fun _ => place_any k w (by omega) (by omega)
      obtain ⟨hj, hb⟩ := wd_has h.wd k (by omega) (by omega)
      have cg := h.word hj
      have hlt := h.wd.lt _ hj
      have hj2 : (((k - 1) / 64 : Nat) : Int) < W.length := by omega
      have ha := bits_and_u64_nat (W.getD ((k - 1) / 64) 0) (2 ^ ((k - 1) % 64)) hlt (pow_lt _ (by omega))
      have hv : Hid (((((W.getD ((k - 1) / 64) 0 &&& 2 ^ ((k - 1) % 64) : Nat) : Int)) != 0) = O k) := by
        unfold Hid
        cases ho : O k with
        | false =>
          rw [ho] at hb
          simp only [eq_iff_iff, iff_true] at hb
          rw [hb]
          rfl
        | true =>
          rw [ho] at hb
          simp only [Bool.true_eq_false, eq_iff_iff, iff_false] at hb
          simp
          exact hb
      clear h hj hb hlt
      generalize 2 ^ ((k - 1) % 64) = p at *
      generalize (k - 1) / 64 = j at *
      generalize W.getD j 0 &&& p = z at *
      generalize W.getD j 0 = x at *
      generalize W.length = nw at *
      go_enter Tryz.func257, Tryz.ntmps257
      go_wp2_with fail
      refine (C.out ()).mono ?_
      rintro e w' ⟨rfl, rfl⟩
      go_wp2
      go_ret
      exact ⟨ret_bool hv.out, rfl⟩
end Go.Proofs.YtmlilgbochbbiaaGreatDoor.Slt
namespace Go.Proofs.YtmlilgbochbbiaaGreatDoor.Slt
open Go.ChangeShapes Go.WideShapes Go.ChangeAt Go.RowKit
open Mm Sl
theorem not_bit {x i : Nat} (hx : x < 18446744073709551616) (hi : i < 64) : (18446744073709551615 - x).testBit i = !x.testBit i := by
  rw [bit_max x i hx, decide_eq_true hi, Bool.true_and]
theorem not_word (x : Nat) (hx : x < 18446744073709551616) : bits .xor .u64 IntKind.u64.max (x : Int) = ((18446744073709551615 - x : Nat) : Int) := by
  have e : (18446744073709551615 : Nat) ^^^ x = 18446744073709551615 - x := by
    apply Nat.eq_of_testBit_eq
    intro i
    rw [Nat.testBit_xor, bit_max x i hx, max_eq, Nat.testBit_two_pow_sub_one]
    by_cases hi : i < 64
    · simp [hi]
    · rw [bit_hi hx (by omega)]
      simp [hi]
  have h := u64_xor_nat 18446744073709551615 x (by omega) hx
  rw [e] at h
  exact h
theorem low_zero {y f q : Nat} (e : y = 2 ^ f * (2 * q + 1)) {i : Nat} (hi : i < f) : y.testBit i = false := by
  rw [e, Nat.mul_comm, Nat.testBit_mul_two_pow]
  have : ¬ f ≤ i := by omega
  simp [this]
theorem low_one {y f q : Nat} (e : y = 2 ^ f * (2 * q + 1)) : y.testBit f = true := by
  rw [e, Nat.mul_comm, Nat.testBit_mul_two_pow]
  simp
/-- A word all whose bits are 1. -/
theorem full_word {m : Nat} {W : List Nat} {O : Nat → Bool} (h : Wd m W O) {k : Nat} (hk : k < W.length) (e : W.getD k 0 = 18446744073709551615) (g : ∀ t, t < 64 * k → t < m → O (t + 1) = true) : ∀ t, t < 64 * (k + 1) → t < m → O (t + 1) = true := by
  intro t ht hm
  by_cases c : t < 64 * k
  · exact g t c hm
  · have hb := h.bit k (t - 64 * k) hk (by omega)
    rw [e, show 64 * k + (t - 64 * k) = t by omega] at hb
    have : (18446744073709551615 : Nat).testBit (t - 64 * k) = true := by
      rw [max_eq, Nat.testBit_two_pow_sub_one]
      exact decide_eq_true (by omega)
    rw [this] at hb
    have := hb.symm
    rw [Bool.and_eq_true] at this
    exact this.2
/-- The lowest bit of a word that is 0. -/
theorem part_word {m : Nat} {W : List Nat} {O : Nat → Bool} (h : Wd m W O) {k f q : Nat} (hk : k < W.length) (hf : f < 64) (e : 18446744073709551615 - W.getD k 0 = 2 ^ f * (2 * q + 1)) (g : ∀ t, t < 64 * k → t < m → O (t + 1) = true) :
    (∀ t, t < 64 * k + f → O (t + 1) = true ∨ m ≤ t) ∧ (64 * k + f < m → O (64 * k + f + 1) = false) := by
  have hx := h.lt k hk
  refine ⟨fun t ht => ?_, fun hm => ?_⟩
  · by_cases c : t < 64 * k
    · by_cases d : t < m
      · exact Or.inl (g t c d)
      · exact Or.inr (by omega)
    · have hb := h.bit k (t - 64 * k) hk (by omega)
      have hl := low_zero e (show t - 64 * k < f by omega)
      rw [not_bit hx (by omega), hb, show 64 * k + (t - 64 * k) = t by omega] at hl
      simp at hl
      exact Or.inl hl.2
  · have hb := h.bit k f hk hf
    have hl := low_one e
    rw [not_bit hx hf, hb, decide_eq_true hm] at hl
    simpa using hl
set_option maxHeartbeats 1000000 in
theorem take_any {b g m : Nat} {W : List Nat} {O : Nat → Bool} (w : World) (h : T w b g m W O) (ht : Tab w) :
    Calls Tryz.prog 206 #[.pointer (some ⟨b, 0, none⟩)] w fun e w' => e = .returned (.tuple #[.int .i64 (tN (ff m O)), .int .i64 (tE (ff m O))]) ∧ (∃ W', T w' b g m W' (tO O (ff m O))) ∧ Fr w.heap.size [b, g] w w' := by
  have c0 := h.c0
  have c1 := h.c1
  have hl := h.len
  have HT : Hid (T w b g m W O) := h
  have HB : Hid (Tab w) := ht
  have hm : (m : Int) ≤ 1024 := by have := h.wd.m2; omega
  obtain ⟨nw, hn⟩ : ∃ nw, W.length = nw := ⟨_, rfl⟩
  have HN : Hid (W.length = nw) := hn
  obtain ⟨V, hV⟩ : ∃ V, tN (ff m O) = V := ⟨_, rfl⟩
  obtain ⟨E, hE⟩ : ∃ E, tE (ff m O) = E := ⟨_, rfl⟩
  obtain ⟨U, hU⟩ : ∃ U, tO O (ff m O) = U := ⟨_, rfl⟩
  have HF : Hid (∀ F, ff m O = F → V = tN F ∧ E = tE F ∧ U = tO O F) := fun F e => by rw [← hV, ← hE, ← hU, e]; exact ⟨rfl, rfl, rfl⟩
  rw [hn] at c0 hl
  rw [hV, hE, hU]
  clear h ht hn hV hE hU
  go_enter Tryz.func206, Tryz.ntmps206
  go_wp2
  go_loop [14] (fun i => ∃ k : Nat, (k : Int) ≤ nw ∧ Hid (∀ t, t < 64 * k → t < m → O (t + 1) = true) ∧ i = .int .i64 k) (fun i => nw - (intOf i).toNat)
  case atStart => exact ⟨0, by omega, fun t ht => by omega, rfl⟩
  case round =>
    obtain ⟨k, hk, hG, rfl⟩ := hrel
    by_cases e : (k : Int) < nw
    · have hk2 : k < W.length := by have := HN.out; omega
      have cg := HT.out.word hk2
      have lt := HT.out.wd.lt k hk2
      by_cases c : W.getD k 0 = 18446744073709551615
      · have s : Hid (∀ t, t < 64 * (k + 1) → t < m → O (t + 1) = true) := full_word HT.out.wd hk2 c hG.out
        rw [c] at cg
        have hx : bits .xor .u64 IntKind.u64.max (18446744073709551615 : Int) = 0 := not_word 18446744073709551615 (by omega)
        have cg2 : w.cell? ⟨g, k, none⟩ = some (.int .u64 18446744073709551615) := cg
        clear lt c hk2 cg
        go_wp2_with fail
        refine (tz_zero _).mono ?_
        rintro e w' ⟨rfl, rfl⟩
        go_wp2
        go_round
        case rel => exact ⟨k + 1, by omega, s, by go_num⟩
        case measure => simp [intOf]; omega
      · have hx := not_word (W.getD k 0) lt
        have Z : Hid (∀ _ : Unit, _) := fun _ => tz_any (18446744073709551615 - W.getD k 0) w (by omega) (by omega) HB.out
        obtain ⟨q, eq, hf⟩ := odd_spec 64 (18446744073709551615 - W.getD k 0) (by omega) (by omega)
        generalize Lib.ntzAux 64 (18446744073709551615 - W.getD k 0) = f at *
        obtain ⟨p1, p2⟩ := part_word HT.out.wd hk2 hf eq hG.out
        have NM : Hid (∀ w, _) := fun w => number_any k f w (by omega) (by omega)
        have hf2 : (f : Int) < 64 := by omega
        have fn : ((f : Int) == 64) = false := by simp; omega
        by_cases d : 64 * k + f < m
        · obtain ⟨n, hn⟩ : ∃ n, 64 * k + f + 1 = n := ⟨_, rfl⟩
          have hs := HF.out _ (ff_some m O _ d (p2 d) fun t ht => (p1 t ht).resolve_right (by omega))
          have e1 : V = ((64 * k + f + 1 : Nat) : Int) := hs.1
          have e2 : E = 0 := hs.2.1
          have e3 : U = st O (64 * k + f + 1) true := hs.2.2
          have TS : Hid _ := t_store HT.out k _ (wd_set HT.out.wd k f hk2 hf d)
          have ho : bits .or .u64 ((W.getD k 0 : Nat) : Int) ((2 : Int) ^ f) = ((W.getD k 0 ||| 2 ^ f : Nat) : Int) := by
            rw [show ((2 : Int) ^ f) = ((2 ^ f : Nat) : Int) by simp]
            exact bits_or_u64_nat (W.getD k 0) (2 ^ f) lt (pow_lt f hf)
          have hp : IntKind.u64.wrap ((2 : Int) ^ f) = (2 : Int) ^ f := by rw [pow_word f hf]; simp
          have fg : w.frozen? ⟨g, k, none⟩ = false := HT.out.sg.free _
          have d2 : ((64 * k + f + 1 : Nat) : Int) ≤ m := by omega
          rw [hn] at NM TS d2 e1 e3
          subst e1
          subst e2
          subst e3
          clear hs hn
          clear p1 p2 d eq c lt hk2 hf
          generalize W.getD k 0 ||| 2 ^ f = z at *
          generalize 18446744073709551615 - W.getD k 0 = y at *
          generalize W.getD k 0 = x at *
          go_wp2_with fail
          refine (Z.out ()).mono ?_
          rintro e w' ⟨rfl, rfl⟩
          go_wp2_with fail
          refine (NM.out _).mono ?_
          rintro e w' ⟨rfl, rfl⟩
          go_wp2
          go_ret2
          exact ⟨rfl, ⟨_, TS.out⟩, (Fr.refl _ _ _).setCell (Or.inr (by simp)) _⟩
        · have hs := HF.out _ (ff_none m O fun t ht => (p1 t (by omega)).resolve_right (by omega))
          have e1 : V = 0 := hs.1
          have e2 : E = 5 := hs.2.1
          have e3 : U = O := hs.2.2
          subst e1
          subst e2
          subst e3
          clear hs
          have d2 : (m : Int) < ((64 * k + f + 1 : Nat) : Int) := by omega
          generalize 64 * k + f + 1 = n at *
          clear p1 p2 d eq c lt hk2 hf
          generalize 18446744073709551615 - W.getD k 0 = y at *
          generalize W.getD k 0 = x at *
          go_wp2_with fail
          refine (Z.out ()).mono ?_
          rintro e w' ⟨rfl, rfl⟩
          go_wp2_with fail
          refine (NM.out _).mono ?_
          rintro e w' ⟨rfl, rfl⟩
          go_wp2
          go_ret2
          exact ⟨rfl, ⟨_, HT.out⟩, Fr.refl _ _ _⟩
    · have hs := HF.out _ (ff_none m O fun t ht => hG.out t (by have h1 := HT.out.wd.len; have h2 := HN.out; omega) ht)
      have e1 : V = 0 := hs.1
      have e2 : E = 5 := hs.2.1
      have e3 : U = O := hs.2.2
      subst e1
      subst e2
      subst e3
      clear hs
      go_wp2
      go_ret2
      exact ⟨rfl, ⟨_, HT.out⟩, Fr.refl _ _ _⟩
end Go.Proofs.YtmlilgbochbbiaaGreatDoor.Slt
