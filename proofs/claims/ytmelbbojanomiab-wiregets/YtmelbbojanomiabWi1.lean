/- Slices of bytes and their parts; and words on bits. -/
import Derived.Test.YtmelbbojanomiabRows
import Derived.Test.YtmelbbojanomiabOro
import Derived.Test.YtmelbbojanomiabWi0
import Derived.Test.YtmelbbojanomiabLen
import Derived.WalkKit
import Derived.ProofKit
import Derived.OpenShut
import Derived.BigQuiet
import Derived.Lib.ItoaNum
namespace Go.Proofs.Ytmelbbojanomiab
open Go.ChangeShapes Go.WideShapes Go.ChangeAt Go.RowKit
open Wi0

/-- A slice of bytes. -/
structure CRow (w : World) (a : Option Addr) (n cap : Nat) (xs : List Nat) : Prop where
  row : ORow by8 w (.slice a n cap) xs
  cp : n ≤ cap
  lt : ∀ x ∈ xs, x < 256

section
variable {w u : World} {a : Option Addr} {n cap : Nat} {xs : List Nat}
theorem CRow.nn (h : CRow w a n cap xs) : n = xs.length := orow_len h.row
theorem CRow.heap (h : CRow w a n cap xs) (e : u.heap = w.heap) : CRow u a n cap xs := ⟨h.row.heap e, h.cp, h.lt⟩
theorem CRow.below (h : CRow w a n cap xs) (e : Below w.heap.size w u) : CRow u a n cap xs := ⟨h.row.below e, h.cp, h.lt⟩
theorem CRow.cell (h : CRow w a n cap xs) {k x : Nat} (hk : xs[k]? = some x) : ∃ b off, a = some ⟨b, off, none⟩ ∧ b < w.heap.size ∧ w.cell? ⟨b, off + k, none⟩ = some (.int .u8 (x : Nat)) := orow_cell h.row hk
theorem get_some {xs : List Nat} {k : Nat} (h : k < xs.length) : ∃ x, xs[k]? = some x := ⟨_, List.getElem?_eq_getElem h⟩
end

theorem Try.info8 : (Try.prog.info? 5).map (fun i => (i.zero, i.size, i.bytes)) = some (some (.int .u8 0), 1, 1) := by kernel_rfl

theorem sl_from (w : World) (a : Option Addr) (n cap k : Nat) (h : k ≤ n) :
    (Instr.slice 22 (.slice a n cap) (some (.int .i64 (k : Int))) none none).run Try.prog w = .ok (.slice (if cap = k then a else a.map (·.add (k * 1))) (n - k) (cap - k)) w := by
  obtain ⟨i0, hi, hz0, hz1, hz2⟩ := info_parts Try.info8
  have l : (0 : Int) ≤ k ∧ (k : Int) ≤ n := by omega
  simp [Instr.slice, run_underlying Try.underlying22, Instr.sliceBounds, Instr.sliceBound, asIntOf, sizeOf, typeInfo, hi, hz1, h]
theorem sl_part (w : World) (a : Option Addr) (n cap k : Nat) (h : 1 + k ≤ cap) :
    (Instr.slice 22 (.slice a n cap) (some (.int .i64 1)) (some (.int .i64 (1 + (k : Int)))) none).run Try.prog w = .ok (.slice (if cap = 1 then a else a.map (·.add (1 * 1))) k (cap - 1)) w := by
  obtain ⟨i0, hi, hz0, hz1, hz2⟩ := info_parts Try.info8
  have l : (0 : Int) ≤ 1 + (k : Int) ∧ 1 + (k : Int) ≤ cap := by omega
  have e : (1 + (k : Int)).toNat = 1 + k := by omega
  simp [Instr.slice, run_underlying Try.underlying22, Instr.sliceBounds, Instr.sliceBound, asIntOf, sizeOf, typeInfo, hi, hz1, l, e]
  intro c
  omega

theorem crow_from {w : World} {a : Option Addr} {n cap k : Nat} {xs : List Nat} (h : CRow w a n cap xs) (hk : k ≤ n) : CRow w (if cap = k then a else a.map (·.add (k * 1))) (n - k) (cap - k) (xs.drop k) := by
  have nn := h.nn
  have cp := h.cp
  refine ⟨?_, by omega, fun x hx => h.lt x (List.mem_of_mem_drop hx)⟩
  by_cases e : k = n
  · rw [show xs.drop k = [] from List.drop_eq_nil_of_le (by omega)]
    exact Or.inl ⟨rfl, _, cap - k, by rw [e, Nat.sub_self]⟩
  · rw [if_neg (by omega)]
    have hk2 : k < xs.length := by omega
    obtain ⟨x, hx⟩ := get_some hk2
    obtain ⟨b, off, rfl, _⟩ := h.cell hx
    have := orow_drop (k := k) h.row (n - k) (cap - k) (by omega) (by omega)
    rw [Option.map_some, Addr.add_lit, Nat.mul_one]
    exact this
theorem crow_part {w : World} {a : Option Addr} {n cap k : Nat} {xs : List Nat} (h : CRow w a n cap xs) (hk : 1 + k ≤ n) (h0 : 1 ≤ k) : CRow w (if cap = 1 then a else a.map (·.add (1 * 1))) k (cap - 1) ((xs.drop 1).take k) := by
  have nn := h.nn
  have cp := h.cp
  have d := crow_from (k := 1) h (by omega)
  exact ⟨orow_take d.row (cap - 1) (by rw [List.length_drop]; omega), by omega, fun x hx => d.lt x (List.mem_of_mem_take hx)⟩

/-- A number below 0, turned over. -/
def fo (n : Int) : Nat := if n < 0 then (-n - 1).toNat else n.toNat
theorem xor_fold (n : Int) (h : I6 n) : bits .xor .i64 n (n / 9223372036854775808) = (fo n : Nat) := by
  obtain ⟨l1, l2⟩ := h
  have e0 : (BitVec.ofInt 64 n).toNat = (n % 18446744073709551616).toNat := by rw [BitVec.toNat_ofInt]; rfl
  show IntKind.i64.wrap (((BitVec.ofInt 64 n) ^^^ (BitVec.ofInt 64 (n / 9223372036854775808))).toNat : Int) = _
  unfold fo
  by_cases c : n < 0
  · rw [if_pos c, show n / 9223372036854775808 = -1 by omega, show BitVec.ofInt 64 (-1) = BitVec.allOnes 64 by decide, BitVec.xor_allOnes, BitVec.toNat_not, e0, IntKind.wrap_i64]
    omega
  · rw [if_neg c, show n / 9223372036854775808 = 0 by omega, show BitVec.ofInt 64 0 = 0#64 by decide, BitVec.xor_zero, e0, IntKind.wrap_i64]
    omega
theorem fo_lt (n : Int) (h : I6 n) : fo n < 9223372036854775808 := by obtain ⟨l1, l2⟩ := h; unfold fo; split <;> omega
theorem fo_fit (n : Int) (k : Nat) (h : 0 ≤ hf k) : fitk n k = true ↔ (fo n : Int) < hf k := by
  rw [fit_iff]
  unfold fo
  split <;> omega
theorem hf_pos (k : Nat) : 0 ≤ hf k := by unfold hf; split <;> omega
theorem wd_len (n : Int) (h : I6 n) : wd n = Lib.bitLen (fo n) / 8 + 1 := by
  have l := fo_lt n h
  have b63 : Lib.bitLen (fo n) ≤ 63 := Lib.bitLen_le (fo n) 63 (by omega) l
  have P : ∀ j : Nat, j ≤ 63 → (fo n < 2 ^ j ↔ Lib.bitLen (fo n) ≤ j) := by
    intro j hj
    constructor
    · exact Lib.bitLen_le (fo n) j (by omega)
    · intro q
      by_cases z : fo n = 0
      · rw [z]; exact Nat.two_pow_pos _
      · have := (Lib.bitLenAux_bounds 64 (fo n) (by omega) z).2.2
        exact Nat.lt_of_lt_of_le this (Nat.pow_le_pow_right (by omega) q)
  have p1 := P 7 (by omega); have p2 := P 15 (by omega); have p3 := P 23 (by omega); have p4 := P 31 (by omega); have p5 := P 39 (by omega); have p6 := P 47 (by omega); have p7 := P 55 (by omega); have p8 := P 63 (by omega)
  generalize Lib.bitLen (fo n) = B at *
  have f1 := fo_fit n 1 (hf_pos 1); have f2 := fo_fit n 2 (hf_pos 2); have f3 := fo_fit n 3 (hf_pos 3); have f4 := fo_fit n 4 (hf_pos 4); have f5 := fo_fit n 5 (hf_pos 5); have f6 := fo_fit n 6 (hf_pos 6); have f7 := fo_fit n 7 (hf_pos 7); have f8 := fo_fit n 8 (hf_pos 8)
  simp only [hf] at f1 f2 f3 f4 f5 f6 f7 f8
  generalize fo n = m at *
  clear P
  have nf : ∀ k, (¬ fitk n k = true) → fitk n k = false := fun k h => by simpa using h
  have : B / 8 = 0 ∨ B / 8 = 1 ∨ B / 8 = 2 ∨ B / 8 = 3 ∨ B / 8 = 4 ∨ B / 8 = 5 ∨ B / 8 = 6 ∨ B / 8 = 7 := by omega
  rcases this with q | q | q | q | q | q | q | q <;> rw [q, wd_cases n h _ (by omega) (by omega)]
  · exact ⟨f1.2 (by omega), Or.inl rfl⟩
  · exact ⟨f2.2 (by omega), Or.inr (nf _ fun c => by have := f1.1 c; omega)⟩
  · exact ⟨f3.2 (by omega), Or.inr (nf _ fun c => by have := f2.1 c; omega)⟩
  · exact ⟨f4.2 (by omega), Or.inr (nf _ fun c => by have := f3.1 c; omega)⟩
  · exact ⟨f5.2 (by omega), Or.inr (nf _ fun c => by have := f4.1 c; omega)⟩
  · exact ⟨f6.2 (by omega), Or.inr (nf _ fun c => by have := f5.1 c; omega)⟩
  · exact ⟨f7.2 (by omega), Or.inr (nf _ fun c => by have := f6.1 c; omega)⟩
  · exact ⟨f8.2 (by omega), Or.inr (nf _ fun c => by have := f7.1 c; omega)⟩

/-- A byte behind a number. -/
theorem or_low (n : Int) (x : Nat) (h1 : -36028797018963968 ≤ n) (h2 : n < 36028797018963968) (hx : x < 256) : bits .or .i64 (n * 256) (x : Int) = n * 256 + x := by
  have e0 : (BitVec.ofInt 64 (n * 256)).toNat = (n * 256 % 18446744073709551616).toNat := by rw [BitVec.toNat_ofInt]; rfl
  have e1 : (BitVec.ofInt 64 (x : Int)).toNat = x := by rw [BitVec.ofInt_natCast, BitVec.toNat_ofNat]; omega
  show IntKind.i64.wrap (((BitVec.ofInt 64 (n * 256)) ||| (BitVec.ofInt 64 (x : Int))).toNat : Int) = _
  rw [BitVec.toNat_or, e0, e1]
  obtain ⟨q, hq⟩ : ∃ q : Nat, (n * 256 % 18446744073709551616).toNat = 2 ^ 8 * q := ⟨(n * 256 % 18446744073709551616).toNat / 256, by omega⟩
  rw [hq, ← Nat.two_pow_add_eq_or_of_lt (by omega : x < 2 ^ 8), IntKind.wrap_i64]
  omega
theorem sb_wrap (x : Nat) (h : x < 256) : IntKind.i8.wrap (x : Int) = sb x := by
  unfold sb
  simp [IntKind.wrap, IntKind.bits, IntKind.signed]
  split <;> split <;> omega

theorem width_any (n : Int) (w : World) (h : I6 n) : Calls Try.prog 22 #[.int .i64 n] w fun e w' => e = .returned (.int .i64 (wd n : Nat)) ∧ w' = w := by
  have x0 := xor_fold n h
  have hw := wd_len n h
  have l := fo_lt n h
  obtain ⟨m, hm⟩ : ∃ m, fo n = m := ⟨_, rfl⟩
  rw [hm] at x0 hw l
  have u0 : IntKind.u64.wrap (m : Int) = (m : Int) := by rw [IntKind.wrap_u64]; omega
  have C : Hid (∀ w, _) := fun w => len_int (m : Int) w (by omega) (by omega)
  have b63 : Lib.bitLen m ≤ 63 := Lib.bitLen_le m 63 (by omega) l
  rw [Int.toNat_natCast] at C
  generalize Lib.bitLen m = B at *
  obtain ⟨z, hz⟩ : ∃ z, wd n = z := ⟨_, rfl⟩
  rw [hz] at hw ⊢
  have HN : Hid (wrap64 (wrap64 ((B : Int) / 8) + 1) = (z : Int)) := by show wrap64 (wrap64 ((B : Int) / 8) + 1) = (z : Int); simp only [wrap64]; omega
  clear h hw l hm hz b63
  go_enter Try.func22, Try.ntmps22
  go_wp2_with fail
  refine (C.out _).mono ?_
  rintro e w' ⟨rfl, rfl⟩
  go_wp2
  go_ret
  exact ⟨congrArg (fun y => Ending.returned (.int .i64 y)) HN.out, rfl⟩
theorem iskind_any (n : Int) (w : World) : Calls Try.prog 19 #[.int .i64 n] w fun e w' => e = .returned (.bool (okk n)) ∧ w' = w := by
  unfold okk
  by_cases h1 : 1 ≤ n
  · by_cases h2 : n ≤ 30
    · rw [decide_eq_true h1, decide_eq_true h2]
      go_enter Try.func19, Try.ntmps19
      go_wp2
      go_ret
      exact ⟨rfl, rfl⟩
    · rw [decide_eq_true h1, decide_eq_false h2]
      go_enter Try.func19, Try.ntmps19
      go_wp2
      go_ret
      exact ⟨rfl, rfl⟩
  · rw [decide_eq_false h1, Bool.false_and]
    go_enter Try.func19, Try.ntmps19
    go_wp2
    go_ret
    exact ⟨rfl, rfl⟩
end Go.Proofs.Ytmelbbojanomiab
