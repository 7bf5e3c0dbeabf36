/- Events as lines: what is there when a call begins; numbers as words. -/
import Derived.Test.YtcifjdnmnmmhoaaDoorRows
import Derived.Test.YtcifjdnmnmmhoaaDoorShelf
import Derived.Test.YtcifjdnmnmmhoaaDoorWd0
import Derived.Test.YtcifjdnmnmmhoaaDoorWd3
import Derived.Test.YtcifjdnmnmmhoaaDoorFw
import Derived.Test.YtcifjdnmnmmhoaaDoorFg
import Derived.Test.YtcifjdnmnmmhoaaDoorOro
import Derived.WalkKit
import Derived.ProofKit
import Derived.OpenShut
import Derived.BigQuiet
import Derived.WalkSmall
import Derived.WalkSpells
import Derived.Lib.SmallJoins
import Derived.Lib.AppendIntMem
namespace Go.Proofs.YtcifjdnmnmmhoaaDoor
open Go.ChangeShapes Go.WideShapes Go.ChangeAt Go.RowKit
open Wd
set_option linter.unusedVariables false
set_option linter.unusedSimpArgs false
set_option maxRecDepth 100000

/-- A text as Go has it. -/
abbrev sb (l : List UInt8) : ByteArray := ⟨l.toArray⟩
theorem sb_app (a b : List UInt8) : sb a ++ sb b = sb (a ++ b) := by
  apply ByteArray.ext
  simp [sb, ByteArray.data_append]
theorem sb_size (a : List UInt8) : (sb a).size = a.length := by simp [sb, ByteArray.size]
theorem sb_inj {a b : List UInt8} : sb a = sb b ↔ a = b := by
  constructor
  · intro h
    have := congrArg (fun x : ByteArray => x.data.toList) h
    simpa [sb] using this
  · rintro rfl; rfl
theorem sb_eta (s : ByteArray) : s = sb s.data.toList := (Joins.bytes_eta s).symm

/-- What is there when a call begins. -/
structure GW (w : World) : Prop where
  tab : Lib.TabIs Tryd.prog w "internal/strconv.uint64pow10" .u64 Lib.pow10Tab
  nm : ∀ k, k < 31 → w.cell? ⟨0, 2 * k, none⟩ = some (.string (sb (nmk k)))
  lt : ∀ k, k < 31 → w.cell? ⟨0, 2 * k + 1, none⟩ = some (.string (sb (ltk k)))
  es : ∃ te pe, w.cell? ⟨5, 0, none⟩ = some (.iface te pe)
  er : ∃ te pe, w.cell? ⟨6, 0, none⟩ = some (.iface te pe)
  mx : ∃ m, w.cell? ⟨1, 0, none⟩ = some (.int .i64 m)
  sz : 7 ≤ w.heap.size

theorem gTab : Tryd.prog.globalNamed "internal/strconv.uint64pow10" = some 2 := by kernel_rfl

theorem GW.fr {B : Nat} {S : List Nat} {w w' : World} (h : GW w) (f : Fr B S w w') (hB : 7 ≤ B) (hS : ∀ k ∈ S, 7 ≤ k) : GW w' := by
  have hn : ∀ k, k < 7 → k ∉ S := fun k hk m => by have := hS k m; omega
  have c : ∀ k i, k < 7 → w'.cell? ⟨k, i, none⟩ = w.cell? ⟨k, i, none⟩ := fun k i hk => f.cell (p := ⟨k, i, none⟩) (by show k < B; omega) (hn k hk)
  have f7 : Below 7 w w' := ⟨f.os, f.tape, f.output, f.size, fun k hk => f.block k (by omega) (hn k hk)⟩
  refine ⟨?_, fun k hk => (c 0 _ (by omega)).trans (h.nm k hk), fun k hk => (c 0 _ (by omega)).trans (h.lt k hk), ?_, ?_, ?_, Nat.le_trans h.sz f.size⟩
  · have ht := h.tab
    unfold Lib.TabIs World.var? at ht ⊢
    rw [gTab] at ht ⊢
    simp only [Option.bind_some] at ht ⊢
    rw [f.block 2 (by omega) (hn 2 (by omega))]
    exact ht
  · obtain ⟨a, b, e⟩ := h.es; exact ⟨a, b, (c 5 0 (by omega)).trans e⟩
  · obtain ⟨a, b, e⟩ := h.er; exact ⟨a, b, (c 6 0 (by omega)).trans e⟩
  · obtain ⟨a, e⟩ := h.mx; exact ⟨a, (c 1 0 (by omega)).trans e⟩
theorem GW.below {w w' : World} (h : GW w) (b : Below w.heap.size w w') : GW w' := h.fr (Fr.of_below b) h.sz (by simp)
theorem GW.sm {w w' : World} (h : GW w) (b : Sm w' w) : GW w' := h.below (b.below (Below.refl _ _))

/-- What is handed up where a word can not be. -/
abbrev bad : List PanicEntry := [{ v := .iface 25 (.int .i64 13), recovered := false }]

theorem must_yes (w : World) : Calls Tryd.prog 38 #[.bool true] w fun e w' => e = .returned (.tuple #[]) ∧ w' = w := by
  go_enter Tryd.func38, Tryd.ntmps38
  go_wp2
  go_end0
  exact ⟨rfl, rfl⟩
theorem must_no (w : World) : Calls Tryd.prog 38 #[.bool false] w fun e w' => e = .panicked bad ∧ w' = w := by
  go_enter Tryd.func38, Tryd.ntmps38
  go_wp2
  simp [bodyPost]

theorem dec_any (n : Int) (w : World) (g : GW w) (hn : inR n) :
    Calls Tryd.prog 34 #[.int .i64 n] w fun e w' => e = .returned (.string (sb (Lib.itoa n))) ∧ Below w.heap.size w w' := by
  have C : Hid (∀ _ : Unit, Calls Tryd.prog 44 #[.int .i64 n, .int .i64 10] w fun e w' => e = .returned (.string (sb (Lib.itoa n))) ∧ Below w.heap.size w w') := fun _ => by
    refine (Tryd.strconv_FormatInt_10 n hn.1 hn.2 w g.tab).mono ?_
    rintro e w' ⟨rfl, k, os, rfl⟩
    exact ⟨rfl, Lib.below_grow w.heap.size w (Nat.le_refl _) k os⟩
  clear g hn
  go_enter Tryd.func34, Tryd.ntmps34
  go_wp2_with fail
  refine (C.out ()).mono ?_
  rintro e u1 ⟨rfl, b1⟩
  go_wp2
  go_ret
  exact ⟨rfl, b1⟩

/-- What is read of a word, whatever it is. -/
theorem pint_any (s : List UInt8) (w : World) (g : GW w) (hs : s.length ≤ 281474976710656) :
    Calls Tryd.prog 61 #[.string (sb s), .int .i64 10, .int .i64 64] w fun e w' => ∃ y, e = .returned (.tuple #[.int .i64 (readNum s), y]) ∧ Below w.heap.size w w' := by
  have hl : (sb s).size ≤ 281474976710656 := by rw [sb_size]; exact hs
  have hd : (sb s).data.toList = s := rfl
  unfold readNum
  cases h : Lib.parseIntB 64 s with
  | ok v =>
    refine (Tryd.strconv_ParseInt_10_at64_ok (sb s) (by omega) v (by rw [hd]; exact h) w).mono ?_
    rintro e w' ⟨rfl, rfl | ⟨t, rfl⟩⟩
    · exact ⟨_, rfl, Below.refl _ _⟩
    · exact ⟨_, rfl, Joins.below_bytesWorld _ _ _ _ (Nat.le_refl _)⟩
  | «syntax» =>
    obtain ⟨te, pe, he⟩ := g.es
    refine (Tryd.strconv_ParseInt_10_at64_syntax (sb s) hl (by rw [hd]; exact h) _ w he (Or.inr ⟨te, pe, rfl⟩)).mono ?_
    rintro e w' ⟨N, rfl, _, _, b⟩
    exact ⟨_, rfl, b⟩
  | range =>
    obtain ⟨te, pe, he⟩ := g.er
    refine (Tryd.strconv_ParseInt_10_at64_range (sb s) hl (by rw [hd]; exact h) _ w he (Or.inr ⟨te, pe, rfl⟩)).mono ?_
    rintro e w' ⟨N, rfl, _, _, b⟩
    exact ⟨_, rfl, b⟩

set_option maxHeartbeats 1000000 in
theorem num_any (s : List UInt8) (w : World) (g : GW w) (hs : s.length ≤ 281474976710656) :
    Calls Tryd.prog 49 #[.string (sb s)] w fun e w' => (match numOf s with | some n => e = .returned (.int .i64 n) | none => e = .panicked bad) ∧ Below w.heap.size w w' := by
  obtain ⟨v, hv⟩ : ∃ v, readNum s = v := ⟨_, rfl⟩
  have CP : Hid (∀ _ : Unit, _) := fun _ => pint_any s w g hs
  have CD : Hid (∀ u, Below w.heap.size w u → _) := fun u b => dec_any v u (g.below b) (by rw [← hv]; exact readNum_in s)
  have CY : Hid (∀ u, _) := fun u => must_yes u
  have CN : Hid (∀ u, _) := fun u => must_no u
  rw [hv] at CP
  rw [readNum_iff s, hv]
  clear hv g hs
  by_cases h : Lib.itoa v = s
  · rw [if_pos h]
    have q : (Lib.itoa v == s) = true := by rw [beq_iff_eq]; exact h
    clear h
    go_enter Tryd.func49, Tryd.ntmps49
    go_wp2_with fail
    refine (CP.out ()).mono ?_
    rintro e u1 ⟨y, rfl, b1⟩
    go_wp2_with fail
    refine (CD.out _ b1).mono ?_
    rintro e u2 ⟨rfl, b2⟩
    go_wp2_with fail
    refine (CY.out _).mono ?_
    rintro e u3 ⟨rfl, rfl⟩
    go_wp2
    go_ret
    exact ⟨rfl, b1.trans (b2.mono b1.size)⟩
  · rw [if_neg h]
    have q : (Lib.itoa v == s) = false := by rw [beq_eq_false_iff_ne]; exact h
    clear h
    go_enter Tryd.func49, Tryd.ntmps49
    go_wp2_with fail
    refine (CP.out ()).mono ?_
    rintro e u1 ⟨y, rfl, b1⟩
    go_wp2_with fail
    refine (CD.out _ b1).mono ?_
    rintro e u2 ⟨rfl, b2⟩
    go_wp2_with fail
    refine (CN.out _).mono ?_
    rintro e u3 ⟨rfl, rfl⟩
    go_wp2
    simp only [bodyPost]
    exact ⟨trivial, trivial, b1.trans (b2.mono b1.size)⟩
end Go.Proofs.YtcifjdnmnmmhoaaDoor
