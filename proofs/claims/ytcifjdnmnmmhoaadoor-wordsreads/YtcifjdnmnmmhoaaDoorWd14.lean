/- Events as lines: the document's parts of a text. -/
import Derived.Test.YtcifjdnmnmmhoaaDoorRows
import Derived.Test.YtcifjdnmnmmhoaaDoorWd13
import Derived.Test.YtcifjdnmnmmhoaaDoorWd5
import Derived.WalkKit
import Derived.ProofKit
import Derived.OpenShut
import Derived.BigQuiet
import Derived.WalkSmall
import Derived.WalkSpells
import Derived.Deep.RegionLaw
import Derived.Deep.RegionHeld3
import Derived.Lib.SmallJoins
namespace Go.Proofs.YtcifjdnmnmmhoaaDoor
open Go.ChangeShapes Go.WideShapes Go.ChangeAt Go.RowKit
open Wd Mm
set_option linter.unusedVariables false
set_option linter.unusedSimpArgs false
set_option maxRecDepth 100000

/-- One element of a slice of one's own is laid anew. -/
theorem own_put {w : World} {base g n cap i : Nat} {e : TypeId} {xs : List Value} (h : w.ownsRow base e 1 (.slice (some ⟨g, 0, none⟩) n cap) n xs) (hi : i < n) (u : Value) : (w.setCell ⟨g, i, none⟩ u).ownsRow base e 1 (.slice (some ⟨g, 0, none⟩) n cap) n (xs.set i u) := by
  obtain ⟨h1, h2⟩ := h
  refine ⟨by simpa using h1, ?_⟩
  rcases h2 with ⟨h3, _⟩ | ⟨g', cap', cur, hv, hb, hh, hn, hc, hz, ht⟩
  · cases h3
  · simp only [Value.slice.injEq, Option.some.injEq, Addr.mk.injEq] at hv
    obtain ⟨⟨rfl, _⟩, _, rfl⟩ := hv
    have hb2 := Joins.block_setCell (i := i) hh u
    refine Or.inr ⟨g, cap, _, rfl, hb, hb2, hn, hc, by simpa using hz, ?_⟩
    rw [← ht]
    simp only [Array.toList_setIfInBounds]
    rw [List.take_set]

theorem OG.last {w wr : World} {g n cap : Nat} {xs : List (List UInt8)} (h : OG str 9 w wr (.slice (some ⟨g, 0, none⟩) n cap) xs) (hn : 0 < n) (x : List UInt8) :
    OG str 9 w (wr.setCell ⟨g, n - 1, none⟩ (.string (sb x))) (.slice (some ⟨g, 0, none⟩) n cap) (xs.dropLast ++ [x]) := by
  have hl : xs.length = n := by
    have := orow_len h.row
    exact this.symm
  have o := h.own
  rw [hl] at o
  have o2 := own_put o (i := n - 1) (by omega) (.string (sb x))
  have hg : w.heap.size ≤ g := by
    rcases h.own.2 with ⟨a, _⟩ | ⟨g', c', cur, hv, hb, _⟩
    · cases a
    · simp only [Value.slice.injEq, Option.some.injEq, Addr.mk.injEq] at hv
      rw [hv.1.1]; exact hb
  refine ⟨?_, h.bel.setCell (p := ⟨g, n - 1, none⟩) hg _⟩
  have e : (xs.map str).set (n - 1) (.string (sb x)) = (xs.dropLast ++ [x]).map str := by
    have hx : xs ≠ [] := by intro h0; rw [h0] at hl; simp at hl; omega
    conv => lhs; rw [← List.dropLast_concat_getLast hx]
    rw [List.map_append, List.set_append_right _ _ (by simp; omega)]
    simp [str, hl]
  rw [e] at o2
  have hl2 : (xs.dropLast ++ [x]).length = n := by simp; omega
  rw [hl2]
  exact o2

theorem og_slice {w wr : World} {v : Value} {xs : List (List UInt8)} (h : OG str 9 w wr v xs) (hx : xs ≠ []) : ∃ g cap, v = .slice (some ⟨g, 0, none⟩) xs.length cap ∧ wr.cell? ⟨g, xs.length - 1, none⟩ = some (.string (sb (xs.getLastD []))) ∧ wr.frozen? ⟨g, xs.length - 1, none⟩ = false := by
  rcases h.own.2 with ⟨hv, hn⟩ | ⟨g, cap, cur, hv, hb, hh, hn, hc, hz, ht⟩
  · exact absurd (List.eq_nil_of_length_eq_zero hn) hx
  · have hp : 0 < xs.length := List.length_pos_iff.2 hx
    refine ⟨g, cap, hv, ?_, ?_⟩
    · rw [Joins.cell_of_block hh]
      have : cur.toList[xs.length - 1]? = (xs.map str)[xs.length - 1]? := by
        rw [← ht, List.getElem?_take, if_pos (by omega)]
      rw [Array.getElem?_toList] at this
      rw [this, List.getElem?_map, List.getLastD_eq_getLast?, List.getLast?_eq_getElem?]
      rw [List.getElem?_eq_getElem (by omega)]
      rfl
    · exact Joins.unfrozen_of_block hh _

theorem slice_run (s : List UInt8) (i : Nat) (h : i < s.length) (W : World) : (Instr.slice 9 (.string (sb s)) (some (.int .i64 (i : Int))) (some (.int .i64 ((i : Int) + 1))) none).run Tryd.prog W = .ok (.string (sb [s[i]])) W := by
  have hs : ((sb s).size : Int) = s.length := by rw [sb_size]
  rw [run_slice_string_if W 9 _ .i64 .i64 _ _ Tryd.underlying9, hs, if_pos (by omega), if_pos (by omega)]
  have e1 : ((i : Int)).toNat = i := by omega
  have e2 : ((i : Int) + 1).toNat = i + 1 := by omega
  rw [e1, e2, Lib.extract_eq]
  congr 2
  show ({ data := ((s.drop i).take (i + 1 - i)).toArray } : ByteArray) = _
  rw [List.drop_eq_getElem_cons h, show i + 1 - i = 1 by omega]
  rfl

set_option maxHeartbeats 4000000 in
theorem rsplit_any (by_ : UInt8) (s : List UInt8) (hl : s.length ≤ 20000) (w : World) :
    Calls Tryd.prog 27 #[.string (sb s), .int .u8 (by_.toNat : Nat)] w fun r w' => ∃ v, r = .returned v ∧ OG str 9 w w' v (parts by_ s) := by
  obtain ⟨B, hB⟩ : ∃ B : Nat, by_.toNat = B := ⟨_, rfl⟩
  have HB : Hid (by_.toNat = B) := hB
  have O0 : Hid (OG str 9 w (w.alloc (.cells #[.string (sb [])] 9)) (.slice (some ⟨w.heap.size, 0, none⟩) 1 1) [[]]) :=
    ⟨⟨rfl, Or.inr ⟨w.heap.size, 1, #[.string (sb [])], rfl, Nat.le_refl _, heap_alloc_new w _, Nat.le_refl _, by unfold maxLen; omega, rfl, rfl⟩⟩, (Below.refl _ _).alloc (Nat.le_refl _) _⟩
  have hl2 : (s.length : Int) ≤ 20000 := by omega
  have TL : Hid (s.take s.length = s) := List.take_length
  rw [hB]
  clear hB hl
  go_enter Tryd.func27, Tryd.ntmps27
  go_wp2
  go_loopw [5, 6] (fun v i wr => ∃ k : Nat, (k : Int) ≤ s.length ∧ i = .int .i64 k ∧ Hid (OG str 9 w wr v (parts by_ (s.take k)))) (fun _ i _ => s.length - (intOf i).toNat)
  case atStart => exact ⟨0, by omega, rfl, O0⟩
  case round =>
    obtain ⟨k, hk, rfl, G⟩ := hrel
    by_cases h : (k : Int) < s.length
    · have hkL : k < s.length := by omega
      have hi : ∀ W, _ := fun W => index_run s k hkL W
      have hs : ∀ W, _ := fun W => slice_run s k hkL W
      have hp := parts_snoc by_ s[k] (s.take k)
      rw [← take_next s k hkL] at hp
      have hne := parts_ne by_ (s.take k)
      have hpl : (parts by_ (s.take k)).length ≤ k + 1 := by
        rw [parts_length]
        have := List.count_le_length (a := by_) (l := s.take k)
        rw [List.length_take] at this
        omega
      have hll : ((parts by_ (s.take k)).getLastD []).length ≤ k := by
        have hm : (parts by_ (s.take k)).getLastD [] ∈ parts by_ (s.take k) := by
          rw [List.getLastD_eq_getLast?, List.getLast?_eq_some_getLast hne]
          exact List.getLast_mem hne
        have := parts_le by_ (s.take k) _ hm
        rw [List.length_take] at this
        omega
      obtain ⟨P, hP⟩ : ∃ P, parts by_ (s.take k) = P := ⟨_, rfl⟩
      rw [hP] at hp hne hpl hll
      have G1 := G.out
      rw [hP] at G1
      have W1 : IntKind.i64.wrap ((k : Int) + 1) = (k : Int) + 1 := by rw [IntKind.wrap_i64]; omega
      generalize s[k] = x at *
      by_cases hx : x = by_
      · rw [if_pos hx] at hp
        have q : ((x.toNat : Int) == (B : Int)) = true := by rw [beq_iff_eq, hx, HB.out]
        obtain ⟨v', w2, hrun, G2⟩ := str_app [] G1 (Below.refl _ _) (by omega)
        rw [← hp] at G2
        have R2 : Hid _ := hrun
        have G3 : Hid _ := G2
        clear hrun G2 G1 hx hp hne hpl hll hP G hs
        go_wp2_with (at_builtin; refine wpList_rung rfl (.tmp 19) (.tmp 20) 52 rfl rfl rfl R2.out ?_)
        go_roundw
        case rel => exact ⟨k + 1, by omega, by go_num, G3⟩
        case measure => simp [intOf]; omega
      · rw [if_neg hx] at hp
        have q : ((x.toNat : Int) == (B : Int)) = false := by
          rw [beq_eq_false_iff_ne, ← HB.out]
          intro e
          exact hx (UInt8.toNat_inj.1 (by omega))
        obtain ⟨g, cap, rfl, hc, hf⟩ := og_slice G1 hne
        have hpos : 0 < P.length := List.length_pos_iff.2 hne
        have G2 := G1.last hpos (P.getLastD [] ++ [x])
        rw [← hp] at G2
        obtain ⟨m, hm⟩ : ∃ m, P.length = m + 1 := ⟨P.length - 1, by omega⟩
        have A1 : ∀ W, (Op.stringOp .add (sb (P.getLastD [])) (sb [x])).run Tryd.prog W = .ok (.string (sb (P.getLastD [] ++ [x]))) W := fun W => add_str _ _ (by have : [x].length = 1 := rfl; omega) W
        rw [hm] at G2 hc hf ⊢
        rw [Nat.add_sub_cancel] at G2 hc hf
        have G3 : Hid _ := G2
        have mB : (m : Int) ≤ 20000 := by omega
        generalize P.getLastD [] ++ [x] = y at *
        generalize P.getLastD [] = z at *
        clear G2 G1 hx hp hne hpl hll hP G hm hpos
        go_wp2
        go_region
        go_wp2
        go_roundw
        case rel => exact ⟨k + 1, by omega, by go_num, G3.out.heap ⟨rfl, rfl, rfl, rfl⟩⟩
        case measure => simp [intOf]; omega
    · obtain rfl : k = s.length := by omega
      have G1 := G.out
      rw [TL.out] at G1
      have G2 : Hid _ := G1
      obtain ⟨a1, c1, hv⟩ := G1.shape
      clear G G1 hv
      go_wp2
      go_ret
      exact ⟨_, rfl, G2.out⟩
end Go.Proofs.YtcifjdnmnmmhoaaDoor
