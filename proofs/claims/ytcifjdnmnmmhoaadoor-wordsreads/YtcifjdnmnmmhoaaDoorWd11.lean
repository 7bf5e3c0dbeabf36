/- Events as lines: the text of events. -/
import Derived.Test.YtcifjdnmnmmhoaaDoorRows
import Derived.Test.YtcifjdnmnmmhoaaDoorWd10
import Derived.WalkKit
import Derived.ProofKit
import Derived.OpenShut
import Derived.BigQuiet
import Derived.WalkSmall
import Derived.WalkSpells
namespace Go.Proofs.YtcifjdnmnmmhoaaDoor
open Go.ChangeShapes Go.WideShapes Go.ChangeAt Go.RowKit
open Wd Mm
set_option linter.unusedVariables false
set_option linter.unusedSimpArgs false
set_option maxRecDepth 100000

/-- A builder that holds these bytes. -/
abbrev BF (B : Nat) (t : List UInt8) (w : World) : Prop := Lib.IsBuilderF 63 5 B B (Lib.byteCells t) w
theorem BF.below {B : Nat} {t : List UInt8} {w w' : World} (h : BF B t w) (f : Below w.heap.size w w') : BF B t w' := by
  have q : ∀ p, Lib.BuilderAtF 63 5 B B p (Lib.byteCells t) w → Lib.BuilderAtF 63 5 B B p (Lib.byteCells t) w' := by
    rintro p ⟨h1, v, h2, h3, h4⟩
    refine ⟨h1, v, (f.block B (lt_of_block h2)).trans h2, ⟨h3.1, ?_⟩, h4⟩
    rcases h3.2 with h5 | ⟨g, cap, cur, fz, a, b, c, d⟩
    · exact Or.inl h5
    · exact Or.inr ⟨g, cap, cur, fz, a, b, (f.block g (lt_of_block c)).trans c, d⟩
  rcases h with h | h
  · exact Or.inl (q _ h)
  · exact Or.inr (q _ h)
theorem bf_start (w : World) : BF w.heap.size [] (w.alloc (.cells #[.pointer none, .slice none 0 0] 63)) := Lib.IsBuilderF.of (Lib.fresh_isBuilder _ _ w)
theorem wr_any (B : Nat) (t l : List UInt8) (w : World) (h : BF B t w) (hl : t.length + l.length ≤ 1000000) (hB : B ≤ w.heap.size) :
    Calls Tryd.prog 31 #[.pointer (some ⟨B, 0, none⟩), .string (sb l)] w fun e w' => (∃ y, e = .returned y) ∧ BF B (t ++ l) w' ∧ Below B w w' := by
  refine (Any.Builder_WriteString_k (ρ := Tryd.lays156_ren) { Tryd.lays156 with } Tryd.Builder_Extra_156 B B (Lib.byteCells t) (sb l) w h (by rw [Lib.byteCells_length, sb_size]; omega) hB).mono ?_
  rintro e w' ⟨rfl, h1, h2, -⟩
  refine ⟨⟨_, rfl⟩, Or.inr ?_, h2⟩
  rw [Lib.byteCells_append]
  exact h1
theorem st_any (B : Nat) (t : List UInt8) (w : World) (h : BF B t w) (hB : B ≤ w.heap.size) :
    Calls Tryd.prog 32 #[.pointer (some ⟨B, 0, none⟩)] w fun e w' => e = .returned (.string (sb t)) ∧ Below B w w' := by
  refine (Tryd.Builder_String_any_k B B t w h hB).mono ?_
  rintro e w' ⟨rfl, -, h2, -⟩
  exact ⟨rfl, h2⟩

def txtR (es : List V) : Value := if 600 < es.length then .tuple #[.string (sb []), .int .i64 15] else match txt es with
  | some t => .tuple #[.string (sb t), .int .i64 0]
  | none => .tuple #[.string (sb []), .int .i64 2]

theorem lineR_none {e : V} (h : lineOf e = none) : lineR e = .tuple #[.string (sb []), .int .i64 2] := by unfold lineR; rw [h]
theorem lineR_some {e : V} {l : List UInt8} (h : lineOf e = some l) : lineR e = .tuple #[.string (sb l), .int .i64 0] := by unfold lineR; rw [h]

set_option maxHeartbeats 4000000 in
theorem text_any (es : List V) (hw : ∀ e ∈ es, e.wf) (a : Option Addr) (n cap : Nat) (w : World) (g : GW w) (hr : LRow vl w (.slice a n cap) es) (hn : es.length = n) :
    Calls Tryd.prog 16 #[.slice a n cap] w fun r w' => r = .returned (txtR es) ∧ Below w.heap.size w w' := by
  obtain ⟨R, hR⟩ : ∃ R, txtR es = R := ⟨_, rfl⟩
  by_cases h6 : 600 < es.length
  · have h7 : (600 : Int) < (n : Int) := by omega
    obtain rfl : R = .tuple #[.string (sb []), .int .i64 15] := by rw [← hR]; exact if_pos h6
    rw [hR]
    clear hR h6 hr hw g hn
    go_enter Tryd.func16, Tryd.ntmps16
    go_wp2
    go_ret2
    exact ⟨rfl, Below.refl _ _⟩
  · have h7 : ¬ (600 : Int) < (n : Int) := by omega
    have h8 : decide ((600 : Int) < (n : Int)) = false := decide_eq_false h7
    have h9 : (n : Int) ≤ 600 := by omega
    have RS : Hid ((∀ t, txt es = some t → R = .tuple #[.string (sb t), .int .i64 0]) ∧ (txt es = none → R = .tuple #[.string (sb []), .int .i64 2])) := by
      show _ ∧ _
      rw [← hR]
      unfold txtR
      rw [if_neg h6]
      exact ⟨fun t h => by rw [h], fun h => by rw [h]⟩
    rw [hR]
    have HG : Hid (GW w) := g
    have HR : Hid (LRow vl w (.slice a n cap) es) := hr
    have HN : Hid (es.length = n) := hn
    have HW : Hid (∀ e ∈ es, e.wf) := hw
    have F0 : Hid (BF w.heap.size [] (w.alloc (.cells #[.pointer none, .slice none 0 0] 63))) := bf_start w
    have B0 : Hid (Below w.heap.size w (w.alloc (.cells #[.pointer none, .slice none 0 0] 63))) := (Below.refl _ _).alloc (Nat.le_refl _) _
    clear hR h6 hr hw g hn
    go_enter Tryd.func16, Tryd.ntmps16
    go_wp2
    go_loopw [14] (fun i wr => ∃ (k : Nat) (t : List UInt8), (k : Int) ≤ n ∧ i = .int .i64 k ∧ Hid (txt (es.take k) = some t) ∧ Hid (BF w.heap.size t wr) ∧ Hid (Below w.heap.size w wr) ∧ t.length ≤ 301 * k) (fun i _ => n - (intOf i).toNat)
    case atStart => exact ⟨0, [], by omega, rfl, rfl, F0.out, B0.out, by simp⟩
    case round =>
      obtain ⟨k, t, hk, rfl, ht, F, BW, hlen⟩ := hrel
      by_cases h : (k : Int) < n
      · have hkE : k < es.length := by rw [HN.out]; omega
        obtain ⟨b0, off, rfl, hlt, hA⟩ := lrow_cell (HR.out.below BW.out) hkE
        have hE : es.getD k vl.z = es[k] := by rw [List.getD_eq_getElem?_getD, List.getElem?_eq_getElem hkE]; rfl
        rw [hE] at hA
        have HEw := HW.out es[k] (List.getElem_mem hkE)
        have hs := split_next es k hkE
        have hs2 := take_next es k hkE
        have a0 : wr.cell? ⟨b0, off + k * 5, none⟩ = some (.int .i64 es[k].k) := hA 0 (by decide)
        have a1 : wr.cell? ⟨b0, off + k * 5 + 1, none⟩ = some (.int .i64 es[k].c) := hA 1 (by decide)
        have a2 : wr.cell? ⟨b0, off + k * 5 + 2, none⟩ = some (.int .i64 es[k].i) := hA 2 (by decide)
        have a3 : wr.cell? ⟨b0, off + k * 5 + 3, none⟩ = some (.int .u64 ((es[k].m : Nat) : Int)) := hA 3 (by decide)
        have a4 : wr.cell? ⟨b0, off + k * 5 + 4, none⟩ = some (.int .i64 es[k].n) := hA 4 (by decide)
        generalize es[k] = E at *
        obtain ⟨V1, hV1⟩ : ∃ V1, V1 = wr.alloc (.cells (V.vals E).toArray 24) := ⟨_, rfl⟩
        have b1 : Below wr.heap.size wr V1 := by rw [hV1]; exact (Below.refl _ _).alloc (Nat.le_refl _) _
        have CL := line_any E HEw V1 (HG.out.below (BW.out.trans (b1.mono BW.out.size)))
        have F1 : Hid (BF w.heap.size t V1) := F.out.below b1
        have BW1 : Hid (Below w.heap.size w V1) := BW.out.trans (b1.mono BW.out.size)
        have HV : Hid (wr.alloc (.cells (V.vals E).toArray 24) = V1) := hV1.symm
        cases hl : lineOf E with
        | none =>
          rw [lineR_none hl] at CL
          have C1 : Hid (∀ _ : Unit, _) := fun _ => CL
          obtain rfl := RS.out.2 (by rw [hs]; exact txt_none hl)
          dsimp only [V.vals] at HV C1
          clear CL hV1 b1 hA hE hs hs2 hl HEw hkE hlt
          go_wp2_with fail
          rw [HV.out]
          refine (C1.out ()).mono ?_
          rintro e u ⟨rfl, bu⟩
          go_wp2
          go_ret2
          exact ⟨rfl, BW1.out.trans (bu.mono BW1.out.size)⟩
        | some l =>
          rw [lineR_some hl] at CL
          have C1 : Hid (∀ _ : Unit, _) := fun _ => CL
          have hll := (line_len E HEw l hl).1
          have T2 : Hid (txt (es.take (k + 1)) = some (t ++ (l ++ [10]))) := by
            show _ = _
            rw [hs2, txt_snoc, ht.out, hl]
            rfl
          have A1 : ∀ W, (Op.stringOp .add (sb l) (sb [10])).run Tryd.prog W = .ok (.string (sb (l ++ [10]))) W := fun W => add_str l [10] (by simp; omega) W
          have CW : Hid (∀ (u : World), Below V1.heap.size V1 u → _) := fun u bu => wr_any w.heap.size t (l ++ [10]) u (F1.out.below bu) (by simp; omega) (Nat.le_trans BW1.out.size bu.size)
          have hl3 : (t ++ (l ++ [10])).length ≤ 301 * (k + 1) := by simp; omega
          dsimp only [V.vals] at HV C1
          clear CL hV1 b1 hA hE hs hs2 hl HEw hkE hlt
          go_wp2_with fail
          rw [HV.out]
          refine (C1.out ()).mono ?_
          rintro e u ⟨rfl, bu⟩
          have HB : Hid (Below w.heap.size w u) := BW1.out.trans (bu.mono BW1.out.size)
          have CW1 : Hid (∀ _ : Unit, _) := fun _ => CW.out u bu
          clear bu CW C1
          go_wp2_with fail
          refine (CW1.out ()).mono ?_
          rintro e u2 ⟨⟨y, rfl⟩, f2, b2⟩
          have F2 : Hid _ := f2
          have B2 : Hid (Below w.heap.size w u2) := HB.out.trans b2
          clear f2 b2 CW1
          go_wp2
          go_roundw
          case rel => exact ⟨k + 1, _, by omega, by go_num, T2, F2, B2, hl3⟩
          case measure => simp [intOf]; omega
      · obtain rfl : k = n := by omega
        have hte := ht.out
        rw [show es.take k = es by rw [← HN.out]; exact List.take_length] at hte
        obtain rfl := RS.out.1 t hte
        have CS : Hid (∀ _ : Unit, _) := fun _ => st_any w.heap.size t wr F.out BW.out.size
        clear hte ht RS F
        go_wp2_with fail
        refine (CS.out ()).mono ?_
        rintro e u ⟨rfl, bu⟩
        go_wp2
        go_ret2
        exact ⟨rfl, BW.out.trans bu⟩
end Go.Proofs.YtcifjdnmnmmhoaaDoor
