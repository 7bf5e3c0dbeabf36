/- Events as lines: the document's Text and Same; the law of texts. -/
import Derived.Test.YtcifjdnmnmmhoaaDoorWd11
import Derived.Test.YtcifjdnmnmmhoaaDoorWd18
import Derived.Test.YtcifjdnmnmmhoaaDoorWd20
import Derived.BigQuiet
namespace Go.Proofs.YtcifjdnmnmmhoaaDoor
open Go.ChangeShapes Go.WideShapes Go.ChangeAt Go.RowKit
open Wd Mm
set_option linter.unusedVariables false
set_option linter.unusedSimpArgs false
set_option maxRecDepth 100000

set_option maxHeartbeats 4000000 in
theorem rtext_any (es : List V) (hw : ∀ e ∈ es, e.wf) (a : Option Addr) (n cap : Nat) (w : World) (hr : LRow vl w (.slice a n cap) es) (hn : es.length = n) :
    Calls Tryd.prog 17 #[.slice a n cap] w fun r w' => r = .returned (txtR es) ∧ Below w.heap.size w w' := by
  obtain ⟨R, hR⟩ : ∃ R, txtR es = R := ⟨_, rfl⟩
  by_cases h6 : 600 < es.length
  · have h7 : (600 : Int) < (n : Int) := by omega
    obtain rfl : R = .tuple #[.string (sb []), .int .i64 15] := by rw [← hR]; exact if_pos h6
    rw [hR]
    clear hR h6 hr hw hn
    go_enter Tryd.func17, Tryd.ntmps17
    go_wp2
    go_ret2
    exact ⟨rfl, Below.refl _ _⟩
  · have h7 : ¬ (600 : Int) < (n : Int) := by omega
    have h8 : decide ((600 : Int) < (n : Int)) = false := decide_eq_false h7
    have h9 : (n : Int) ≤ 600 := by omega
    have RS : Hid ((∀ t, txt es = some t → R = .tuple #[.string (sb t), .int .i64 0]) ∧ (txt es = none → R = .tuple #[.string (sb []), .int .i64 2])) := by
      show _ ∧ _
      rw [← hR]
      unfold txtR
      rw [if_neg h6]
      exact ⟨fun t h => by rw [h], fun h => by rw [h]⟩
    rw [hR]
    have HR : Hid (LRow vl w (.slice a n cap) es) := hr
    have HN : Hid (es.length = n) := hn
    have HW : Hid (∀ e ∈ es, e.wf) := hw
    have B0 : Hid (Below w.heap.size w w) := Below.refl _ _
    clear hR h6 hr hw hn
    go_enter Tryd.func17, Tryd.ntmps17
    go_wp2
    go_loopw [4, 5] (fun s i wr => ∃ (k : Nat) (t : List UInt8), (k : Int) ≤ n ∧ s = .string (sb t) ∧ i = .int .i64 k ∧ Hid (txt (es.take k) = some t) ∧ Hid (Below w.heap.size w wr) ∧ t.length ≤ 301 * k) (fun _ i _ => n - (intOf i).toNat)
    case atStart => exact ⟨0, [], by omega, rfl, rfl, rfl, B0.out, by simp⟩
    case round =>
      obtain ⟨k, t, hk, rfl, rfl, ht, BW, hlen⟩ := hrel
      by_cases h : (k : Int) < n
      · have hkE : k < es.length := by rw [HN.out]; omega
        obtain ⟨b0, off, rfl, hlt, hA⟩ := lrow_cell (HR.out.below BW.out) hkE
        have hE : es.getD k vl.z = es[k] := by rw [List.getD_eq_getElem?_getD, List.getElem?_eq_getElem hkE]; rfl
        rw [hE] at hA
        have HEw := HW.out es[k] (List.getElem_mem hkE)
        have hs := split_next es k hkE
        have hs2 := take_next es k hkE
        have a0 : wr.cell? ⟨b0, off + k * 5, none⟩ = some (.int .i64 es[k].k) := hA 0 (by decide)
        have a1 : wr.cell? ⟨b0, off + k * 5 + 1, none⟩ = some (.int .i64 es[k].c) := hA 1 (by decide)
        have a2 : wr.cell? ⟨b0, off + k * 5 + 2, none⟩ = some (.int .i64 es[k].i) := hA 2 (by decide)
        have a3 : wr.cell? ⟨b0, off + k * 5 + 3, none⟩ = some (.int .u64 ((es[k].m : Nat) : Int)) := hA 3 (by decide)
        have a4 : wr.cell? ⟨b0, off + k * 5 + 4, none⟩ = some (.int .i64 es[k].n) := hA 4 (by decide)
        generalize es[k] = E at *
        have CL := rline_any E HEw wr
        cases hl : lineOf E with
        | none =>
          rw [lineR_none hl] at CL
          have C1 : Hid (∀ _ : Unit, _) := fun _ => CL
          obtain rfl := RS.out.2 (by rw [hs]; exact txt_none hl)
          dsimp only [V.vals] at C1
          clear CL hA hE hs hs2 hl HEw hkE hlt
          go_wp2_with fail
          refine (C1.out ()).mono ?_
          rintro e u ⟨rfl, bu⟩
          go_wp2
          go_ret2
          exact ⟨rfl, BW.out.trans (bu.mono BW.out.size)⟩
        | some l =>
          rw [lineR_some hl] at CL
          have C1 : Hid (∀ _ : Unit, _) := fun _ => CL
          have hll := (line_len E HEw l hl).1
          obtain ⟨S, hS⟩ : ∃ S, t ++ l = S := ⟨_, rfl⟩
          have hSl : S.length = t.length + l.length := by rw [← hS]; simp
          have T2 : Hid (txt (es.take (k + 1)) = some (S ++ [10])) := by
            show _ = _
            rw [hs2, txt_snoc, ht.out, hl, ← hS]
            simp
          have A1 : ∀ W, (Op.stringOp .add (sb t) (sb l)).run Tryd.prog W = .ok (.string (sb S)) W := fun W => by rw [← hS]; exact add_str t l (by omega) W
          have A2 : ∀ W, (Op.stringOp .add (sb S) (sb [10])).run Tryd.prog W = .ok (.string (sb (S ++ [10]))) W := fun W => add_str S [10] (by simp; omega) W
          have hl3 : (S ++ [10]).length ≤ 301 * (k + 1) := by simp; omega
          dsimp only [V.vals] at C1
          clear CL hA hE hs hs2 hl HEw hkE hlt hS hSl
          go_wp2_with fail
          refine (C1.out ()).mono ?_
          rintro e u ⟨rfl, bu⟩
          have B2 : Hid (Below w.heap.size w u) := BW.out.trans (bu.mono BW.out.size)
          clear bu C1
          go_wp2
          go_roundw
          case rel => exact ⟨k + 1, _, by omega, rfl, by go_num, T2, B2, hl3⟩
          case measure => simp [intOf]; omega
      · obtain rfl : k = n := by omega
        have hte := ht.out
        rw [show es.take k = es by rw [← HN.out]; exact List.take_length] at hte
        obtain rfl := RS.out.1 t hte
        clear hte ht RS
        go_wp2
        go_ret2
        exact ⟨rfl, BW.out⟩

set_option maxHeartbeats 4000000 in
theorem rsame_any (Y : List V) (u v : Value) (w : World) (hl : (Y.length : Int) ≤ 1000) (hu : LRow vl w u Y) (hv : LRow vl w v Y) :
    Calls Tryd.prog 19 #[u, v] w fun e w' => e = .returned (.bool true) ∧ Sm w' w := by
  obtain ⟨a, cap, rfl⟩ := hu.shape
  obtain ⟨a2, cap2, rfl⟩ := hv.shape
  have HU : Hid (LRow vl w (.slice a Y.length cap) Y) := hu
  have HV : Hid (LRow vl w (.slice a2 Y.length cap2) Y) := hv
  obtain ⟨n, hn⟩ : ∃ n, Y.length = n := ⟨_, rfl⟩
  have HN : Hid (Y.length = n) := hn
  rw [hn] at hl HU HV ⊢
  clear hu hv hn
  go_enter Tryd.func19, Tryd.ntmps19
  go_wp2
  go_loopw [5] (fun i wr => ∃ k q : Nat, (k : Int) ≤ n ∧ wr = w.drewN q ∧ i = .int .i64 k) (fun i _ => n - (intOf i).toNat)
  case atStart => exact ⟨0, 0, by omega, rfl, rfl⟩
  case round =>
    obtain ⟨k, q, hk, rfl, rfl⟩ := hrel
    by_cases h : (k : Int) < n
    · obtain ⟨b, off, rfl, _, hA⟩ := lrow_cell HU.out (k := k) (by have := HN.out; omega)
      obtain ⟨b2, off2, rfl, _, hB⟩ := lrow_cell HV.out (k := k) (by have := HN.out; omega)
      generalize Y.getD k vl.z = x at *
      have c0 : w.cell? ⟨b, off + k * 5, none⟩ = some (.int .i64 x.k) := hA 0 (by decide)
      have c1 : w.cell? ⟨b, off + k * 5 + 1, none⟩ = some (.int .i64 x.c) := hA 1 (by decide)
      have c2 : w.cell? ⟨b, off + k * 5 + 2, none⟩ = some (.int .i64 x.i) := hA 2 (by decide)
      have c3 : w.cell? ⟨b, off + k * 5 + 3, none⟩ = some (.int .u64 ((x.m : Nat) : Int)) := hA 3 (by decide)
      have c4 : w.cell? ⟨b, off + k * 5 + 4, none⟩ = some (.int .i64 x.n) := hA 4 (by decide)
      have d0 : w.cell? ⟨b2, off2 + k * 5, none⟩ = some (.int .i64 x.k) := hB 0 (by decide)
      have d1 : w.cell? ⟨b2, off2 + k * 5 + 1, none⟩ = some (.int .i64 x.c) := hB 1 (by decide)
      have d2 : w.cell? ⟨b2, off2 + k * 5 + 2, none⟩ = some (.int .i64 x.i) := hB 2 (by decide)
      have d3 : w.cell? ⟨b2, off2 + k * 5 + 3, none⟩ = some (.int .u64 ((x.m : Nat) : Int)) := hB 3 (by decide)
      have d4 : w.cell? ⟨b2, off2 + k * 5 + 4, none⟩ = some (.int .i64 x.n) := hB 4 (by decide)
      clear hA hB
      go_wp2
      go_quiet (fail)
      go_wp2
      go_roundw
      case rel => exact ⟨k + 1, _, by omega, rfl, by go_num⟩
      case measure => simp [intOf]; omega
    · go_wp2
      go_ret
      exact ⟨rfl, rfl, rfl, rfl, rfl⟩
end Go.Proofs.YtcifjdnmnmmhoaaDoor
