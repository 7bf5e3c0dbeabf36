/- Contracts of the program's layers, as far as this claim needs them. -/
import Derived.Test.YtmkboahjkhkefaaGreatDoorQKnf
import Derived.Test.YtmkboahjkhkefaaGreatDoorRows
import Derived.WalkKit
import Derived.ProofKit
import Derived.OpenShut
import Derived.BigQuiet
import Derived.Deep.RegionHeld3
set_option linter.unusedVariables false
set_option linter.unusedSimpArgs false
namespace Go.Proofs.YtmkboahjkhkefaaGreatDoor.Krn
open Go.ChangeShapes Go.WideShapes Go.ChangeAt Go.RowKit
open Mm
section
variable {B : Nat} {w0 : World} {A : List (Nat × List Value × TypeId)} {a : KA} {m m' : Nat} {S S' : KS} {w w' : World}
set_option maxRecDepth 100000 in
set_option maxHeartbeats 4000000 in
theorem k_new (n : Nat) (w : World) (T : Tab w) (hs : 1 ≤ w.heap.size) (h1 : 1 ≤ n) (h2 : n ≤ 64) : Calls Tryz.prog 8 #[.int .i64 (n : Int)] w fun e w' => ∃ a, e = .returned (.tuple #[.pointer (some ⟨a.k, 0, none⟩), .int .i64 0]) ∧ a.n = n ∧ KX w.heap.size w [] a 0 (new n) w' := by
  have h0 : NB (new n) w (w.alloc (.cells #[.int .u64 (up n : Int), .int .u64 (up n : Int), .int .i64 1073741824, .pointer none, .pointer none, .pointer none, .pointer none, .pointer none, .pointer none, .pointer none, .pointer none, .pointer none, .pointer (some ⟨w.heap.size + 1, 0, none⟩), .pointer none, .pointer (some ⟨w.heap.size + 1 + 1, 0, none⟩), .pointer none, .pointer none, .slice none 0 0] 86)) w.heap.size [.int .u64 (up n : Int), .int .u64 (up n : Int), .int .i64 1073741824, .pointer none, .pointer none, .pointer none, .pointer none, .pointer none, .pointer none, .pointer none, .pointer none, .pointer none, .pointer (some ⟨w.heap.size + 1, 0, none⟩), .pointer none, .pointer (some ⟨w.heap.size + 1 + 1, 0, none⟩), .pointer none, .pointer none, .slice none 0 0] [] := ⟨Blk.new w [.int .u64 (up n : Int), .int .u64 (up n : Int), .int .i64 1073741824, .pointer none, .pointer none, .pointer none, .pointer none, .pointer none, .pointer none, .pointer none, .pointer none, .pointer none, .pointer (some ⟨w.heap.size + 1, 0, none⟩), .pointer none, .pointer (some ⟨w.heap.size + 1 + 1, 0, none⟩), .pointer none, .pointer none, .slice none 0 0] 86, ((Fr.refl w.heap.size [] w).alloc (Nat.le_refl _) _).below (by simp), fun j hj => by simp at hj, List.Pairwise.nil, fun j hj => by simp at hj, tab_keep T hs ((Fr.refl w.heap.size [] w).alloc (Nat.le_refl _) _) (by simp), hs⟩
  have CU : Hid (∀ v, _) := fun v => kupto_any (n : Int) v
  have g0 := h0.s10 (b := w.heap.size + 1) (by simp)
  have g0 := g0.s12 (b := w.heap.size + 1 + 1) (by simp)
  clear h0
  have n1 : (1 : Int) ≤ n := by omega
  have n2 : (n : Int) ≤ 64 := by omega
  go_enter Tryz.func8, Tryz.ntmps8
  go_wp2_with fail
  refine (CU.out _).mono ?_
  rintro e w9 ⟨rfl, rfl⟩
  go_wp2_with fail
  refine (CU.out _).mono ?_
  rintro e w9 ⟨rfl, rfl⟩
  go_wp2_with fail
  refine (nw1 g0 n1 n2).mono ?_
  rintro e w1 ⟨b1, rfl, g1⟩
  have f1 : w1.frozen? ⟨w.heap.size, 3, none⟩ = false := g1.kb.free 3
  have c1 : w1.cell? ⟨w.heap.size, 3, none⟩ = some (.pointer none) := g1.kb.cell 3
  have g1 := g1.set 3 (.pointer (some ⟨b1 + 2, 0, none⟩))
  go_wp2_with fail
  refine (nw2 g1 n1 n2).mono ?_
  rintro e w2 ⟨b2, rfl, g2⟩
  have f2 : w2.frozen? ⟨w.heap.size, 4, none⟩ = false := g2.kb.free 4
  have c2 : w2.cell? ⟨w.heap.size, 4, none⟩ = some (.pointer none) := g2.kb.cell 4
  have g2 := g2.set 4 (.pointer (some ⟨b2 + 2, 0, none⟩))
  go_wp2_with fail
  refine (nw3 g2 n1 n2).mono ?_
  rintro e w3 ⟨b3, F3, rfl, g3⟩
  have f3 : w3.frozen? ⟨w.heap.size, 5, none⟩ = false := g3.kb.free 5
  have c3 : w3.cell? ⟨w.heap.size, 5, none⟩ = some (.pointer none) := g3.kb.cell 5
  have g3 := g3.set 5 (.pointer (some ⟨b3, 0, none⟩))
  go_wp2_with fail
  refine (nw4 g3 n1 n2).mono ?_
  rintro e w4 ⟨b4, rfl, g4⟩
  have f4 : w4.frozen? ⟨w.heap.size, 6, none⟩ = false := g4.kb.free 6
  have c4 : w4.cell? ⟨w.heap.size, 6, none⟩ = some (.pointer none) := g4.kb.cell 6
  have g4 := g4.set 6 (.pointer (some ⟨b4, 0, none⟩))
  go_wp2_with fail
  refine (nw5 g4 n1 n2).mono ?_
  rintro e w5 ⟨b5, rfl, g5⟩
  have f5 : w5.frozen? ⟨w.heap.size, 7, none⟩ = false := g5.kb.free 7
  have c5 : w5.cell? ⟨w.heap.size, 7, none⟩ = some (.pointer none) := g5.kb.cell 7
  have g5 := g5.set 7 (.pointer (some ⟨b5, 0, none⟩))
  go_wp2_with fail
  refine (nw6 g5 n1 n2).mono ?_
  rintro e w6 ⟨b6, rfl, g6⟩
  have f6 : w6.frozen? ⟨w.heap.size, 8, none⟩ = false := g6.kb.free 8
  have c6 : w6.cell? ⟨w.heap.size, 8, none⟩ = some (.pointer none) := g6.kb.cell 8
  have g6 := g6.set 8 (.pointer (some ⟨b6 + 6, 0, none⟩))
  go_wp2_with fail
  refine (nw7 g6 n1 n2).mono ?_
  rintro e w7 ⟨b7, rfl, g7⟩
  have f7 : w7.frozen? ⟨w.heap.size, 9, none⟩ = false := g7.kb.free 9
  have c7 : w7.cell? ⟨w.heap.size, 9, none⟩ = some (.pointer none) := g7.kb.cell 9
  have g7 := g7.set 9 (.pointer (some ⟨b7 + 3, 0, none⟩))
  go_wp2_with fail
  refine (nw8 g7 n1 n2).mono ?_
  rintro e w8 ⟨b8, F8, rfl, g8⟩
  have f8 : w8.frozen? ⟨w.heap.size, 10, none⟩ = false := g8.kb.free 10
  have c8 : w8.cell? ⟨w.heap.size, 10, none⟩ = some (.pointer none) := g8.kb.cell 10
  have g8 := g8.set 10 (.pointer (some ⟨b8, 0, none⟩))
  go_wp2_with fail
  refine (nw9 g8 n1 n2).mono ?_
  rintro e w9 ⟨b9, rfl, g9⟩
  have f9 : w9.frozen? ⟨w.heap.size, 11, none⟩ = false := g9.kb.free 11
  have c9 : w9.cell? ⟨w.heap.size, 11, none⟩ = some (.pointer none) := g9.kb.cell 11
  have g9 := g9.set 11 (.pointer (some ⟨b9 + 1, 0, none⟩))
  go_wp2_with fail
  refine (nw11 g9 n1 n2).mono ?_
  rintro e w11 ⟨b11, rfl, g11⟩
  have f11 : w11.frozen? ⟨w.heap.size, 13, none⟩ = false := g11.kb.free 13
  have c11 : w11.cell? ⟨w.heap.size, 13, none⟩ = some (.pointer none) := g11.kb.cell 13
  have g11 := g11.set 13 (.pointer (some ⟨b11 + 2, 0, none⟩))
  go_wp2_with fail
  refine (nw13 g11 n1 n2).mono ?_
  rintro e w13 ⟨b13, rfl, g13⟩
  have f13 : w13.frozen? ⟨w.heap.size, 15, none⟩ = false := g13.kb.free 15
  have c13 : w13.cell? ⟨w.heap.size, 15, none⟩ = some (.pointer none) := g13.kb.cell 15
  have g13 := g13.set 15 (.pointer (some ⟨b13 + 1, 0, none⟩))
  go_wp2_with fail
  refine (nw14 g13 n1 n2).mono ?_
  rintro e w14 ⟨b14, rfl, g14⟩
  have f14 : w14.frozen? ⟨w.heap.size, 16, none⟩ = false := g14.kb.free 16
  have c14 : w14.cell? ⟨w.heap.size, 16, none⟩ = some (.pointer none) := g14.kb.cell 16
  have g14 := g14.set 16 (.pointer (some ⟨b14 + 1, 0, none⟩))
  obtain ⟨cs, J, hcs, hJ, G0⟩ := NG.start' (cs := [.int .u64 (up n : Int), .int .u64 (up n : Int), .int .i64 1073741824, .pointer (some ⟨b1 + 2, 0, none⟩), .pointer (some ⟨b2 + 2, 0, none⟩), .pointer (some ⟨b3, 0, none⟩), .pointer (some ⟨b4, 0, none⟩), .pointer (some ⟨b5, 0, none⟩), .pointer (some ⟨b6 + 6, 0, none⟩), .pointer (some ⟨b7 + 3, 0, none⟩), .pointer (some ⟨b8, 0, none⟩), .pointer (some ⟨b9 + 1, 0, none⟩), .pointer (some ⟨w.heap.size + 1, 0, none⟩), .pointer (some ⟨b11 + 2, 0, none⟩), .pointer (some ⟨w.heap.size + 1 + 1, 0, none⟩), .pointer (some ⟨b13 + 1, 0, none⟩), .pointer (some ⟨b14 + 1, 0, none⟩)]) g14
  have hl17 : cs.length = 17 := by rw [hcs]; rfl
  have CG : Hid (∀ v, _) := fun v => Frq.gnew_ok 100 1000 v ⟨by decide, by decide, by decide⟩
  have HCS : Hid (cs = [.int .u64 (up n : Int), .int .u64 (up n : Int), .int .i64 1073741824, .pointer (some ⟨b1 + 2, 0, none⟩), .pointer (some ⟨b2 + 2, 0, none⟩), .pointer (some ⟨b3, 0, none⟩), .pointer (some ⟨b4, 0, none⟩), .pointer (some ⟨b5, 0, none⟩), .pointer (some ⟨b6 + 6, 0, none⟩), .pointer (some ⟨b7 + 3, 0, none⟩), .pointer (some ⟨b8, 0, none⟩), .pointer (some ⟨b9 + 1, 0, none⟩), .pointer (some ⟨w.heap.size + 1, 0, none⟩), .pointer (some ⟨b11 + 2, 0, none⟩), .pointer (some ⟨w.heap.size + 1 + 1, 0, none⟩), .pointer (some ⟨b13 + 1, 0, none⟩), .pointer (some ⟨b14 + 1, 0, none⟩)]) := hcs
  have HJ : Hid (J = _) := hJ
  have HG0 : Hid (NG n w _ w.heap.size cs J none 0 []) := G0
  clear hcs hJ g14 G0
  go_wp2
  go_loopw [152] (fun i wr => ∃ (k : Nat) (av : Option Addr) (cv : Nat) (G : List Nat), (k : Int) ≤ n ∧ Hid (G.length = k ∧ NG n w wr w.heap.size cs J av cv G) ∧ i = .int .i64 k) (fun i _ => n - (intOf i).toNat)
  case atStart => exact ⟨0, none, 0, [], by omega, ⟨rfl, HG0.out⟩, rfl⟩
  case round =>
    obtain ⟨k, av, cv, G, hk, ng, rfl⟩ := hrel
    by_cases e : (k : Int) < n
    · go_wp2_with fail
      refine (CG.out _).mono ?_
      rintro e w5 ⟨rfl, pg, bl⟩
      obtain ⟨rfl, ng2⟩ := ng.out
      have hzl := ng2.nb.kb.lt
      have n5 := ng2.below bl
      obtain ⟨a2, c2, w6, run, d1, d2, n6⟩ := n5.app hl17 (by omega) pg ⟨hzl, fun j hj e => by have := (ng2.nb.gt j hj _ e).2; omega⟩
      have d0 := n5.cell hl17
      have N6 : Hid (NG n w (w6.setCell ⟨w.heap.size, 17, none⟩ (.slice a2 (G.length + 1) c2)) w.heap.size cs J a2 c2 (G ++ [wr.heap.size])) := n6
      clear ng ng2 n5 n6 pg bl hzl
      generalize hgl : G.length = gl at *
      have HGL : Hid (G.length = gl) := hgl
      clear hgl
      go_wp2_with (at_builtin; refine wpList_rung rfl (.tmp 163) (.tmp 165) 82 rfl rfl rfl run ?_)
      go_roundw
      case rel => exact ⟨gl + 1, a2, c2, _, by omega, ⟨by simp [HGL.out], N6.out⟩, by go_num⟩
      case measure => have := HGL.out; simp [intOf]; omega
    · go_wp2
      go_ret2
      obtain ⟨rfl, ng2⟩ := ng.out
      have en : G.length = n := by omega
      obtain ⟨gv, F, rfl, nb⟩ := ng2.done en h1
      refine ⟨⟨n, w.heap.size, b1, b2, b3, b4, b5, b6, b7, b8, b9 + 1, w.heap.size + 1, b11 + 2, w.heap.size + 1 + 1, b13 + 1, b14 + 1, gv, cv, fun i => G.getD i 0⟩, rfl, rfl, ?_⟩
      refine nb.all h1 h2 _ rfl rfl (fun j hj => ?_) 1073741824 (by rw [HCS.out]; rfl) (fun i i1 i2 => ?_)
      · rw [HJ.out] at hj
        simp only [List.mem_cons, List.not_mem_nil, or_false] at hj
        rcases hj with rfl | rfl | rfl | rfl | rfl | rfl | rfl | rfl | rfl | rfl | rfl | rfl | rfl | rfl | rfl
        · exact ⟨rfl, rfl, rfl⟩
        all_goals first | exact ⟨rfl, rfl⟩ | rfl
      · rw [HJ.out]
        simp only [List.map_cons, List.map_nil, List.mem_cons, List.not_mem_nil, or_false]
        omega
end
end Go.Proofs.YtmkboahjkhkefaaGreatDoor.Krn
