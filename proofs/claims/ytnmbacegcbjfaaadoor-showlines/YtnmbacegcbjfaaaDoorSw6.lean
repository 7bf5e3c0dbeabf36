/- Records as lines: a mask as a word; a line as a record; records as lines. -/
import Derived.Test.YtnmbacegcbjfaaaDoorRows
import Derived.Test.YtnmbacegcbjfaaaDoorSw5
import Derived.Test.YtnmbacegcbjfaaaDoorWsm
import Derived.Test.YtnmbacegcbjfaaaDoorSj
import Derived.Laws.MakeOwn
import Derived.WalkKit
import Derived.ProofKit
import Derived.OpenShut
import Derived.BigQuiet
import Derived.WalkSmall
import Derived.WalkSpells
namespace Go.Proofs.YtnmbacegcbjfaaaDoor
open Go.ChangeShapes Go.WideShapes Go.ChangeAt Go.RowKit
open Wd Mm
set_option linter.unusedVariables false
set_option linter.unusedSimpArgs false
set_option maxRecDepth 100000

open Sv

set_option maxHeartbeats 2000000 in
theorem mask_any (m : Nat) (w : World) (g : GW w) (hm : m < 18446744073709551616) :
    Calls Tryd.prog 12 #[.int .u64 m] w fun e w' => e = .returned (.string (sb (cps m))) ∧ Below w.heap.size w w' := by
  have CL : Hid (∀ _ : Unit, _) := fun _ => klist_any m w hm
  have CD : Hid (∀ (u : World), Below w.heap.size w u → ∀ n, inR n → _) := fun u b n hn => ita_any n u (g.below b) hn
  have HR : Hid (∀ k, k < (ls m).length → inR ((lz m).getD k 0)) := fun k hk => by
    rw [lz_at m k hk]
    have := ls_lt m _ (List.getElem_mem hk)
    unfold inR
    omega
  have TK : Hid (∀ k, k < (ls m).length → _) := fun k hk => ls_take m k hk
  have hL := ls_le m
  have hC := cps_len m
  have hQ : Lib.join ((ls m).map fun k : Nat => Lib.itoa k) [44] = cps m := rfl
  have LZ : (lz m).length = (ls m).length := lz_len m
  have TE : (ls m).take (ls m).length = ls m := List.take_length
  generalize hq : (fun k : Nat => Lib.itoa (k : Int)) = F at *
  generalize cps m = Q at *
  generalize lz m = Z at *
  generalize ls m = Y at *
  obtain ⟨N, hN⟩ : ∃ N, Y.length = N := ⟨_, rfl⟩
  have HN : Hid (Y.length = N) := hN
  have HQ : Hid (Lib.join (Y.map F) [44] = Q) := hQ
  have HZ : Hid (Z.length = N) := by rw [← hN]; exact LZ
  have HT : Hid (Y.take N = Y) := by rw [← hN]; exact TE
  have HC : Hid (Q.length ≤ 192) := hC
  rw [hN] at hL HR TK
  clear g hm hq hQ LZ TE hN hC
  go_enter Tryd.func12, Tryd.ntmps12
  go_wp2_with fail
  refine (CL.out ()).mono ?_
  rintro e w1 ⟨v, rfl, rw1, b1⟩
  obtain ⟨a, cap, rfl⟩ := rw1.shape
  have RW : Hid (Row w1 (.slice a Z.length cap) Z) := rw1
  have B1 : Hid (Below w.heap.size w w1) := b1
  have O0 : Hid (OG str 9 w1 w1 (.slice none 0 0) []) := og_start str 9 w1
  rw [HZ.out] at RW ⊢
  clear rw1 b1 CL
  go_wp2
  go_loopw [3, 9] (fun v i wr => ∃ k : Nat, (k : Int) ≤ N ∧ i = .int .i64 k ∧ Hid (OG str 9 w1 wr v ((Y.take k).map F))) (fun _ i _ => N - (intOf i).toNat)
  case atStart => exact ⟨0, by omega, rfl, O0⟩
  case round =>
    obtain ⟨k, hk, rfl, G⟩ := hrel
    by_cases h : (k : Int) < N
    · obtain ⟨b0, off, rfl, hc⟩ := row_cell (wr := wr) RW.out HZ.out G.out.bel h
      have DR := HR.out k (by omega)
      have TK1 : Hid _ := TK.out k (by omega)
      generalize Z.getD k 0 = x at *
      have CD1 : Hid (∀ _ : Unit, _) := fun _ => CD.out wr (B1.out.trans (G.out.bel.mono B1.out.size)) x DR
      have SZ : Hid (((Y.take k).map F).length ≤ 100000) := by show _ ≤ _; rw [List.length_map, List.length_take]; omega
      obtain ⟨vv, cc, hv⟩ := G.out.shape
      clear DR
      go_wp2_with fail
      refine (CD1.out ()).mono ?_
      rintro e u1 ⟨rfl, bu⟩
      obtain ⟨v', w2, hrun, G2⟩ := str_app (Lib.itoa x) G.out bu SZ.out
      rw [← TK1.out] at G2
      have R2 : Hid _ := hrun
      have G3 : Hid _ := G2
      clear hrun G2 bu hv
      go_wp2_with (at_builtin; refine wpList_rung rfl (.tmp 13) (.tmp 16) 30 rfl rfl rfl R2.out ?_)
      go_roundw
      case rel => exact ⟨k + 1, by omega, by go_num, G3⟩
      case measure => simp [intOf]; omega
    · obtain rfl : k = N := by omega
      have G1 := G.out
      rw [HT.out] at G1
      have CJ : Hid (∀ _ : Unit, _) := fun _ => join_any G1 (Below.refl _ _) (by rw [List.length_map, HN.out]; omega) (by rw [HQ.out]; have := HC.out; omega)
      rw [HQ.out] at CJ
      have BB : Hid (Below w.heap.size w wr) := B1.out.trans (G.out.bel.mono B1.out.size)
      clear G1 G
      go_wp2_with fail
      refine (CJ.out ()).mono ?_
      rintro e u1 ⟨rfl, bu⟩
      go_wp2
      go_ret
      exact ⟨rfl, BB.out.trans (bu.mono BB.out.size)⟩

theorem bk_ret {w : World} {z : Nat} {x : Sv.R} {y : Int} {tmps : Array Value} (h : Blk w z (R.vals x) 28) (h1 : tmps.getD 2 undef = .pointer (some ⟨z, 0, none⟩)) (h2 : tmps.getD 3 undef = .int .i64 y) :
    (results Tryd.f14 tmps).run Tryd.prog w = .ok (.tuple #[.agg (R.vals x).toArray, .int .i64 y]) w := by
  have h1' : tmps[2]?.getD undef = .pointer (some ⟨z, 0, none⟩) := by simpa using h1
  have h2' : tmps[3]?.getD undef = .int .i64 y := by simpa using h2
  have L1 := run_loadVar_row (P := Tryd.prog) w z 28 28 (R.vals x).toArray (0, 0) _ h Tryd.underlying28 rfl (by rw [size_rec]; rfl)
  simp [results, Tryd.results14, h1', h2', asAddr, L1, Result.andThen, Sem.run_bind]

set_option maxHeartbeats 4000000 in
theorem back_any (s : List UInt8) (hs : s.length ≤ 1000) (w : World) (g : GW w) :
    Calls Tryd.prog 14 #[.string (sb s)] w fun e w' => e = .returned (bkR s) ∧ Below w.heap.size w w' := by
  have KZ : Hid (Blk (w.alloc (.cells (R.vals R0).toArray 28)) w.heap.size (R.vals R0) 28) := Blk.new w _ _
  have BZ : Hid (Below w.heap.size w (w.alloc (.cells (R.vals R0).toArray 28))) := (Below.refl _ _).alloc (Nat.le_refl _) _
  have CR : Hid (∀ u, Below w.heap.size w u → _) := fun u b => read_any s hs u (g.below b)
  have HG : Hid (GW w) := g
  have e0 : rdR s = match rd s with | some r => .tuple #[.agg (R.vals r).toArray, .bool true] | none => .tuple #[.agg (R.vals R0).toArray, .bool false] := rfl
  have b0 : bkp s = (rd s).bind fun r => if rl r = s then some r else none := rfl
  cases hr : rd s with
  | none =>
    rw [hr] at e0 b0
    have e1 := bkR_none b0
    rw [e1]
    rw [e0] at CR
    dsimp only [R.vals, R0] at KZ BZ CR
    clear e0 b0 hr e1 g hs HG
    go_enter Tryd.func14, Tryd.ntmps14
    go_wp2_with fail
    refine (CR.out _ BZ.out).mono ?_
    rintro e u ⟨rfl, bu⟩
    have Q0 : Hid (QS w (u.alloc (.cells (R.vals R0).toArray 28)) u.heap.size R0) := by
      have z1 : Blk u w.heap.size (R.vals R0) 28 := Blk.keep KZ.out (Fr.of_below bu) (Blk.lt KZ.out) (by simp)
      have b1 : Below w.heap.size w u := Below.trans BZ.out (bu.mono (by simp))
      exact ⟨z1.alloc _, Blk.new u _ _, b1.alloc b1.size _, z1.lt⟩
    dsimp only [R.vals, R0] at Q0
    have z0 := Q0.out.z.cell 0
    have z1 := Q0.out.z.cell 1
    have z2 := Q0.out.z.cell 2
    have z3 := Q0.out.z.cell 3
    have z4 := Q0.out.z.cell 4
    have f0 := Q0.out.z.free 0
    have f1 := Q0.out.z.free 1
    have f2 := Q0.out.z.free 2
    have f3 := Q0.out.z.free 3
    have f4 := Q0.out.z.free 4
    simp only [R.vals, R0, List.getElem?_cons_zero, List.getElem?_cons_succ] at z0 z1 z2 z3 z4
    clear bu KZ BZ CR
    go_wp2
    exact bodyPost_ret (bk_ret (x := R0) (Q0.out.fin R0).1 rfl rfl) rfl ⟨rfl, (Q0.out.fin R0).2⟩
  | some r =>
    rw [hr] at e0 b0
    rw [e0] at CR
    have hw := (rd_wf hr).1
    have CL : Hid (∀ u, Below w.heap.size w u → _) := fun u b => line_any r hw u (g.below b)
    by_cases he : rl r = s
    · rw [Option.bind_some, if_pos he] at b0
      have e1 := bkR_some b0
      rw [e1]
      have q1 : (rl r == s) = true := by rw [beq_iff_eq]; exact he
      have q2 : ¬ (rl r ≠ s) := by simpa using he
      generalize rl r = Z at *
      obtain ⟨k2, c2, i2, n2, y2⟩ := r
      dsimp only [R.vals, R0] at KZ BZ CR CL ⊢
      clear e0 b0 hr e1 g hs HG he hw
      go_enter Tryd.func14, Tryd.ntmps14
      go_wp2_with fail
      refine (CR.out _ BZ.out).mono ?_
      rintro e u ⟨rfl, bu⟩
      have Q0 : Hid (QS w (u.alloc (.cells (R.vals ⟨k2, c2, i2, n2, y2⟩).toArray 28)) u.heap.size ⟨k2, c2, i2, n2, y2⟩) := by
        have z1 : Blk u w.heap.size (R.vals R0) 28 := Blk.keep KZ.out (Fr.of_below bu) (Blk.lt KZ.out) (by simp)
        have b1 : Below w.heap.size w u := Below.trans BZ.out (bu.mono (by simp))
        exact ⟨z1.alloc _, Blk.new u _ _, b1.alloc b1.size _, z1.lt⟩
      dsimp only [R.vals] at Q0
      clear bu KZ BZ CR
      go_wp2_with fail
      refine (CL.out _ Q0.out.be).mono ?_
      rintro e v ⟨rfl, bv⟩
      have Q1 : Hid (QS w v u.heap.size ⟨k2, c2, i2, n2, y2⟩) := Q0.out.up bv
      have z0 : v.cell? ⟨w.heap.size, 0, none⟩ = some (.int .i64 0) := Q1.out.z.cell 0
      have z1 : v.cell? ⟨w.heap.size, 1, none⟩ = some (.int .i64 0) := Q1.out.z.cell 1
      have z2 : v.cell? ⟨w.heap.size, 2, none⟩ = some (.int .i64 0) := Q1.out.z.cell 2
      have z3 : v.cell? ⟨w.heap.size, 3, none⟩ = some (.int .i64 0) := Q1.out.z.cell 3
      have z4 : v.cell? ⟨w.heap.size, 4, none⟩ = some (.int .i64 0) := Q1.out.z.cell 4
      have f0 : v.frozen? ⟨w.heap.size, 0, none⟩ = false := Q1.out.z.free 0
      have f1 : v.frozen? ⟨w.heap.size, 1, none⟩ = false := Q1.out.z.free 1
      have f2 : v.frozen? ⟨w.heap.size, 2, none⟩ = false := Q1.out.z.free 2
      have f3 : v.frozen? ⟨w.heap.size, 3, none⟩ = false := Q1.out.z.free 3
      have f4 : v.frozen? ⟨w.heap.size, 4, none⟩ = false := Q1.out.z.free 4
      have g0 : v.cell? ⟨u.heap.size, 0, none⟩ = some (.int .i64 k2) := Q1.out.x.cell 0
      have g1 : v.cell? ⟨u.heap.size, 1, none⟩ = some (.int .i64 c2) := Q1.out.x.cell 1
      have g2 : v.cell? ⟨u.heap.size, 2, none⟩ = some (.int .i64 i2) := Q1.out.x.cell 2
      have g3 : v.cell? ⟨u.heap.size, 3, none⟩ = some (.int .i64 n2) := Q1.out.x.cell 3
      have g4 : v.cell? ⟨u.heap.size, 4, none⟩ = some (.int .i64 y2) := Q1.out.x.cell 4
      clear bv Q0 CL
      go_wp2
      exact bodyPost_ret (bk_ret (x := ⟨k2, c2, i2, n2, y2⟩) (Q1.out.fin ⟨k2, c2, i2, n2, y2⟩).1 rfl rfl) rfl ⟨rfl, (Q1.out.fin ⟨k2, c2, i2, n2, y2⟩).2⟩
    · rw [Option.bind_some, if_neg he] at b0
      have e1 := bkR_none b0
      rw [e1]
      have q1 : (rl r == s) = false := by rw [beq_eq_false_iff_ne]; exact he
      have q2 : ¬ (rl r = s) := he
      generalize rl r = Z at *
      obtain ⟨k2, c2, i2, n2, y2⟩ := r
      dsimp only [R.vals, R0] at KZ BZ CR CL ⊢
      clear e0 b0 hr e1 g hs HG he hw
      go_enter Tryd.func14, Tryd.ntmps14
      go_wp2_with fail
      refine (CR.out _ BZ.out).mono ?_
      rintro e u ⟨rfl, bu⟩
      have Q0 : Hid (QS w (u.alloc (.cells (R.vals ⟨k2, c2, i2, n2, y2⟩).toArray 28)) u.heap.size ⟨k2, c2, i2, n2, y2⟩) := by
        have z1 : Blk u w.heap.size (R.vals R0) 28 := Blk.keep KZ.out (Fr.of_below bu) (Blk.lt KZ.out) (by simp)
        have b1 : Below w.heap.size w u := Below.trans BZ.out (bu.mono (by simp))
        exact ⟨z1.alloc _, Blk.new u _ _, b1.alloc b1.size _, z1.lt⟩
      dsimp only [R.vals] at Q0
      clear bu KZ BZ CR
      go_wp2_with fail
      refine (CL.out _ Q0.out.be).mono ?_
      rintro e v ⟨rfl, bv⟩
      have Q1 : Hid (QS w v u.heap.size ⟨k2, c2, i2, n2, y2⟩) := Q0.out.up bv
      have z0 : v.cell? ⟨w.heap.size, 0, none⟩ = some (.int .i64 0) := Q1.out.z.cell 0
      have z1 : v.cell? ⟨w.heap.size, 1, none⟩ = some (.int .i64 0) := Q1.out.z.cell 1
      have z2 : v.cell? ⟨w.heap.size, 2, none⟩ = some (.int .i64 0) := Q1.out.z.cell 2
      have z3 : v.cell? ⟨w.heap.size, 3, none⟩ = some (.int .i64 0) := Q1.out.z.cell 3
      have z4 : v.cell? ⟨w.heap.size, 4, none⟩ = some (.int .i64 0) := Q1.out.z.cell 4
      have f0 : v.frozen? ⟨w.heap.size, 0, none⟩ = false := Q1.out.z.free 0
      have f1 : v.frozen? ⟨w.heap.size, 1, none⟩ = false := Q1.out.z.free 1
      have f2 : v.frozen? ⟨w.heap.size, 2, none⟩ = false := Q1.out.z.free 2
      have f3 : v.frozen? ⟨w.heap.size, 3, none⟩ = false := Q1.out.z.free 3
      have f4 : v.frozen? ⟨w.heap.size, 4, none⟩ = false := Q1.out.z.free 4
      have g0 : v.cell? ⟨u.heap.size, 0, none⟩ = some (.int .i64 k2) := Q1.out.x.cell 0
      have g1 : v.cell? ⟨u.heap.size, 1, none⟩ = some (.int .i64 c2) := Q1.out.x.cell 1
      have g2 : v.cell? ⟨u.heap.size, 2, none⟩ = some (.int .i64 i2) := Q1.out.x.cell 2
      have g3 : v.cell? ⟨u.heap.size, 3, none⟩ = some (.int .i64 n2) := Q1.out.x.cell 3
      have g4 : v.cell? ⟨u.heap.size, 4, none⟩ = some (.int .i64 y2) := Q1.out.x.cell 4
      clear bv Q0 CL
      go_wp2
      exact bodyPost_ret (bk_ret (x := R0) (Q1.out.fin R0).1 rfl rfl) rfl ⟨rfl, (Q1.out.fin R0).2⟩

theorem made_str (n : Nat) (hn : n ≤ 100000) (w : World) : ∃ w', (Instr.makeSlice 30 (.int .i64 0) (.int .i64 (n : Int))).run Tryd.prog w = .ok (.slice (some ⟨w.heap.size, 0, none⟩) 0 n) w' ∧ OG str 9 w w' (.slice (some ⟨w.heap.size, 0, none⟩) 0 n) [] := by
  obtain ⟨i0, hi, hz0, hz1, hz2⟩ := info_parts Tryd.infoStr
  have := run_make (P := Tryd.prog) w 30 9 i0 _ Tryd.underlying30 hi hz0 .i64 .i64 0 (n : Int) (by omega) (by omega) (by rw [hz2]; omega) (by omega)
  refine ⟨_, this, ⟨rfl, Or.inr ⟨w.heap.size, n, _, rfl, Nat.le_refl _, heap_alloc_new w _, Nat.zero_le _, by unfold maxLen; omega, ?_, ?_⟩⟩, (Below.refl _ _).alloc (Nat.le_refl _) _⟩
  · rw [hz1, size_madeCells]; simp
  · simp

set_option maxHeartbeats 4000000 in
theorem lines_any (Y : List Sv.R) (hw : ∀ r ∈ Y, r.wf) (a : Option Addr) (n cap : Nat) (w : World) (g : GW w) (hr : LRow rlay w (.slice a n cap) Y) (hn : Y.length = n) (hl : n ≤ 1000) :
    Calls Tryd.prog 10 #[.slice a n cap] w fun e w' => ∃ v, e = .returned v ∧ OG str 9 w w' v (Y.map rl) := by
  obtain ⟨w1, hm, O1⟩ := made_str n (by omega) w
  have HM : (Instr.makeSlice 30 (.int .i64 0) (.int .i64 (n : Int))).run Tryd.prog w = _ := hm
  have HR : Hid (LRow rlay w (.slice a n cap) Y) := hr
  have HN : Hid (Y.length = n) := hn
  have HW : Hid (∀ r ∈ Y, r.wf) := hw
  have HG : Hid (GW w) := g
  have O0 : Hid (OG str 9 w w1 (.slice (some ⟨w.heap.size, 0, none⟩) 0 n) ((Y.take 0).map rl)) := O1
  have hl2 : (n : Int) ≤ 1000 := by omega
  clear hm O1 hr hn hw g hl
  go_enter Tryd.func10, Tryd.ntmps10
  go_wp2
  go_loopw [3, 11] (fun v i wr => ∃ k : Nat, (k : Int) ≤ n ∧ i = .int .i64 k ∧ Hid (OG str 9 w wr v ((Y.take k).map rl))) (fun _ i _ => n - (intOf i).toNat)
  case atStart => exact ⟨0, by omega, rfl, O0⟩
  case round =>
    obtain ⟨k, hk, rfl, G⟩ := hrel
    by_cases h : (k : Int) < n
    · have hkE : k < Y.length := by rw [HN.out]; omega
      obtain ⟨b0, off, rfl, hlt, hA⟩ := lrow_cell (HR.out.below G.out.bel) hkE
      have hE : Y.getD k rlay.z = Y[k] := by rw [List.getD_eq_getElem?_getD, List.getElem?_eq_getElem hkE]; rfl
      rw [hE] at hA
      have HEw := HW.out Y[k] (List.getElem_mem hkE)
      have hs2 : (Y.take (k + 1)).map rl = (Y.take k).map rl ++ [rl Y[k]] := by rw [take_next Y k hkE, List.map_append]; rfl
      have SZ : Hid (((Y.take k).map rl).length ≤ 100000) := by show _ ≤ _; rw [List.length_map, List.length_take]; omega
      have a0 : wr.cell? ⟨b0, off + k * 5, none⟩ = some (.int .i64 Y[k].k) := hA 0 (by decide)
      have a1 : wr.cell? ⟨b0, off + k * 5 + 1, none⟩ = some (.int .i64 Y[k].c) := hA 1 (by decide)
      have a2 : wr.cell? ⟨b0, off + k * 5 + 2, none⟩ = some (.int .i64 Y[k].i) := hA 2 (by decide)
      have a3 : wr.cell? ⟨b0, off + k * 5 + 3, none⟩ = some (.int .i64 Y[k].n) := hA 3 (by decide)
      have a4 : wr.cell? ⟨b0, off + k * 5 + 4, none⟩ = some (.int .i64 Y[k].y) := hA 4 (by decide)
      generalize Y[k] = E at *
      have BV : Hid (Below wr.heap.size wr (wr.alloc (.cells (R.vals E).toArray 28))) := (Below.refl _ _).alloc (Nat.le_refl _) _
      have CL : Hid (∀ _ : Unit, _) := fun _ => line_any E HEw (wr.alloc (.cells (R.vals E).toArray 28)) ((HG.out.below G.out.bel).below BV.out)
      obtain ⟨vv, cc, hv⟩ := G.out.shape
      have TK : Hid ((Y.take (k + 1)).map rl = (Y.take k).map rl ++ [rl E]) := hs2
      generalize rl E = L1 at *
      obtain ⟨k2, c2, i2, n2, y2⟩ := E
      dsimp only [R.vals] at *
      clear hA hE HEw hs2 hkE hlt
      go_wp2_with fail
      refine (CL.out ()).mono ?_
      rintro e u ⟨rfl, bu⟩
      obtain ⟨v', w2, hrun, G2⟩ := str_app L1 G.out (Below.trans BV.out (bu.mono (by simp))) SZ.out
      rw [← TK.out] at G2
      have R2 : Hid _ := hrun
      have G3 : Hid _ := G2
      clear hrun G2 bu hv BV CL
      go_wp2_with (at_builtin; refine wpList_rung rfl (.tmp 15) (.tmp 18) 30 rfl rfl rfl R2.out ?_)
      go_roundw
      case rel => exact ⟨k + 1, by omega, by go_num, G3⟩
      case measure => simp [intOf]; omega
    · obtain rfl : k = n := by omega
      have G1 := G.out
      rw [show Y.take k = Y by rw [← HN.out]; exact List.take_length] at G1
      have G2 : Hid _ := G1
      obtain ⟨a1, c1, hv⟩ := G1.shape
      clear G G1 hv
      go_wp2
      go_ret
      exact ⟨_, rfl, G2.out⟩
end Go.Proofs.YtnmbacegcbjfaaaDoor
