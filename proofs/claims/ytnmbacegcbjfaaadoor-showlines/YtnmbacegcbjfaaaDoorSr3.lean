/- Records as lines: the document's Lines and Same. -/
import Derived.Test.YtnmbacegcbjfaaaDoorRows
import Derived.Test.YtnmbacegcbjfaaaDoorSr1
import Derived.Test.YtnmbacegcbjfaaaDoorSj
import Derived.Deep.RegionLaw
import Derived.WalkKit
import Derived.ProofKit
import Derived.OpenShut
import Derived.BigQuiet
import Derived.WalkSmall
import Derived.WalkSpells
namespace Go.Proofs.YtnmbacegcbjfaaaDoor
open Go.ChangeShapes Go.WideShapes Go.ChangeAt Go.RowKit
open Wd Mm
set_option linter.unusedVariables false
set_option linter.unusedSimpArgs false
set_option maxRecDepth 100000

open Sv

set_option maxHeartbeats 4000000 in
theorem rrlines_any (Y : List Sv.R) (hw : ∀ r ∈ Y, r.wf) (a : Option Addr) (n cap : Nat) (w : World) (hr : LRow rlay w (.slice a n cap) Y) (hn : Y.length = n) (hl : n ≤ 1000) :
    Calls Tryd.prog 11 #[.slice a n cap] w fun e w' => ∃ v, e = .returned v ∧ OG str 9 w w' v (Y.map rl) := by
  have HR : Hid (LRow rlay w (.slice a n cap) Y) := hr
  have HN : Hid (Y.length = n) := hn
  have HW : Hid (∀ r ∈ Y, r.wf) := hw
  have O0 : Hid (OG str 9 w w (.slice none 0 0) ((Y.take 0).map rl)) := og_start str 9 w
  have hl2 : (n : Int) ≤ 1000 := by omega
  clear hr hn hw hl
  go_enter Tryd.func11, Tryd.ntmps11
  go_wp2
  go_loopw [3, 4] (fun v i wr => ∃ k : Nat, (k : Int) ≤ n ∧ i = .int .i64 k ∧ Hid (OG str 9 w wr v ((Y.take k).map rl))) (fun _ i _ => n - (intOf i).toNat)
  case atStart => exact ⟨0, by omega, rfl, O0⟩
  case round =>
    obtain ⟨k, hk, rfl, G⟩ := hrel
    by_cases h : (k : Int) < n
    · have hkE : k < Y.length := by rw [HN.out]; omega
      obtain ⟨b0, off, rfl, hlt, hA⟩ := lrow_cell (HR.out.below G.out.bel) hkE
      have hE : Y.getD k rlay.z = Y[k] := by rw [List.getD_eq_getElem?_getD, List.getElem?_eq_getElem hkE]; rfl
      rw [hE] at hA
      have HEw := HW.out Y[k] (List.getElem_mem hkE)
      have hs2 : (Y.take (k + 1)).map rl = (Y.take k).map rl ++ [rl Y[k]] := by rw [take_next Y k hkE, List.map_append]; rfl
      have SZ : Hid (((Y.take k).map rl).length ≤ 100000) := by show _ ≤ _; rw [List.length_map, List.length_take]; omega
      have a0 : wr.cell? ⟨b0, off + k * 5, none⟩ = some (.int .i64 Y[k].k) := hA 0 (by decide)
      have a1 : wr.cell? ⟨b0, off + k * 5 + 1, none⟩ = some (.int .i64 Y[k].c) := hA 1 (by decide)
      have a2 : wr.cell? ⟨b0, off + k * 5 + 2, none⟩ = some (.int .i64 Y[k].i) := hA 2 (by decide)
      have a3 : wr.cell? ⟨b0, off + k * 5 + 3, none⟩ = some (.int .i64 Y[k].n) := hA 3 (by decide)
      have a4 : wr.cell? ⟨b0, off + k * 5 + 4, none⟩ = some (.int .i64 Y[k].y) := hA 4 (by decide)
      generalize Y[k] = E at *
      have CL : Hid (∀ _ : Unit, _) := fun _ => rrline_any E HEw wr
      obtain ⟨vv, cc, hv⟩ := G.out.shape
      have TK : Hid ((Y.take (k + 1)).map rl = (Y.take k).map rl ++ [rl E]) := hs2
      generalize rl E = L1 at *
      obtain ⟨k2, c2, i2, n2, y2⟩ := E
      dsimp only [R.vals] at *
      clear hA hE HEw hs2 hkE hlt
      go_wp2_with fail
      refine (CL.out ()).mono ?_
      rintro e u ⟨rfl, bu⟩
      obtain ⟨v', w2, hrun, G2⟩ := str_app L1 G.out bu SZ.out
      rw [← TK.out] at G2
      have R2 : Hid _ := hrun
      have G3 : Hid _ := G2
      clear hrun G2 bu hv CL
      go_wp2_with (at_builtin; refine wpList_rung rfl (.tmp 11) (.tmp 17) 30 rfl rfl rfl R2.out ?_)
      go_roundw
      case rel => exact ⟨k + 1, by omega, by go_num, G3⟩
      case measure => simp [intOf]; omega
    · obtain rfl : k = n := by omega
      have G1 := G.out
      rw [show Y.take k = Y by rw [← HN.out]; exact List.take_length] at G1
      have G2 : Hid _ := G1
      obtain ⟨a1, c1, hv⟩ := G1.shape
      clear G G1 hv
      go_wp2
      go_ret
      exact ⟨_, rfl, G2.out⟩

set_option maxHeartbeats 4000000 in
theorem rrsame_any (Y : List (List UInt8)) (u v : Value) (w : World) (hl : (Y.length : Int) ≤ 1000) (hu : ORow str w u Y) (hv : ORow str w v Y) :
    Calls Tryd.prog 9 #[u, v] w fun e w' => e = .returned (.bool true) ∧ Sm w' w := by
  obtain ⟨a, cap, rfl⟩ := hu.shape
  obtain ⟨a2, cap2, rfl⟩ := hv.shape
  have HU : Hid (ORow str w (.slice a Y.length cap) Y) := hu
  have HV : Hid (ORow str w (.slice a2 Y.length cap2) Y) := hv
  obtain ⟨n, hn⟩ : ∃ n, Y.length = n := ⟨_, rfl⟩
  have HN : Hid (Y.length = n) := hn
  rw [hn] at hl HU HV ⊢
  clear hu hv hn
  go_enter Tryd.func9, Tryd.ntmps9
  go_wp2
  go_loopw [5] (fun i wr => ∃ k q : Nat, (k : Int) ≤ n ∧ wr = w.drewN q ∧ i = .int .i64 k) (fun i _ => n - (intOf i).toNat)
  case atStart => exact ⟨0, 0, by omega, rfl, rfl⟩
  case round =>
    obtain ⟨k, q, hk, rfl, rfl⟩ := hrel
    by_cases h : (k : Int) < n
    · have hkY : k < Y.length := by have := HN.out; omega
      obtain ⟨b, off, rfl, _, hA⟩ := orow_cell HU.out (List.getElem?_eq_getElem hkY)
      obtain ⟨b2, off2, rfl, _, hB⟩ := orow_cell HV.out (List.getElem?_eq_getElem hkY)
      unfold str at hA hB
      generalize Y[k] = x at *
      go_wp2
      go_quiet (fail)
      go_wp2
      go_roundw
      case rel => exact ⟨k + 1, _, by omega, rfl, by go_num⟩
      case measure => simp [intOf]; omega
    · go_wp2
      go_ret
      exact ⟨rfl, rfl, rfl, rfl, rfl⟩
end Go.Proofs.YtnmbacegcbjfaaaDoor
