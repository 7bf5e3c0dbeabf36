/- Events as lines: a mask as a word, and back. -/
import Derived.Test.YtcifjdnmnmmhoaaDoorRows
import Derived.Test.YtcifjdnmnmmhoaaDoorWd1
import Derived.Test.YtcifjdnmnmmhoaaDoorWd2
import Derived.Test.YtcifjdnmnmmhoaaDoorLw
import Derived.WalkKit
import Derived.ProofKit
import Derived.OpenShut
import Derived.BigQuiet
import Derived.WalkSmall
import Derived.WalkSpells
namespace Go.Proofs.YtcifjdnmnmmhoaaDoor
open Go.ChangeShapes Go.WideShapes Go.ChangeAt Go.RowKit
open Wd Mm
set_option linter.unusedVariables false
set_option linter.unusedSimpArgs false
set_option maxRecDepth 100000

/-- A text as a value. -/
def str (l : List UInt8) : Value := .string (sb l)
theorem Tryd.infoStr : (Tryd.prog.info? 9).map (fun i => (i.zero, i.size, i.bytes)) = some (some (.string ByteArray.empty), 1, 16) := by kernel_rfl

theorem str_app {w wr u : World} {v : Value} {xs : List (List UInt8)} (x : List UInt8) (g : OG str 9 w wr v xs) (b : Below wr.heap.size wr u) (hl : xs.length ≤ 100000) :
    ∃ v' w2, (Builtin.append_ #[52, 52] 52 #[v, .slice (some ⟨u.heap.size, 0, none⟩) 1 1]).run Tryd.prog (u.alloc (.cells #[.string (sb x)] 9)) = .ok v' w2 ∧ OG str 9 w w2 v' (xs ++ [x]) := by
  obtain ⟨i0, hi, hz0, hz1, hz2⟩ := info_parts Tryd.infoStr
  exact og_app 9 52 52 i0 (.string ByteArray.empty) 16 Tryd.underlying52 hi hz0 hz1 hz2 rfl (fun _ => rfl) g (b.alloc b.size _) (orow_new (c := str) u [x] 9 1 1 rfl) (fun a cap h => by simp at h) (by simp only [List.length_singleton, maxLen]; omega) (by simp only [List.length_singleton]; omega)

/-- What a loop has gathered, joined. -/
theorem join_any {w wr u : World} {v : Value} {xs : List (List UInt8)} (g : OG str 9 w wr v xs) (b : Below wr.heap.size wr u) (hl : xs.length ≤ 100000) (hj : (Lib.join xs [44]).length ≤ 140737488355328) :
    Calls Tryd.prog 46 #[v, .string (sb [44])] u fun e w' => e = .returned (.string (sb (Lib.join xs [44]))) ∧ Below u.heap.size u w' := by
  have r := (g.keep b).row
  rcases r with ⟨rfl, a, cap, rfl⟩ | ⟨bk, off, cap, rfl, hlt, hc⟩
  · refine (Tryd.strings_Join_none a cap (sb [44]) u).mono ?_
    rintro e w' ⟨rfl, rfl⟩
    exact ⟨rfl, Below.refl _ _⟩
  · have hx : ((xs.map sb).map fun x : ByteArray => x.data.toList) = xs := by
      rw [List.map_map]
      conv => rhs; rw [← List.map_id xs]
      exact List.map_congr_left fun x _ => rfl
    have hcap : xs.length ≤ cap := by
      have o := g.own
      rcases o.2 with ⟨hv, hn⟩ | ⟨b', cap', cur, hv, hb, hh, hn, hc', hz, ht⟩
      · rw [hn]; omega
      · simp only [Value.slice.injEq] at hv
        rw [hv.2.2]
        omega
    have := Tryd.strings_Join bk off cap (xs.map sb) (sb [44]) u (fun j x hj => by
      rw [List.getElem?_map] at hj
      cases hq : xs[j]? with
      | none => rw [hq] at hj; cases hj
      | some y =>
        rw [hq] at hj
        have hjl : j < xs.length := by
          rcases Nat.lt_or_ge j xs.length with h | h
          · exact h
          · rw [List.getElem?_eq_none h] at hq; cases hq
        rw [hc j hjl, hq]
        simp only [Option.map_some] at hj ⊢
        rw [← Option.some.inj hj]
        rfl) hlt (by simp; omega) (by simpa using hcap) (by rw [hx]; exact hj)
    rw [List.length_map, hx] at this
    refine this.mono ?_
    rintro e w' ⟨rfl, bb⟩
    exact ⟨rfl, bb⟩

theorem lz_at (m k : Nat) (h : k < (ls m).length) : (lz m).getD k 0 = (((ls m)[k] : Nat) : Int) := by
  rw [lz_get, List.getD_eq_getElem?_getD, List.getElem?_eq_getElem h]
  rfl
theorem ls_take (m k : Nat) (h : k < (ls m).length) : ((ls m).take (k + 1)).map (fun k : Nat => Lib.itoa k) = ((ls m).take k).map (fun k : Nat => Lib.itoa k) ++ [Lib.itoa ((lz m).getD k 0)] := by
  rw [lz_at m k h, List.take_add_one, List.getElem?_eq_getElem h, List.map_append]
  rfl

set_option maxHeartbeats 2000000 in
theorem cpus_any (m : Nat) (w : World) (g : GW w) (hm : m < 18446744073709551616) :
    Calls Tryd.prog 35 #[.int .u64 m] w fun e w' => e = .returned (.string (sb (cps m))) ∧ Below w.heap.size w w' := by
  have CL : Hid (∀ _ : Unit, _) := fun _ => klist_any m w hm
  have CD : Hid (∀ (u : World), Below w.heap.size w u → ∀ n, inR n → _) := fun u b n hn => dec_any n u (g.below b) hn
  have HR : Hid (∀ k, k < (ls m).length → inR ((lz m).getD k 0)) := fun k hk => by
    rw [lz_at m k hk]
    have := ls_lt m _ (List.getElem_mem hk)
    unfold inR
    omega
  have TK : Hid (∀ k, k < (ls m).length → _) := fun k hk => ls_take m k hk
  have hL := ls_le m
  have hC := cps_len m
  have hQ : Lib.join ((ls m).map fun k : Nat => Lib.itoa k) [44] = cps m := rfl
  have LZ : (lz m).length = (ls m).length := lz_len m
  have TE : (ls m).take (ls m).length = ls m := List.take_length
  generalize hq : (fun k : Nat => Lib.itoa (k : Int)) = F at *
  generalize cps m = Q at *
  generalize lz m = Z at *
  generalize ls m = Y at *
  obtain ⟨N, hN⟩ : ∃ N, Y.length = N := ⟨_, rfl⟩
  have HN : Hid (Y.length = N) := hN
  have HQ : Hid (Lib.join (Y.map F) [44] = Q) := hQ
  have HZ : Hid (Z.length = N) := by rw [← hN]; exact LZ
  have HT : Hid (Y.take N = Y) := by rw [← hN]; exact TE
  have HC : Hid (Q.length ≤ 192) := hC
  rw [hN] at hL HR TK
  clear g hm hq hQ LZ TE hN hC
  go_enter Tryd.func35, Tryd.ntmps35
  go_wp2_with fail
  refine (CL.out ()).mono ?_
  rintro e w1 ⟨v, rfl, rw1, b1⟩
  obtain ⟨a, cap, rfl⟩ := rw1.shape
  have RW : Hid (Row w1 (.slice a Z.length cap) Z) := rw1
  have B1 : Hid (Below w.heap.size w w1) := b1
  have O0 : Hid (OG str 9 w1 w1 (.slice none 0 0) []) := og_start str 9 w1
  rw [HZ.out] at RW ⊢
  clear rw1 b1 CL
  go_wp2
  go_loopw [3, 9] (fun v i wr => ∃ k : Nat, (k : Int) ≤ N ∧ i = .int .i64 k ∧ Hid (OG str 9 w1 wr v ((Y.take k).map F))) (fun _ i _ => N - (intOf i).toNat)
  case atStart => exact ⟨0, by omega, rfl, O0⟩
  case round =>
    obtain ⟨k, hk, rfl, G⟩ := hrel
    by_cases h : (k : Int) < N
    · obtain ⟨b0, off, rfl, hc⟩ := row_cell (wr := wr) RW.out HZ.out G.out.bel h
      have DR := HR.out k (by omega)
      have TK1 : Hid _ := TK.out k (by omega)
      generalize Z.getD k 0 = x at *
      have CD1 : Hid (∀ _ : Unit, _) := fun _ => CD.out wr (B1.out.trans (G.out.bel.mono B1.out.size)) x DR
      have SZ : Hid (((Y.take k).map F).length ≤ 100000) := by show _ ≤ _; rw [List.length_map, List.length_take]; omega
      obtain ⟨vv, cc, hv⟩ := G.out.shape
      clear DR
      go_wp2_with fail
      refine (CD1.out ()).mono ?_
      rintro e u1 ⟨rfl, bu⟩
      obtain ⟨v', w2, hrun, G2⟩ := str_app (Lib.itoa x) G.out bu SZ.out
      rw [← TK1.out] at G2
      have R2 : Hid _ := hrun
      have G3 : Hid _ := G2
      clear hrun G2 bu hv
      go_wp2_with (at_builtin; refine wpList_rung rfl (.tmp 13) (.tmp 16) 52 rfl rfl rfl R2.out ?_)
      go_roundw
      case rel => exact ⟨k + 1, by omega, by go_num, G3⟩
      case measure => simp [intOf]; omega
    · obtain rfl : k = N := by omega
      have G1 := G.out
      rw [HT.out] at G1
      have CJ : Hid (∀ _ : Unit, _) := fun _ => join_any G1 (Below.refl _ _) (by rw [List.length_map, HN.out]; omega) (by rw [HQ.out]; have := HC.out; omega)
      rw [HQ.out] at CJ
      have BB : Hid (Below w.heap.size w wr) := B1.out.trans (G.out.bel.mono B1.out.size)
      clear G1 G
      go_wp2_with fail
      refine (CJ.out ()).mono ?_
      rintro e u1 ⟨rfl, bu⟩
      go_wp2
      go_ret
      exact ⟨rfl, BB.out.trans (bu.mono BB.out.size)⟩
end Go.Proofs.YtcifjdnmnmmhoaaDoor
