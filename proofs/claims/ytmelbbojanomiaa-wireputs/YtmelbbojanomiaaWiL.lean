/- What the program's All answers, for all events (Wi8 has the same and Read: never import both). -/
import Derived.Test.YtmelbbojanomiaaRows
import Derived.Test.YtmelbbojanomiaaWi4
import Derived.Test.YtmelbbojanomiaaWi6
import Derived.Test.YtmelbbojanomiaaWi7
import Derived.WalkKit
import Derived.ProofKit
import Derived.OpenShut
import Derived.BigQuiet
namespace Go.Proofs.Ytmelbbojanomiaa
open Go.ChangeShapes Go.WideShapes Go.ChangeAt Go.RowKit
open Wi0

/-- How events lie in memory. -/
def evy : Lay Ev where
  n := 5
  f := evL
  z := z5
  len := fun _ => rfl
  one := fun x u hu => by
    simp only [evL, List.mem_cons, List.not_mem_nil, or_false] at hu
    rcases hu with rfl | rfl | rfl | rfl | rfl <;> rfl
  pos := by decide

theorem nil_room {w wr : World} {v : Value} {xs : List Nat} (g : BG w wr v xs) : ∀ a cap, v = .slice a 0 cap → a = none → cap = 0 := fun a cap h h2 => by
  rcases g.own.2 with ⟨hv, _⟩ | ⟨b, c, cur, hv, _⟩
  · rw [hv] at h; simp only [Value.slice.injEq] at h; exact h.2.2.symm
  · rw [hv] at h; simp only [Value.slice.injEq] at h; rw [h2] at h; simp at h
theorem flat_len (Y : List Ev) : (Y.flatMap putE).length ≤ Y.length * 38 := by
  induction Y with
  | nil => simp
  | cons e r ih => rw [List.flatMap_cons, List.length_append, List.length_cons]; have := putE_len e; omega
theorem flat_take (Y : List Ev) (k : Nat) (h : k < Y.length) : (Y.take (k + 1)).flatMap putE = (Y.take k).flatMap putE ++ putE (Y.getD k z5) := by
  rw [take_one' Y z5 h, List.flatMap_append]
  simp
theorem flat_by (Y : List Ev) : ∀ x ∈ Y.flatMap putE, x < 256 := fun x hx => by
  obtain ⟨e, _, he⟩ := List.mem_flatMap.1 hx
  exact putE_by e x he

set_option maxHeartbeats 2000000 in
set_option maxRecDepth 100000 in
theorem all_any (w : World) (v : Value) (Y : List Ev) (hr : LRow evy w v Y) (ok : ∀ e ∈ Y, Eok e) (hl : (Y.length : Int) ≤ 1000) :
    Calls Try.prog 40 #[v] w fun e w' => ∃ v', e = .returned v' ∧ BG w w' v' (Y.flatMap putE) := by
  obtain ⟨a, cap, rfl⟩ := hr.shape
  have HR : Hid (LRow evy w (.slice a Y.length cap) Y) := hr
  obtain ⟨l, hn⟩ : ∃ l, Y.length = l := ⟨_, rfl⟩
  have HN : Hid (Y.length = l) := hn
  rw [hn] at hl HR ⊢
  have HK : Hid (∀ e ∈ Y, Eok e) := ok
  have G0 : Hid (BG w w (.slice none 0 0) ((Y.take 0).flatMap putE)) := og_start by8 5 w
  have GE : Hid (Y.flatMap putE = (Y.take l).flatMap putE) := by show Y.flatMap putE = (Y.take l).flatMap putE; rw [← hn, List.take_length]
  obtain ⟨AL, hAL⟩ : ∃ AL, Y.flatMap putE = AL := ⟨_, rfl⟩
  rw [hAL] at GE ⊢
  clear hr hn ok hAL
  go_enter Try.func40, Try.ntmps40
  go_wp2
  go_loopw [3, 8] (fun u i wr => ∃ k : Nat, (k : Int) ≤ l ∧ BG w wr u ((Y.take k).flatMap putE) ∧ i = .int .i64 k) (fun _ i _ => l - (intOf i).toNat)
  case atStart => exact ⟨0, by omega, G0.out, rfl⟩
  case round =>
    obtain ⟨k, hk, g, rfl⟩ := hrel
    clear G0
    by_cases q : (k : Int) < l
    · have hkl : k < Y.length := by have := HN.out; omega
      obtain ⟨b0, off, e0, _, hc⟩ := lrow_cell (HR.out.below g.bel) hkl
      subst e0
      have oke := HK.out (Y.getD k z5) (by rw [List.getD_eq_getElem?_getD, List.getElem?_eq_getElem hkl]; exact List.getElem_mem hkl)
      have NX : Hid ((Y.take (k + 1)).flatMap putE = (Y.take k).flatMap putE ++ putE (Y.getD k z5)) := flat_take Y k hkl
      have hc' : ∀ j, j < 5 → wr.cell? ⟨b0, off + k * 5 + j, none⟩ = (evL (Y.getD k z5))[j]? := hc
      generalize Y.getD k z5 = ev at *
      have c0 : wr.cell? ⟨b0, off + k * 5, none⟩ = some (.int .i64 ev.kind) := hc' 0 (by omega)
      have c1 : wr.cell? ⟨b0, off + k * 5 + 1, none⟩ = some (.int .i64 ev.cpu) := hc' 1 (by omega)
      have c2 : wr.cell? ⟨b0, off + k * 5 + 2, none⟩ = some (.int .i64 ev.id) := hc' 2 (by omega)
      have c3 : wr.cell? ⟨b0, off + k * 5 + 3, none⟩ = some (.int .u64 ev.mask) := hc' 3 (by omega)
      have c4 : wr.cell? ⟨b0, off + k * 5 + 4, none⟩ = some (.int .i64 ev.n) := hc' 4 (by omega)
      have C : Hid (∀ u, _) := fun u => put_any u ev oke
      obtain ⟨wa, hwa⟩ : ∃ wa, wr.alloc (.cells #[.int .i64 ev.kind, .int .i64 ev.cpu, .int .i64 ev.id, .int .u64 ev.mask, .int .i64 ev.n] 57) = wa := ⟨_, rfl⟩
      have HWA : Hid (wr.alloc (.cells #[.int .i64 ev.kind, .int .i64 ev.cpu, .int .i64 ev.id, .int .u64 ev.mask, .int .i64 ev.n] 57) = wa) := hwa
      have BA : Hid (Below wr.heap.size wr wa) := by show Below wr.heap.size wr wa; rw [← hwa]; exact (Below.refl _ _).alloc (Nat.le_refl _) _
      have G : Hid (BG w wr _ ((Y.take k).flatMap putE)) := g
      have TL : Hid ((((Y.take k).flatMap putE).length : Int) ≤ 100000) := by
        have := flat_len (Y.take k)
        rw [List.length_take] at this
        show (((Y.take k).flatMap putE).length : Int) ≤ 100000
        omega
      have HWC : Hid (∀ _ : Unit, _) := fun _ => C.out wa
      have EVV : Hid (evV ev = .agg #[.int .i64 ev.kind, .int .i64 ev.cpu, .int .i64 ev.id, .int .u64 ev.mask, .int .i64 ev.n]) := rfl
      rw [EVV.out] at HWC
      have PLE := putE_len ev
      have PLH : Hid (((putE ev).length : Int) ≤ 100000) := by show ((putE ev).length : Int) ≤ 100000; omega
      clear hc hc' oke hwa g C PLE hkl
      go_wp2_with fail
      rw [HWA.out]
      refine (HWC.out ()).mono ?_
      rintro e u1 ⟨v1, rfl, g1⟩
      obtain ⟨v2, u2, hrun, g2⟩ := bg_many G.out (BA.out.trans (g1.bel.mono BA.out.size)) g1.row (nil_room g1) TL.out PLH.out
      rw [← NX.out] at g2
      have G2 : Hid (BG w u2 v2 ((Y.take (k + 1)).flatMap putE)) := g2
      obtain ⟨a1, p1, hv1⟩ := g1.shape
      subst hv1
      obtain ⟨M1, hM1⟩ : ∃ M1, (putE ev).length = M1 := ⟨_, rfl⟩
      rw [hM1] at hrun ⊢
      clear g1 g2 hM1 G BA PLH TL
      go_wp2_with (at_builtin; refine wpList_rung rfl (.tmp 12) (.tmp 14) 53 rfl rfl rfl hrun ?_)
      go_roundw
      case rel => exact ⟨k + 1, by omega, G2.out, by go_num⟩
      case measure => simp [intOf]; omega
    · obtain rfl : k = l := by omega
      have FIN : Hid (BG w wr u3 AL) := by show BG w wr u3 AL; rw [GE.out]; exact g
      clear g
      go_wp2
      go_ret
      exact ⟨_, rfl, FIN.out⟩
end Go.Proofs.Ytmelbbojanomiaa
