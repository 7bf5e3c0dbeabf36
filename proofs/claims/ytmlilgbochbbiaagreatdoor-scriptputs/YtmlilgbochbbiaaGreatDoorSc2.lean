/- Scripts as bytes: what Put answers. -/
import Derived.Test.YtmlilgbochbbiaaGreatDoorSc1
import Derived.BigQuiet
namespace Go.Proofs.YtmlilgbochbbiaaGreatDoor.Scr
open Go.ChangeShapes Go.WideShapes Go.ChangeAt Go.RowKit
open Wir Wi0
set_option linter.unusedVariables false
set_option linter.unusedSimpArgs false
set_option maxRecDepth 100000

set_option maxHeartbeats 4000000 in
theorem sput_any (c : Int) (Y : List Ev) (v : Value) (w : World) (hr : LRow evy w v Y) (ok : ∀ e ∈ Y, Eok e) (hl : (Y.length : Int) ≤ 1000) :
    Calls Tryz.prog 7 #[.agg #[.int .i64 c, v]] w fun e w' => ∃ v' y, e = .returned (.tuple #[v', .int .i64 y]) ∧ PutP c Y w w' v' y := by
  obtain ⟨a, cap, rfl⟩ := hr.shape
  have KA : Hid (Blk (w.alloc (.cells #[.int .i64 c, .slice a Y.length cap] 30)) w.heap.size [.int .i64 c, .slice a Y.length cap] 30) := Blk.new w _ _
  have BA : Hid (Below w.heap.size w (w.alloc (.cells #[.int .i64 c, .slice a Y.length cap] 30))) := (Below.refl _ _).alloc (Nat.le_refl _) _
  have CF : Hid (∀ w, _) := fun w => fits_any c a Y.length cap w
  have HR : Hid (LRow evy w (.slice a Y.length cap) Y) := hr
  obtain ⟨l, hn⟩ : ∃ l, Y.length = l := ⟨_, rfl⟩
  have HN : Hid (Y.length = l) := hn
  by_cases hf : fx c Y.length = 0
  · have hc : 1 ≤ c ∧ c ≤ 64 := by
      unfold fx okc at hf
      by_cases h : (decide (1 ≤ c) && decide (c ≤ 64)) = true
      · simpa using h
      · rw [if_neg h] at hf; cases hf
    obtain ⟨x, rfl⟩ := Int.eq_ofNat_of_zero_le (show 0 ≤ c by omega)
    have cw : IntKind.u8.wrap (x : Int) = ((x : Nat) : Int) := by simp [IntKind.wrap, IntKind.bits, IntKind.signed]; omega
    have FIN0 : Hid (∀ w' v', Y.all (fun e => okk e.kind) = true → BG w w' v' (x :: Y.flatMap putE) → PutP (x : Int) Y w w' v' 0) := fun w' v' h g => ⟨by unfold putS; rw [if_neg (by rw [hf]; decide), if_pos h], g.bel, Or.inl ⟨rfl, by rw [Int.toNat_natCast]; exact g⟩⟩
    have FIN2 : Hid (∀ w', Y.all (fun e => okk e.kind) = false → Below w.heap.size w w' → PutP (x : Int) Y w w' (.slice none 0 0) 2) := fun w' h b => ⟨by unfold putS; rw [if_neg (by rw [hf]; decide), if_neg (by rw [h]; decide)], b, Or.inr ⟨by decide, rfl⟩⟩
    have ALL : Hid (∀ k, k = l → (Y.take k).all (fun e => okk e.kind) = Y.all (fun e => okk e.kind) ∧ (Y.take k).flatMap putE = Y.flatMap putE) := fun k h => by
      rw [h, ← hn, List.take_length]
      exact ⟨rfl, rfl⟩
    have HK : Hid (∀ e ∈ Y, Eok e) := ok
    rw [hf] at CF
    rw [hn] at hl HR KA BA CF ⊢
    clear hr hn ok hf hc
    go_enter Tryz.func7, Tryz.ntmps7
    go_wp2_with fail
    refine (CF.out _).mono ?_
    rintro e u ⟨rfl, bu⟩
    have K1 : Blk u w.heap.size [.int .i64 (x : Int), .slice a l cap] 30 := Blk.keep KA.out (Fr.of_below bu) (Blk.lt KA.out) (by simp)
    have K2 : Blk (u.alloc (.cells #[.int .u8 ((x : Nat) : Int)] 5)) w.heap.size [.int .i64 (x : Int), .slice a l cap] 30 := K1.alloc _
    have B1 : Below w.heap.size w u := BA.out.trans (bu.mono BA.out.size)
    have G0 : Hid (BG w (u.alloc (.cells #[.int .u8 ((x : Nat) : Int)] 5)) (.slice (some ⟨u.heap.size, 0, none⟩) 1 1) (x :: (Y.take 0).flatMap putE)) := bg_base (bg_new u x) B1
    have c0 : u.cell? ⟨w.heap.size, 0, none⟩ = some (.int .i64 (x : Int)) := K1.cell 0
    have c1 : (u.alloc (.cells #[.int .u8 ((x : Nat) : Int)] 5)).cell? ⟨w.heap.size, 1, none⟩ = some (.slice a l cap) := K2.cell 1
    clear bu K1 K2 B1 KA BA CF
    go_wp2
    go_loopw [5, 21] (fun v i wr => ∃ k : Nat, (k : Int) ≤ l ∧ BG w wr v (x :: (Y.take k).flatMap putE) ∧ i = .int .i64 k ∧ Hid ((Y.take k).all (fun e => okk e.kind) = true)) (fun _ i _ => l - (intOf i).toNat)
    case atStart => exact ⟨0, by omega, G0.out, rfl, rfl⟩
    case round =>
      obtain ⟨k, hk, g, rfl, hA⟩ := hrel
      clear G0
      by_cases q : (k : Int) < l
      · have hkl : k < Y.length := by have := HN.out; omega
        obtain ⟨b0, off, e0, _, hc⟩ := lrow_cell (HR.out.below g.bel) hkl
        subst e0
        have oke := HK.out (Y.getD k z5) (by rw [List.getD_eq_getElem?_getD, List.getElem?_eq_getElem hkl]; exact List.getElem_mem hkl)
        have NX : Hid (x :: (Y.take (k + 1)).flatMap putE = (x :: (Y.take k).flatMap putE) ++ putE (Y.getD k z5)) := by show _ = _; rw [flat_take Y k hkl]; rfl
        have AX : Hid ((Y.take (k + 1)).all (fun e => okk e.kind) = okk (Y.getD k z5).kind) := by show _ = _; rw [all_take Y k hkl, hA.out, Bool.true_and]
        have AB : Hid (okk (Y.getD k z5).kind = false → Y.all (fun e => okk e.kind) = false) := all_bad Y k hkl
        have hc' : ∀ j, j < 5 → wr.cell? ⟨b0, off + k * 5 + j, none⟩ = (evL (Y.getD k z5))[j]? := hc
        generalize Y.getD k z5 = ev at *
        have c0 : wr.cell? ⟨b0, off + k * 5, none⟩ = some (.int .i64 ev.kind) := hc' 0 (by omega)
        have c1 : wr.cell? ⟨b0, off + k * 5 + 1, none⟩ = some (.int .i64 ev.cpu) := hc' 1 (by omega)
        have c2 : wr.cell? ⟨b0, off + k * 5 + 2, none⟩ = some (.int .i64 ev.id) := hc' 2 (by omega)
        have c3 : wr.cell? ⟨b0, off + k * 5 + 3, none⟩ = some (.int .u64 ev.mask) := hc' 3 (by omega)
        have c4 : wr.cell? ⟨b0, off + k * 5 + 4, none⟩ = some (.int .i64 ev.n) := hc' 4 (by omega)
        have C : Hid (∀ u, _) := fun u => put_any u ev oke
        obtain ⟨wa, hwa⟩ : ∃ wa, wr.alloc (.cells #[.int .i64 ev.kind, .int .i64 ev.cpu, .int .i64 ev.id, .int .u64 ev.mask, .int .i64 ev.n] 50) = wa := ⟨_, rfl⟩
        have HWA : Hid (wr.alloc (.cells #[.int .i64 ev.kind, .int .i64 ev.cpu, .int .i64 ev.id, .int .u64 ev.mask, .int .i64 ev.n] 50) = wa) := hwa
        have BA : Hid (Below wr.heap.size wr wa) := by show Below wr.heap.size wr wa; rw [← hwa]; exact (Below.refl _ _).alloc (Nat.le_refl _) _
        have G : Hid (BG w wr _ (x :: (Y.take k).flatMap putE)) := g
        have TL : Hid (((x :: (Y.take k).flatMap putE).length : Int) ≤ 100000) := by
          have := flat_len (Y.take k)
          rw [List.length_take] at this
          show ((x :: (Y.take k).flatMap putE).length : Int) ≤ 100000
          rw [List.length_cons]
          omega
        have HWC : Hid (∀ _ : Unit, _) := fun _ => C.out wa
        have EVV : Hid (evV ev = .agg #[.int .i64 ev.kind, .int .i64 ev.cpu, .int .i64 ev.id, .int .u64 ev.mask, .int .i64 ev.n]) := rfl
        rw [EVV.out] at HWC
        cases hk2 : okk ev.kind with
        | false =>
          have F2 : Hid (∀ w', Below w.heap.size w w' → PutP (x : Int) Y w w' (.slice none 0 0) 2) := fun w' b => FIN2.out w' (AB.out hk2) b
          rw [putE_bad hk2] at HWC
          clear hc hc' oke hwa g C hkl NX AX AB FIN0 FIN2 hk2 TL
          go_wp2_with fail
          rw [HWA.out]
          refine (HWC.out ()).mono ?_
          rintro e u1 ⟨v1, rfl, g1⟩
          obtain ⟨a1, p1, hv1⟩ := g1.shape
          subst hv1
          have B1 : Hid (Below w.heap.size w u1) := G.out.bel.trans ((BA.out.trans (g1.bel.mono BA.out.size)).mono G.out.bel.size)
          clear g1 G HWC
          go_wp2
          go_ret2
          exact ⟨_, _, rfl, F2.out _ B1.out⟩
        | true =>
          have AX2 : Hid ((Y.take (k + 1)).all (fun e => okk e.kind) = true) := by rw [← hk2]; exact AX
          have PLE := putE_len ev
          have PPOS := putE_pos hk2
          have PLH : Hid (((putE ev).length : Int) ≤ 100000) := by show ((putE ev).length : Int) ≤ 100000; omega
          clear hc hc' oke hwa g C hkl AX AB hk2 PLE
          go_wp2_with fail
          rw [HWA.out]
          refine (HWC.out ()).mono ?_
          rintro e u1 ⟨v1, rfl, g1⟩
          obtain ⟨v2, u2, hrun, g2⟩ := bg_many G.out (BA.out.trans (g1.bel.mono BA.out.size)) g1.row (nil_room g1) TL.out PLH.out
          rw [← NX.out] at g2
          have G2 : Hid (BG w u2 v2 (x :: (Y.take (k + 1)).flatMap putE)) := g2
          obtain ⟨a1, p1, hv1⟩ := g1.shape
          subst hv1
          obtain ⟨M1, hM1⟩ : ∃ M1, (putE ev).length = M1 := ⟨_, rfl⟩
          rw [hM1] at hrun PPOS ⊢
          have ne0 : ((M1 : Int) == 0) = false := by rw [beq_eq_false_iff_ne]; omega
          clear g1 g2 hM1 G BA PLH TL
          go_wp2_with (at_builtin; refine wpList_rung rfl (.tmp 30) (.tmp 31) 26 rfl rfl rfl hrun ?_)
          go_roundw
          case rel => exact ⟨k + 1, by omega, G2.out, by go_num, AX2⟩
          case measure => simp [intOf]; omega
      · have AA := ALL.out k (by omega)
        have G : Hid (BG w wr _ (x :: (Y.take k).flatMap putE)) := g
        rw [AA.2] at G
        have FINH : Hid (PutP (x : Int) Y w wr _ 0) := FIN0.out wr _ (by rw [← AA.1]; exact hA.out) G.out
        clear g AA G
        go_wp2
        go_ret2
        exact ⟨_, _, rfl, FINH.out⟩
  · have FIN : Hid (∀ w', Below w.heap.size w w' → PutP c Y w w' (.slice none 0 0) (fx c Y.length)) := fun w' b => ⟨by unfold putS; rw [if_pos hf], b, Or.inr ⟨hf, rfl⟩⟩
    generalize fx c Y.length = y at *
    have y1 : (y == 0) = false := by rw [beq_eq_false_iff_ne]; exact hf
    have y2 : (y != 0) = true := by simpa using hf
    clear HR hr ok hf KA hn HN hl
    generalize Y.length = n at *
    go_enter Tryz.func7, Tryz.ntmps7
    go_wp2_with fail
    refine (CF.out _).mono ?_
    rintro e u ⟨rfl, bu⟩
    have B1 : Hid (Below w.heap.size w u) := BA.out.trans (bu.mono BA.out.size)
    clear bu
    go_wp2
    go_ret2
    exact ⟨_, _, rfl, FIN.out _ B1.out⟩
end Go.Proofs.YtmlilgbochbbiaaGreatDoor.Scr
