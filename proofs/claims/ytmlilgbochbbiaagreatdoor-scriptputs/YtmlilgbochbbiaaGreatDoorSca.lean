/- Scripts as bytes: the document's Put. -/
import Derived.Test.YtmlilgbochbbiaaGreatDoorSc2
import Derived.Test.YtmlilgbochbbiaaGreatDoorYu
import Derived.BigQuiet
namespace Go.Proofs.YtmlilgbochbbiaaGreatDoor.Scr
open Go.ChangeShapes Go.WideShapes Go.ChangeAt Go.RowKit
open Wir Wi0
set_option linter.unusedVariables false
set_option linter.unusedSimpArgs false
set_option maxRecDepth 100000

set_option maxHeartbeats 4000000 in
theorem srput_any (c : Int) (Y : List Ev) (v : Value) (w : World) (hr : LRow evy w v Y) (ok : ∀ e ∈ Y, Eok e) (hl : (Y.length : Int) ≤ 1000) :
    Calls Tryz.prog 9 #[.agg #[.int .i64 c, v]] w fun e w' => ∃ v' y, e = .returned (.tuple #[v', .int .i64 y]) ∧ PutP c Y w w' v' y := by
  obtain ⟨a, cap, rfl⟩ := hr.shape
  have BA : Hid (Below w.heap.size w (w.alloc (.cells #[.int .i64 c, .slice a Y.length cap] 24))) := (Below.refl _ _).alloc (Nat.le_refl _) _
  by_cases hc : okc c = true
  · have hc2 : 1 ≤ c ∧ c ≤ 64 := by unfold okc at hc; simpa using hc
    obtain ⟨x, rfl⟩ := Int.eq_ofNat_of_zero_le (show 0 ≤ c by omega)
    have q1 : decide ((x : Int) < 1) = false := decide_eq_false (by omega)
    have q2 : decide ((64 : Int) < (x : Int)) = false := decide_eq_false (by omega)
    have q4 : ¬ (x : Int) < 1 := by omega
    have q5 : ¬ (64 : Int) < (x : Int) := by omega
    by_cases hn6 : 600 < Y.length
    · have q6 : (600 : Int) < (Y.length : Int) := by omega
      have hf : fx (x : Int) Y.length = 15 := by unfold fx; rw [if_pos hc, if_pos hn6]
      have FIN : Hid (∀ w', Below w.heap.size w w' → PutP (x : Int) Y w w' (.slice none 0 0) 15) := fun w' b => ⟨by unfold putS; rw [if_pos (by rw [hf]; decide), hf], b, Or.inr ⟨by decide, rfl⟩⟩
      clear hr ok hl hc hc2 hn6 hf
      generalize Y.length = l at *
      go_enter Tryz.func9, Tryz.ntmps9
      go_wp2
      go_ret2
      exact ⟨_, _, rfl, FIN.out _ BA.out⟩
    · have hf : fx (x : Int) Y.length = 0 := by unfold fx; rw [if_pos hc, if_neg hn6]
      have cw : IntKind.u8.wrap (x : Int) = ((x : Nat) : Int) := by simp [IntKind.wrap, IntKind.bits, IntKind.signed]; omega
      obtain ⟨l, hn⟩ : ∃ l, Y.length = l := ⟨_, rfl⟩
      have HN : Hid (Y.length = l) := hn
      have q3 : decide ((600 : Int) < (l : Int)) = false := decide_eq_false (by omega)
      have q6 : ¬ (600 : Int) < (l : Int) := by omega
      have FIN0 : Hid (∀ w' v', Y.all (fun e => okk e.kind) = true → BG w w' v' (x :: Y.flatMap putE) → PutP (x : Int) Y w w' v' 0) := fun w' v' h g => ⟨by unfold putS; rw [if_neg (by rw [hf]; decide), if_pos h], g.bel, Or.inl ⟨rfl, by rw [Int.toNat_natCast]; exact g⟩⟩
      have FIN2 : Hid (∀ w', Y.all (fun e => okk e.kind) = false → Below w.heap.size w w' → PutP (x : Int) Y w w' (.slice none 0 0) 2) := fun w' h b => ⟨by unfold putS; rw [if_neg (by rw [hf]; decide), if_neg (by rw [h]; decide)], b, Or.inr ⟨by decide, rfl⟩⟩
      have ALL : Hid (∀ k, k = l → (Y.take k).all (fun e => okk e.kind) = Y.all (fun e => okk e.kind) ∧ (Y.take k).flatMap putE = Y.flatMap putE) := fun k h => by
        rw [h, ← hn, List.take_length]
        exact ⟨rfl, rfl⟩
      have HK : Hid (∀ e ∈ Y, Eok e) := ok
      have KA : Hid (Blk (w.alloc (.cells #[.int .i64 (x : Int), .slice a Y.length cap] 24)) w.heap.size [.int .i64 (x : Int), .slice a Y.length cap] 24) := Blk.new w _ _
      have HR1 : Hid (LRow evy (w.alloc (.cells #[.int .i64 (x : Int), .slice a Y.length cap] 24)) (.slice a Y.length cap) Y) := hr.below BA.out
      have G0 : Hid (BG (w.alloc (.cells #[.int .i64 (x : Int), .slice a Y.length cap] 24)) ((w.alloc (.cells #[.int .i64 (x : Int), .slice a Y.length cap] 24)).alloc (.cells #[.int .u8 ((x : Nat) : Int)] 5)) (.slice (some ⟨w.heap.size + 1, 0, none⟩) 1 1) (x :: (Y.take 0).flatMap putE)) := by
        have := bg_new (w.alloc (.cells #[.int .i64 (x : Int), .slice a Y.length cap] 24)) x
        rw [World.size_alloc] at this
        exact this
      rw [hn] at KA HR1 G0 BA hl ⊢
      clear hr hn ok hf hc hc2 hn6
      go_enter Tryz.func9, Tryz.ntmps9
      go_wp2
      go_loopw [4, 5] (fun v i wr => ∃ k : Nat, (k : Int) ≤ l ∧ BG (w.alloc (.cells #[.int .i64 (x : Int), .slice a l cap] 24)) wr v (x :: (Y.take k).flatMap putE) ∧ i = .int .i64 k ∧ Hid ((Y.take k).all (fun e => okk e.kind) = true)) (fun _ i _ => l - (intOf i).toNat)
      case atStart => exact ⟨0, by omega, G0.out, rfl, rfl⟩
      case round =>
        obtain ⟨k, hk, g, rfl, hA⟩ := hrel
        clear G0
        have m1 : wr.cell? ⟨w.heap.size, 1, none⟩ = some (.slice a l cap) := (Blk.keep KA.out (Fr.of_below g.bel) (Blk.lt KA.out) (by simp)).cell 1
        by_cases q : (k : Int) < l
        · have hkl : k < Y.length := by have := HN.out; omega
          obtain ⟨b0, off, e0, _, hc⟩ := lrow_cell (HR1.out.below g.bel) hkl
          subst e0
          have oke := HK.out (Y.getD k z5) (by rw [List.getD_eq_getElem?_getD, List.getElem?_eq_getElem hkl]; exact List.getElem_mem hkl)
          have NX : Hid (x :: (Y.take (k + 1)).flatMap putE = (x :: (Y.take k).flatMap putE) ++ putE (Y.getD k z5)) := by show _ = _; rw [flat_take Y k hkl]; rfl
          have AX : Hid ((Y.take (k + 1)).all (fun e => okk e.kind) = okk (Y.getD k z5).kind) := by show _ = _; rw [all_take Y k hkl, hA.out, Bool.true_and]
          have AB : Hid (okk (Y.getD k z5).kind = false → Y.all (fun e => okk e.kind) = false) := all_bad Y k hkl
          have hc' : ∀ j, j < 5 → wr.cell? ⟨b0, off + k * 5 + j, none⟩ = (evL (Y.getD k z5))[j]? := hc
          generalize Y.getD k z5 = ev at *
          have c0 : wr.cell? ⟨b0, off + k * 5, none⟩ = some (.int .i64 ev.kind) := hc' 0 (by omega)
          have c1 : wr.cell? ⟨b0, off + k * 5 + 1, none⟩ = some (.int .i64 ev.cpu) := hc' 1 (by omega)
          have c2 : wr.cell? ⟨b0, off + k * 5 + 2, none⟩ = some (.int .i64 ev.id) := hc' 2 (by omega)
          have c3 : wr.cell? ⟨b0, off + k * 5 + 3, none⟩ = some (.int .u64 ev.mask) := hc' 3 (by omega)
          have c4 : wr.cell? ⟨b0, off + k * 5 + 4, none⟩ = some (.int .i64 ev.n) := hc' 4 (by omega)
          have HWC : Hid (∀ _ : Unit, _) := fun _ => rput_any wr ev oke
          have G : Hid (BG (w.alloc (.cells #[.int .i64 (x : Int), .slice (some ⟨b0, off, none⟩) l cap] 24)) wr _ (x :: (Y.take k).flatMap putE)) := g
          have TL : Hid (((x :: (Y.take k).flatMap putE).length : Int) ≤ 100000) := by
            have := flat_len (Y.take k)
            rw [List.length_take] at this
            show ((x :: (Y.take k).flatMap putE).length : Int) ≤ 100000
            rw [List.length_cons]
            omega
          have EVV : Hid (evV ev = .agg #[.int .i64 ev.kind, .int .i64 ev.cpu, .int .i64 ev.id, .int .u64 ev.mask, .int .i64 ev.n]) := rfl
          try rw [EVV.out] at HWC
          cases hk2 : okk ev.kind with
          | false =>
            have F2 : Hid (∀ w', Below w.heap.size w w' → PutP (x : Int) Y w w' (.slice none 0 0) 2) := fun w' b => FIN2.out w' (AB.out hk2) b
            rw [putE_bad hk2] at HWC
            clear hc hc' oke g hkl NX AX AB FIN0 FIN2 hk2 TL
            go_wp2_with fail
            refine (HWC.out ()).mono ?_
            rintro e u1 ⟨v1, rfl, g1⟩
            obtain ⟨a1, p1, hv1⟩ := g1.shape
            subst hv1
            have B1 : Hid (Below w.heap.size w u1) := BA.out.trans ((G.out.bel.trans (g1.bel.mono G.out.bel.size)).mono BA.out.size)
            clear g1 G HWC
            go_wp2
            go_ret2
            exact ⟨_, _, rfl, F2.out _ B1.out⟩
          | true =>
            have AX2 : Hid ((Y.take (k + 1)).all (fun e => okk e.kind) = true) := by rw [← hk2]; exact AX
            have PLE := putE_len ev
            have PPOS := putE_pos hk2
            have PLH : Hid (((putE ev).length : Int) ≤ 100000) := by show ((putE ev).length : Int) ≤ 100000; omega
            clear hc hc' oke g hkl AX AB hk2 PLE
            go_wp2_with fail
            refine (HWC.out ()).mono ?_
            rintro e u1 ⟨v1, rfl, g1⟩
            obtain ⟨v2, u2, hrun, g2⟩ := bg_many G.out g1.bel g1.row (nil_room g1) TL.out PLH.out
            rw [← NX.out] at g2
            have G2 : Hid (BG (w.alloc (.cells #[.int .i64 (x : Int), .slice (some ⟨b0, off, none⟩) l cap] 24)) u2 v2 (x :: (Y.take (k + 1)).flatMap putE)) := g2
            obtain ⟨a1, p1, hv1⟩ := g1.shape
            subst hv1
            obtain ⟨M1, hM1⟩ : ∃ M1, (putE ev).length = M1 := ⟨_, rfl⟩
            rw [hM1] at hrun PPOS ⊢
            have ne0 : ((M1 : Int) == 0) = false := by rw [beq_eq_false_iff_ne]; omega
            clear g1 g2 hM1 G PLH TL
            go_wp2_with (at_builtin; refine wpList_rung rfl (.tmp 39) (.tmp 40) 26 rfl rfl rfl hrun ?_)
            go_roundw
            case rel => exact ⟨k + 1, by omega, G2.out, by go_num, AX2⟩
            case measure => simp [intOf]; omega
        · have AA := ALL.out k (by omega)
          have G : Hid (BG w wr _ (x :: (Y.take k).flatMap putE)) := bg_base g BA.out
          rw [AA.2] at G
          have FINH : Hid (PutP (x : Int) Y w wr _ 0) := FIN0.out wr _ (by rw [← AA.1]; exact hA.out) G.out
          clear g AA G
          go_wp2
          go_ret2
          exact ⟨_, _, rfl, FINH.out⟩
  · have hc0 : okc c = false := by simpa using hc
    have hf : fx c Y.length = 2 := by unfold fx; rw [if_neg hc]
    have FIN : Hid (∀ w', Below w.heap.size w w' → PutP c Y w w' (.slice none 0 0) 2) := fun w' b => ⟨by unfold putS; rw [if_pos (by rw [hf]; decide), hf], b, Or.inr ⟨by decide, rfl⟩⟩
    generalize Y.length = l at *
    clear hr ok hl hf hc
    by_cases h1 : c < 1
    · have q1 : decide (c < 1) = true := decide_eq_true h1
      clear hc0
      go_enter Tryz.func9, Tryz.ntmps9
      go_wp2
      go_ret2
      exact ⟨_, _, rfl, FIN.out _ BA.out⟩
    · have h2 : 64 < c := by unfold okc at hc0; rw [decide_eq_true (show 1 ≤ c by omega), Bool.true_and, decide_eq_false_iff_not] at hc0; omega
      have q1 : decide (c < 1) = false := decide_eq_false h1
      have q2 : decide (64 < c) = true := decide_eq_true h2
      clear hc0
      go_enter Tryz.func9, Tryz.ntmps9
      go_wp2
      go_ret2
      exact ⟨_, _, rfl, FIN.out _ BA.out⟩
end Go.Proofs.YtmlilgbochbbiaaGreatDoor.Scr
