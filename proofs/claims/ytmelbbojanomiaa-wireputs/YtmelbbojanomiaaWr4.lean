/- What the document's fields, Put and All answer, for all events. -/
import Derived.Test.YtmelbbojanomiaaRows
import Derived.Test.YtmelbbojanomiaaWr2
import Derived.WalkKit
import Derived.ProofKit
import Derived.OpenShut
import Derived.BigQuiet
namespace Go.Proofs.Ytmelbbojanomiaa
open Go.ChangeShapes Go.WideShapes Go.ChangeAt Go.RowKit
open Wi0

theorem fields_any (w : World) (e : Ev) (ok : Eok e) :
    Calls Try.prog 59 #[.agg #[.int .i64 e.kind, .int .i64 e.cpu, .int .i64 e.id, .int .u64 e.mask, .int .i64 e.n]] w fun r w' => r = .returned (.slice (some ⟨w.heap.size + 1, 0, none⟩) 4 4) ∧ Blk w' (w.heap.size + 1) (vb (fs e)) 2 ∧ Below w.heap.size w w' ∧ w.heap.size + 2 ≤ w'.heap.size := by
  have mw : IntKind.i64.wrap e.mask = s6 e.mask := by have a := ok.m0; have b := ok.m1; rw [IntKind.wrap_i64]; unfold s6; split <;> omega
  have VB : Hid (vb (fs e) = [.int .i64 e.cpu, .int .i64 e.id, .int .i64 (s6 e.mask), .int .i64 e.n]) := rfl
  generalize s6 e.mask = y3' at *
  generalize vb (fs e) = VV at *
  generalize e.kind = y0 at *
  generalize e.cpu = y1 at *
  generalize e.id = y2 at *
  generalize e.mask = y3 at *
  generalize e.n = y4 at *
  have F : Hid (∀ o1 o2, Below w.heap.size w ((w.alloc o1).alloc o2) ∧ w.heap.size + 2 ≤ ((w.alloc o1).alloc o2).heap.size) := fun o1 o2 => ⟨((Below.refl _ _).alloc (Nat.le_refl _) o1).alloc (by simp) o2, by simp⟩
  have NB : Hid (∀ o1, Blk ((w.alloc o1).alloc (.cells #[.int .i64 y1, .int .i64 y2, .int .i64 y3', .int .i64 y4] 2)) (w.heap.size + 1) VV 2) := fun o1 => by
    have := Blk.new (w.alloc o1) [.int .i64 y1, .int .i64 y2, .int .i64 y3', .int .i64 y4] 2
    rw [show (w.alloc o1).heap.size = w.heap.size + 1 by simp] at this
    rw [VB.out]
    exact this
  clear ok
  go_enter Try.func59, Try.ntmps59
  go_wp2
  go_ret
  exact ⟨rfl, NB.out _, F.out _ _⟩

set_option maxRecDepth 100000 in
set_option maxHeartbeats 4000000 in
theorem rput_any (w : World) (e : Ev) (ok : Eok e) :
    Calls Try.prog 39 #[evV e] w fun r w' => ∃ v, r = .returned v ∧ BG w w' v (putE e) := by
  obtain ⟨w1, hw1⟩ : ∃ w1, w.alloc (.cells #[.int .i64 e.kind, .int .i64 e.cpu, .int .i64 e.id, .int .u64 e.mask, .int .i64 e.n] 57) = w1 := ⟨_, rfl⟩
  obtain ⟨z, hz⟩ : ∃ z, w.heap.size = z := ⟨_, rfl⟩
  have E1 : Hid (Blk w1 z (evL e) 57 ∧ Below w.heap.size w w1) := by
    rw [← hw1, ← hz]
    exact ⟨Blk.new w (evL e) 57, (Below.refl _ _).alloc (Nat.le_refl _) _⟩
  have HZ : Hid (w.heap.size = z) := hz
  have HWA : Hid (w.alloc (.cells #[.int .i64 e.kind, .int .i64 e.cpu, .int .i64 e.id, .int .u64 e.mask, .int .i64 e.n] 57) = w1) := hw1
  show Calls Try.prog 39 #[.agg #[.int .i64 e.kind, .int .i64 e.cpu, .int .i64 e.id, .int .u64 e.mask, .int .i64 e.n]] w _
  cases hk : okk e.kind with
  | false =>
    have hp : putE e = [] := by unfold putE; rw [hk]; rfl
    rw [hp]
    have kk : e.kind < 1 ∨ (¬ e.kind < 1 ∧ 30 < e.kind) := by simp [okk] at hk; omega
    have BB : Hid (∀ o, Below w.heap.size w (w.alloc o)) := fun o => (Below.refl _ _).alloc (Nat.le_refl _) o
    clear hw1 hz hk hp ok E1 HZ HWA
    generalize e.kind = y0 at *
    generalize e.cpu = y1 at *
    generalize e.id = y2 at *
    generalize e.mask = y3 at *
    generalize e.n = y4 at *
    rcases kk with k1 | ⟨k1, k2⟩
    all_goals
      go_enter Try.func39, Try.ntmps39
      go_wp2
      go_ret
      exact ⟨_, rfl, World.ownsRow_nil _ _ _ _, BB.out _⟩
  | true =>
    have hk2 := hk
    simp only [okk, Bool.and_eq_true, decide_eq_true_eq] at hk2
    have k1 : ¬ e.kind < 1 := by omega
    have k2 : ¬ 30 < e.kind := by omega
    have hp : putE e = e.kind.toNat :: wp (fs e) 4 :: pa (fs e) 4 := by unfold putE; rw [hk, wp_four]; rfl
    have kw : IntKind.u8.wrap e.kind = ((e.kind.toNat : Nat) : Int) := by simp [IntKind.wrap, IntKind.bits, IntKind.signed]; omega
    have FF : Hid (∀ u, _) := fun u => fields_any u e ok
    have FI : Hid (∀ i, i < 4 → I6 ((fs e).getD i 0)) := fun i hi => by
      have : i = 0 ∨ i = 1 ∨ i = 2 ∨ i = 3 := by omega
      rcases this with rfl | rfl | rfl | rfl
      · exact ok.c
      · exact ok.i
      · exact s6_i _ ok.m0 ok.m1
      · exact ok.n
    have FL : Hid ((fs e).length = 4) := rfl
    obtain ⟨K, hK⟩ : ∃ K, e.kind.toNat = K := ⟨_, rfl⟩
    rw [hK] at kw hp
    have HK30 : Hid (K ≤ 30) := by show K ≤ 30; omega
    have HP : Hid (putE e = K :: wp (fs e) 4 :: pa (fs e) 4) := hp
    obtain ⟨PE, hPE⟩ : ∃ PE, putE e = PE := ⟨_, rfl⟩
    rw [hPE] at HP ⊢
    generalize fs e = L at *
    have KC : Hid (∀ u, Below w1.heap.size w1 u → u.cell? ⟨z, 0, none⟩ = some (.int .i64 e.kind)) := fun u hu => (hu.cell (p := ⟨z, 0, none⟩) E1.out.1.lt).trans (E1.out.1.cell 0)
    have b0 : w1.cell? ⟨z, 0, none⟩ = some (.int .i64 e.kind) := E1.out.1.cell 0
    have b1 : w1.cell? ⟨z, 1, none⟩ = some (.int .i64 e.cpu) := E1.out.1.cell 1
    have b2 : w1.cell? ⟨z, 2, none⟩ = some (.int .i64 e.id) := E1.out.1.cell 2
    have b3 : w1.cell? ⟨z, 3, none⟩ = some (.int .u64 e.mask) := E1.out.1.cell 3
    have b4 : w1.cell? ⟨z, 4, none⟩ = some (.int .i64 e.n) := E1.out.1.cell 4
    have B1 : Hid (Below w.heap.size w w1) := E1.out.2
    clear hw1 hz hk hk2 hp ok hK hPE E1
    generalize e.kind = y0 at *
    generalize e.cpu = y1 at *
    generalize e.id = y2 at *
    generalize e.mask = y3 at *
    generalize e.n = y4 at *
    go_enter Try.func39, Try.ntmps39
    go_wp2_with fail
    rw [HWA.out]
    refine (FF.out _).mono ?_
    rintro r u ⟨rfl, vb0, bu, su⟩
    obtain ⟨q, hq⟩ : ∃ q, w1.heap.size + 1 = q := ⟨_, rfl⟩
    rw [hq] at vb0 ⊢
    have UB : Hid (Blk u q (vb L) 2 ∧ Below w1.heap.size w1 u) := ⟨vb0, bu⟩
    have BU : Hid (Below w.heap.size w u) := B1.out.trans (bu.mono B1.out.size)
    rw [HZ.out]
    have G0 : Hid (BG u u (.slice none 0 0) (pa L 0)) := og_start by8 5 u
    clear vb0 bu su hq FF b0 b1 b2 b3 b4
    go_wp2
    go_loopw [4, 5, 6] (fun wv bv iv wr => ∃ i : Nat, (i : Int) ≤ 4 ∧ wv = .int .u8 (wp L i : Nat) ∧ BG u wr bv (pa L i) ∧ iv = .int .i64 i) (fun _ _ i _ => 4 - (intOf i).toNat)
    case atStart => exact ⟨0, by omega, rfl, G0.out, rfl⟩
    case round =>
      obtain ⟨i, hi, rfl, og, rfl⟩ := hrel
      clear G0
      have OGH : Hid (BG u wr u5 (pa L i)) := og
      have hlen := pa_len L i (by omega)
      have wlt := wp_lt L i
      have VB := UB.out.1.keep (Fr.of_below og.bel) UB.out.1.lt (by simp)
      by_cases i4 : (i : Int) < 4
      · have vi : wr.cell? ⟨q, i, none⟩ = some (.int .i64 (L.getD i 0)) := by
          have c := VB.cell i
          rw [c]
          have : i = 0 ∨ i = 1 ∨ i = 2 ∨ i = 3 := by omega
          rcases this with rfl | rfl | rfl | rfl <;> rfl
        have NP : Hid (pa L (i + 1) = pa L i ++ pn (L.getD i 0)) := pa_step L i (by have := FL.out; omega)
        have NW : Hid (wp L (i + 1) = wp L i + wn (L.getD i 0) (2 ^ i)) := rfl
        have xi := FI.out i (by omega)
        generalize L.getD i 0 = x at *
        have C : Hid (∀ _ : Unit, _) := fun _ => field_any u wr u5 (pa L i) x og (by omega) xi
        have pw : wp L i + 2 ^ i < 256 ∧ 2 ^ i < 256 := by
          have : i = 0 ∨ i = 1 ∨ i = 2 ∨ i = 3 := by omega
          rcases this with rfl | rfl | rfl | rfl <;> simp at wlt ⊢ <;> omega
        by_cases x0 : x = 0
        · subst x0
          have NW2 : Hid (wp L (i + 1) = wp L i) := by rw [NW.out]; rfl
          clear xi wlt og hlen VB pw
          go_wp2_with fail
          refine (C.out ()).mono ?_
          rintro r t ⟨v', rfl, g2⟩
          have NG : Hid (BG u t v' (pa L (i + 1))) := by rw [NP.out]; exact g2
          clear g2 C
          go_wp2
          go_roundw
          case rel => exact ⟨i + 1, by omega, by rw [NW2.out], NG.out, by go_num⟩
          case measure => simp [intOf]; omega
        · have x1 : (x == 0) = false := beq_eq_false_iff_ne.2 x0
          have NW2 : Hid (wp L (i + 1) = wp L i + 2 ^ i) := by rw [NW.out]; show _ + wn x _ = _; rw [show wn x (2 ^ i) = 2 ^ i from if_neg x0]
          have four_or : i = 0 ∨ i = 1 ∨ i = 2 ∨ i = 3 := by omega
          clear xi og hlen VB x0
          rcases four_or with rfl | rfl | rfl | rfl
          · have aw : IntKind.u8.wrap ((wp L 0 : Int) + 1) = ((wp L 1 : Nat) : Int) := by
              have e := NW2.out
              simp only [IntKind.wrap, IntKind.bits, IntKind.signed]
              simp at wlt pw e ⊢
              omega
            have AW : Hid (IntKind.u8.wrap ((wp L 0 : Int) + 1) = ((wp L 1 : Nat) : Int)) := aw
            clear aw pw wlt
            go_wp2_with fail
            refine (C.out ()).mono ?_
            rintro r t ⟨v', rfl, g2⟩
            have NG : Hid (BG u t v' (pa L 1)) := by show BG u t v' (pa L 1); rw [NP.out]; exact g2
            clear g2 C
            go_wp2
            go_roundw
            case rel => exact ⟨1, by omega, by have e := AW.out; first | exact congrArg _ e | (simp only [Value.int.injEq, true_and]; simpa using e), NG.out, by go_num⟩
            case measure => simp [intOf]
          · have aw : IntKind.u8.wrap ((wp L 1 : Int) + 2) = ((wp L 2 : Nat) : Int) := by
              have e := NW2.out
              simp only [IntKind.wrap, IntKind.bits, IntKind.signed]
              simp at wlt pw e ⊢
              omega
            have AW : Hid (IntKind.u8.wrap ((wp L 1 : Int) + 2) = ((wp L 2 : Nat) : Int)) := aw
            clear aw pw wlt
            go_wp2_with fail
            refine (C.out ()).mono ?_
            rintro r t ⟨v', rfl, g2⟩
            have NG : Hid (BG u t v' (pa L 2)) := by show BG u t v' (pa L 2); rw [NP.out]; exact g2
            clear g2 C
            go_wp2
            go_roundw
            case rel => exact ⟨2, by omega, by have e := AW.out; first | exact congrArg _ e | (simp only [Value.int.injEq, true_and]; simpa using e), NG.out, by go_num⟩
            case measure => simp [intOf]
          · have aw : IntKind.u8.wrap ((wp L 2 : Int) + 4) = ((wp L 3 : Nat) : Int) := by
              have e := NW2.out
              simp only [IntKind.wrap, IntKind.bits, IntKind.signed]
              simp at wlt pw e ⊢
              omega
            have AW : Hid (IntKind.u8.wrap ((wp L 2 : Int) + 4) = ((wp L 3 : Nat) : Int)) := aw
            clear aw pw wlt
            go_wp2_with fail
            refine (C.out ()).mono ?_
            rintro r t ⟨v', rfl, g2⟩
            have NG : Hid (BG u t v' (pa L 3)) := by show BG u t v' (pa L 3); rw [NP.out]; exact g2
            clear g2 C
            go_wp2
            go_roundw
            case rel => exact ⟨3, by omega, by have e := AW.out; first | exact congrArg _ e | (simp only [Value.int.injEq, true_and]; simpa using e), NG.out, by go_num⟩
            case measure => simp [intOf]
          · have aw : IntKind.u8.wrap ((wp L 3 : Int) + 8) = ((wp L 4 : Nat) : Int) := by
              have e := NW2.out
              simp only [IntKind.wrap, IntKind.bits, IntKind.signed]
              simp at wlt pw e ⊢
              omega
            have AW : Hid (IntKind.u8.wrap ((wp L 3 : Int) + 8) = ((wp L 4 : Nat) : Int)) := aw
            clear aw pw wlt
            go_wp2_with fail
            refine (C.out ()).mono ?_
            rintro r t ⟨v', rfl, g2⟩
            have NG : Hid (BG u t v' (pa L 4)) := by show BG u t v' (pa L 4); rw [NP.out]; exact g2
            clear g2 C
            go_wp2
            go_roundw
            case rel => exact ⟨4, by omega, by have e := AW.out; first | exact congrArg _ e | (simp only [Value.int.injEq, true_and]; simpa using e), NG.out, by go_num⟩
            case measure => simp [intOf]
      · obtain rfl : i = 4 := by omega
        have q0 := KC.out wr (UB.out.2.trans (og.bel.mono UB.out.2.size))
        obtain ⟨av, cv, hv⟩ := og.shape
        subst hv
        have LIT : BG wr (wr.alloc (.cells #[.int .u8 (K : Nat), .int .u8 (wp L 4 : Nat)] 5)) (.slice (some ⟨wr.heap.size, 0, none⟩) 2 2) [K, wp L 4] :=
          ⟨World.ownsRow_lit wr #[.int .u8 (K : Nat), .int .u8 (wp L 4 : Nat)] 2 (Nat.le_refl _) (by decide) rfl, (Below.refl _ _).alloc (Nat.le_refl _) _⟩
        obtain ⟨v2, w2, hrun, g2⟩ := bg_many LIT (Below.refl _ _) (og.row.below LIT.bel) (nil_room og) (by simp) (by omega)
        have FIN : Hid (BG w w2 v2 PE) := by
          show BG w w2 v2 PE
          rw [HP.out]
          exact bg_base g2 (BU.out.trans (og.bel.mono BU.out.size))
        obtain ⟨M, hM⟩ : ∃ M, (pa L 4).length = M := ⟨_, rfl⟩
        rw [hM] at hrun ⊢
        generalize wp L 4 = W4 at *
        clear g2 LIT og OGH VB hlen wlt hM
        go_wp2_with (at_builtin; refine wpList_rung rfl (.tmp 43) (.tmp 44) 53 rfl rfl rfl hrun ?_)
        go_ret
        exact ⟨_, rfl, FIN.out⟩

set_option maxHeartbeats 2000000 in
set_option maxRecDepth 100000 in
theorem rall_any (w : World) (v : Value) (Y : List Ev) (hr : LRow evy w v Y) (ok : ∀ e ∈ Y, Eok e) (hl : (Y.length : Int) ≤ 1000) :
    Calls Try.prog 41 #[v] w fun e w' => ∃ v', e = .returned v' ∧ BG w w' v' (Y.flatMap putE) := by
  obtain ⟨a, cap, rfl⟩ := hr.shape
  have HR : Hid (LRow evy w (.slice a Y.length cap) Y) := hr
  obtain ⟨l, hn⟩ : ∃ l, Y.length = l := ⟨_, rfl⟩
  have HN : Hid (Y.length = l) := hn
  rw [hn] at hl HR ⊢
  have HK : Hid (∀ e ∈ Y, Eok e) := ok
  have G0 : Hid (BG w w (.slice none 0 0) ((Y.take 0).flatMap putE)) := og_start by8 5 w
  have GE : Hid (Y.flatMap putE = (Y.take l).flatMap putE) := by show Y.flatMap putE = (Y.take l).flatMap putE; rw [← hn, List.take_length]
  obtain ⟨AL, hAL⟩ : ∃ AL, Y.flatMap putE = AL := ⟨_, rfl⟩
  rw [hAL] at GE ⊢
  clear hr hn ok hAL
  go_enter Try.func41, Try.ntmps41
  go_wp2
  go_loopw [3, 4] (fun u i wr => ∃ k : Nat, (k : Int) ≤ l ∧ BG w wr u ((Y.take k).flatMap putE) ∧ i = .int .i64 k) (fun _ i _ => l - (intOf i).toNat)
  case atStart => exact ⟨0, by omega, G0.out, rfl⟩
  case round =>
    obtain ⟨k, hk, g, rfl⟩ := hrel
    clear G0
    by_cases q : (k : Int) < l
    · have hkl : k < Y.length := by have := HN.out; omega
      obtain ⟨b0, off, e0, _, hc⟩ := lrow_cell (HR.out.below g.bel) hkl
      subst e0
      have oke := HK.out (Y.getD k z5) (by rw [List.getD_eq_getElem?_getD, List.getElem?_eq_getElem hkl]; exact List.getElem_mem hkl)
      have NX : Hid ((Y.take (k + 1)).flatMap putE = (Y.take k).flatMap putE ++ putE (Y.getD k z5)) := flat_take Y k hkl
      have hc' : ∀ j, j < 5 → wr.cell? ⟨b0, off + k * 5 + j, none⟩ = (evL (Y.getD k z5))[j]? := hc
      generalize Y.getD k z5 = ev at *
      have c0 : wr.cell? ⟨b0, off + k * 5, none⟩ = some (.int .i64 ev.kind) := hc' 0 (by omega)
      have c1 : wr.cell? ⟨b0, off + k * 5 + 1, none⟩ = some (.int .i64 ev.cpu) := hc' 1 (by omega)
      have c2 : wr.cell? ⟨b0, off + k * 5 + 2, none⟩ = some (.int .i64 ev.id) := hc' 2 (by omega)
      have c3 : wr.cell? ⟨b0, off + k * 5 + 3, none⟩ = some (.int .u64 ev.mask) := hc' 3 (by omega)
      have c4 : wr.cell? ⟨b0, off + k * 5 + 4, none⟩ = some (.int .i64 ev.n) := hc' 4 (by omega)
      have G : Hid (BG w wr u3 ((Y.take k).flatMap putE)) := g
      have TL : Hid ((((Y.take k).flatMap putE).length : Int) ≤ 100000) := by
        have := flat_len (Y.take k)
        rw [List.length_take] at this
        show (((Y.take k).flatMap putE).length : Int) ≤ 100000
        omega
      have HWC : Hid (∀ _ : Unit, _) := fun _ => rput_any wr ev oke
      have EVV : Hid (evV ev = .agg #[.int .i64 ev.kind, .int .i64 ev.cpu, .int .i64 ev.id, .int .u64 ev.mask, .int .i64 ev.n]) := rfl
      rw [EVV.out] at HWC
      have PLE := putE_len ev
      have PLH : Hid (((putE ev).length : Int) ≤ 100000) := by show ((putE ev).length : Int) ≤ 100000; omega
      clear hc hc' oke g PLE hkl
      go_wp2_with fail
      refine (HWC.out ()).mono ?_
      rintro e u1 ⟨v1, rfl, g1⟩
      obtain ⟨v2, u2, hrun, g2⟩ := bg_many G.out g1.bel g1.row (nil_room g1) TL.out PLH.out
      rw [← NX.out] at g2
      have G2 : Hid (BG w u2 v2 ((Y.take (k + 1)).flatMap putE)) := g2
      obtain ⟨a1, p1, hv1⟩ := g1.shape
      subst hv1
      obtain ⟨M1, hM1⟩ : ∃ M1, (putE ev).length = M1 := ⟨_, rfl⟩
      rw [hM1] at hrun ⊢
      clear g1 g2 hM1 G PLH TL
      go_wp2_with (at_builtin; refine wpList_rung rfl (.tmp 11) (.tmp 16) 53 rfl rfl rfl hrun ?_)
      go_roundw
      case rel => exact ⟨k + 1, by omega, G2.out, by go_num⟩
      case measure => simp [intOf]; omega
    · obtain rfl : k = l := by omega
      have FIN : Hid (BG w wr u3 AL) := by show BG w wr u3 AL; rw [GE.out]; exact g
      clear g
      go_wp2
      go_ret
      exact ⟨_, rfl, FIN.out⟩
end Go.Proofs.Ytmelbbojanomiaa
