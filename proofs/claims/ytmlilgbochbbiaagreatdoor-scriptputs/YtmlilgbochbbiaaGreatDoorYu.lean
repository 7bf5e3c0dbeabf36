/- The texts Wr2 Wr4 of one layer, laid together. -/
import Derived.Test.YtmlilgbochbbiaaGreatDoorRows
import Derived.Test.YtmlilgbochbbiaaGreatDoorYs
import Derived.Test.YtmlilgbochbbiaaGreatDoorYr
import Derived.WalkKit
import Derived.ProofKit
import Derived.OpenShut
import Derived.BigQuiet
namespace Go.Proofs.YtmlilgbochbbiaaGreatDoor.Wir
open Go.ChangeShapes Go.WideShapes Go.ChangeAt Go.RowKit
open Wi0
set_option maxRecDepth 100000 in
set_option maxHeartbeats 2000000 in
theorem field_any (w0 w : World) (v : Value) (xs : List Nat) (n : Int) (g : BG w0 w v xs) (hl : (xs.length : Int) ≤ 1000) (hn : I6 n) :
    Calls Tryz.prog 34 #[v, .int .i64 n] w fun e w' => ∃ v', e = .returned v' ∧ BG w0 w' v' (xs ++ pn n) := by
  obtain ⟨av, cv, hv⟩ := g.shape
  subst hv
  by_cases n0 : n = 0
  · subst n0
    have G : Hid (BG w0 w (.slice av xs.length cv) (xs ++ pn 0)) := by show BG w0 w (.slice av xs.length cv) (xs ++ pn 0); rw [show pn 0 = [] from rfl, List.append_nil]; exact g
    clear g hl hn
    go_enter Tryz.func34, Tryz.ntmps34
    go_wp2
    go_ret
    exact ⟨_, rfl, G.out⟩
  · have n1 : (n == 0) = false := beq_eq_false_iff_ne.2 n0
    rw [show pn n = wd n :: bs n (wd n) from if_neg n0]
    have C : Hid (∀ (k : Nat) (w : World), 1 ≤ k → k ≤ 8 → _) := fun k w h1 h8 => fits_any n k w hn h1 h8
    obtain ⟨c1, c8⟩ := wd_le n
    have WC : Hid (∀ k, 1 ≤ k → k ≤ 8 → (wd n = k ↔ fitk n k = true ∧ (k = 1 ∨ fitk n (k - 1) = false))) := fun k h1 h8 => wd_cases n hn k h1 h8
    obtain ⟨c, hc⟩ : ∃ c, wd n = c := ⟨_, rfl⟩
    rw [hc] at WC c1 c8 ⊢
    have CL : Hid ((1 : Int) ≤ c ∧ (c : Int) ≤ 8) := ⟨by omega, by omega⟩
    have G0 : Hid (BG w0 w (.slice av xs.length cv) xs) := g
    have HL : Hid ((xs.length : Int) ≤ 1000) := hl
    obtain ⟨NN, hNN⟩ : ∃ NN, xs.length = NN := ⟨_, rfl⟩
    rw [hNN] at G0 ⊢
    clear g hl hn hc n0 hNN c1 c8
    go_enter Tryz.func34, Tryz.ntmps34
    go_wp2
    go_loop [5] (fun i => ∃ k : Nat, (1 : Int) ≤ k ∧ (k : Int) ≤ c ∧ (k = 1 ∨ fitk n (k - 1) = false) ∧ i = .int .i64 k) (fun i => 9 - (intOf i).toNat)
    case atStart => exact ⟨1, by omega, by have := CL.out; omega, Or.inl rfl, rfl⟩
    case round =>
      obtain ⟨k, k1, kc, kp, rfl⟩ := hrel
      have k8 : k ≤ 8 := by have := CL.out; omega
      cases hf' : fitk n k with
      | false =>
        have C1 := C.out k w (by omega) k8
        rw [hf'] at C1
        have C2 : Hid (∀ _ : Unit, _) := fun _ => C1
        have kn : k ≠ c := fun e => by
          have := (WC.out k (by omega) k8).1 e.symm
          rw [hf'] at this
          cases this.1
        have KN : Hid (fitk n (k + 1 - 1) = false) := by show fitk n (k + 1 - 1) = false; rw [Nat.add_sub_cancel]; exact hf'
        clear C1
        go_wp2_with fail
        refine (C2.out ()).mono ?_
        rintro e w'' ⟨rfl, e0⟩
        subst e0
        go_wp2
        go_round
        case rel => exact ⟨k + 1, by omega, by omega, Or.inr KN.out, by go_num⟩
        case measure => simp [intOf]; omega
      | true =>
        have kc2 : c = k := (WC.out k (by omega) k8).2 ⟨hf', kp⟩
        subst kc2
        have C1 := C.out c w (by omega) k8
        rw [hf'] at C1
        have C2 : Hid (∀ _ : Unit, _) := fun _ => C1
        have cw : IntKind.u8.wrap (c : Int) = (c : Nat) := by simp [IntKind.wrap, IntKind.bits, IntKind.signed]; omega
        obtain ⟨v1, w1, hrun, g1⟩ := bg_one (wr := w) c G0.out (by have := HL.out; omega)
        have G1 : Hid (BG w0 w1 v1 (xs ++ [c])) := g1
        have ch : (c : Int) ≤ 8 := by omega
        clear C1 g1 kp hf' C WC
        go_wp2_with fail
        refine (C2.out ()).mono ?_
        rintro e w'' ⟨rfl, e0⟩
        subst e0
        go_wp2_with (at_builtin; refine wpList_rung rfl (.tmp 16) (.tmp 19) 26 rfl rfl rfl hrun ?_)
        go_loopw [0, 6] (fun u i wr => ∃ (j : Nat) (T : List Nat), (j : Int) ≤ c ∧ T ++ bs n j = bs n c ∧ BG w0 wr u (xs ++ c :: T) ∧ i = .int .i64 ((j : Int) - 1)) (fun _ i _ => ((intOf i) + 1).toNat)
        case atStart => exact ⟨c, [], by omega, rfl, G1.out, by go_num⟩
        case round =>
          obtain ⟨j, T, hj, hT, g, rfl⟩ := hrel
          by_cases q : (1 : Int) ≤ j
          · obtain ⟨k, rfl⟩ : ∃ k, j = k + 1 := ⟨j - 1, by omega⟩
            have eb : n / 2 ^ (8 * k) % 256 = ((bt n k : Nat) : Int) := by unfold bt; omega
            have NT : Hid ((T ++ [bt n k]) ++ bs n k = bs n c) := by
              show (T ++ [bt n k]) ++ bs n k = bs n c
              rw [List.append_assoc]
              exact hT
            generalize bt n k = x at *
            obtain ⟨v2, w2, hrun2, g2⟩ := bg_one (wr := wr) x g (by
              have h1 := congrArg List.length hT
              rw [List.length_append, bs_len, bs_len] at h1
              rw [List.length_append, List.length_cons]
              have := HL.out
              omega)
            have G2 : Hid (BG w0 w2 v2 (xs ++ c :: (T ++ [x]))) := by
              have e : xs ++ c :: (T ++ [x]) = (xs ++ c :: T) ++ [x] := by simp
              show BG w0 w2 v2 (xs ++ c :: (T ++ [x]))
              rw [e]
              exact g2
            clear g g2 hT hrun
            go_wp2_with (at_builtin; refine wpList_rung rfl (.tmp 27) (.tmp 34) 26 rfl rfl rfl hrun2 ?_)
            go_roundw
            case rel => exact ⟨k, T ++ [x], by omega, NT.out, G2.out, by go_num⟩
            case measure => simp [intOf]; try omega
          · obtain rfl : j = 0 := by omega
            have e : T = bs n c := by simpa [bs] using hT
            subst e
            have G2 : Hid (BG w0 wr u0 (xs ++ c :: bs n c)) := g
            clear g hT hrun
            go_wp2
            go_ret
            exact ⟨_, rfl, G2.out⟩
end Go.Proofs.YtmlilgbochbbiaaGreatDoor.Wir
namespace Go.Proofs.YtmlilgbochbbiaaGreatDoor.Wir
open Go.ChangeShapes Go.WideShapes Go.ChangeAt Go.RowKit
open Wi0
theorem fields_any (w : World) (e : Ev) (ok : Eok e) :
    Calls Tryz.prog 33 #[.agg #[.int .i64 e.kind, .int .i64 e.cpu, .int .i64 e.id, .int .u64 e.mask, .int .i64 e.n]] w fun r w' => r = .returned (.slice (some ⟨w.heap.size + 1, 0, none⟩) 4 4) ∧ Blk w' (w.heap.size + 1) (vb (fs e)) 2 ∧ Below w.heap.size w w' ∧ w.heap.size + 2 ≤ w'.heap.size := by
  have mw : IntKind.i64.wrap e.mask = s6 e.mask := by have a := ok.m0; have b := ok.m1; rw [IntKind.wrap_i64]; unfold s6; split <;> omega
  have VB : Hid (vb (fs e) = [.int .i64 e.cpu, .int .i64 e.id, .int .i64 (s6 e.mask), .int .i64 e.n]) := rfl
  generalize s6 e.mask = y3' at *
  generalize vb (fs e) = VV at *
  generalize e.kind = y0 at *
  generalize e.cpu = y1 at *
  generalize e.id = y2 at *
  generalize e.mask = y3 at *
  generalize e.n = y4 at *
  have F : Hid (∀ o1 o2, Below w.heap.size w ((w.alloc o1).alloc o2) ∧ w.heap.size + 2 ≤ ((w.alloc o1).alloc o2).heap.size) := fun o1 o2 => ⟨((Below.refl _ _).alloc (Nat.le_refl _) o1).alloc (by simp) o2, by simp⟩
  have NB : Hid (∀ o1, Blk ((w.alloc o1).alloc (.cells #[.int .i64 y1, .int .i64 y2, .int .i64 y3', .int .i64 y4] 2)) (w.heap.size + 1) VV 2) := fun o1 => by
    have := Blk.new (w.alloc o1) [.int .i64 y1, .int .i64 y2, .int .i64 y3', .int .i64 y4] 2
    rw [show (w.alloc o1).heap.size = w.heap.size + 1 by simp] at this
    rw [VB.out]
    exact this
  clear ok
  go_enter Tryz.func33, Tryz.ntmps33
  go_wp2
  go_ret
  exact ⟨rfl, NB.out _, F.out _ _⟩
set_option maxRecDepth 100000 in
set_option maxHeartbeats 4000000 in
theorem rput_any (w : World) (e : Ev) (ok : Eok e) :
    Calls Tryz.prog 21 #[evV e] w fun r w' => ∃ v, r = .returned v ∧ BG w w' v (putE e) := by
  obtain ⟨w1, hw1⟩ : ∃ w1, w.alloc (.cells #[.int .i64 e.kind, .int .i64 e.cpu, .int .i64 e.id, .int .u64 e.mask, .int .i64 e.n] 50) = w1 := ⟨_, rfl⟩
  obtain ⟨z, hz⟩ : ∃ z, w.heap.size = z := ⟨_, rfl⟩
  have E1 : Hid (Blk w1 z (evL e) 50 ∧ Below w.heap.size w w1) := by
    rw [← hw1, ← hz]
    exact ⟨Blk.new w (evL e) 50, (Below.refl _ _).alloc (Nat.le_refl _) _⟩
  have HZ : Hid (w.heap.size = z) := hz
  have HWA : Hid (w.alloc (.cells #[.int .i64 e.kind, .int .i64 e.cpu, .int .i64 e.id, .int .u64 e.mask, .int .i64 e.n] 50) = w1) := hw1
  show Calls Tryz.prog 21 #[.agg #[.int .i64 e.kind, .int .i64 e.cpu, .int .i64 e.id, .int .u64 e.mask, .int .i64 e.n]] w _
  cases hk : okk e.kind with
  | false =>
    have hp : putE e = [] := by unfold putE; rw [hk]; rfl
    rw [hp]
    have kk : e.kind < 1 ∨ (¬ e.kind < 1 ∧ 30 < e.kind) := by simp [okk] at hk; omega
    have BB : Hid (∀ o, Below w.heap.size w (w.alloc o)) := fun o => (Below.refl _ _).alloc (Nat.le_refl _) o
    clear hw1 hz hk hp ok E1 HZ HWA
    generalize e.kind = y0 at *
    generalize e.cpu = y1 at *
    generalize e.id = y2 at *
    generalize e.mask = y3 at *
    generalize e.n = y4 at *
    rcases kk with k1 | ⟨k1, k2⟩
    all_goals
      go_enter Tryz.func21, Tryz.ntmps21
      go_wp2
      go_ret
      exact ⟨_, rfl, World.ownsRow_nil _ _ _ _, BB.out _⟩
  | true =>
    have hk2 := hk
    simp only [okk, Bool.and_eq_true, decide_eq_true_eq] at hk2
    have k1 : ¬ e.kind < 1 := by omega
    have k2 : ¬ 30 < e.kind := by omega
    have hp : putE e = e.kind.toNat :: wp (fs e) 4 :: pa (fs e) 4 := by unfold putE; rw [hk, wp_four]; rfl
    have kw : IntKind.u8.wrap e.kind = ((e.kind.toNat : Nat) : Int) := by simp [IntKind.wrap, IntKind.bits, IntKind.signed]; omega
    have FF : Hid (∀ u, _) := fun u => fields_any u e ok
    have FI : Hid (∀ i, i < 4 → I6 ((fs e).getD i 0)) := fun i hi => by
      have : i = 0 ∨ i = 1 ∨ i = 2 ∨ i = 3 := by omega
      rcases this with rfl | rfl | rfl | rfl
      · exact ok.c
      · exact ok.i
      · exact s6_i _ ok.m0 ok.m1
      · exact ok.n
    have FL : Hid ((fs e).length = 4) := rfl
    obtain ⟨K, hK⟩ : ∃ K, e.kind.toNat = K := ⟨_, rfl⟩
    rw [hK] at kw hp
    have HK30 : Hid (K ≤ 30) := by show K ≤ 30; omega
    have HP : Hid (putE e = K :: wp (fs e) 4 :: pa (fs e) 4) := hp
    obtain ⟨PE, hPE⟩ : ∃ PE, putE e = PE := ⟨_, rfl⟩
    rw [hPE] at HP ⊢
    generalize fs e = L at *
    have KC : Hid (∀ u, Below w1.heap.size w1 u → u.cell? ⟨z, 0, none⟩ = some (.int .i64 e.kind)) := fun u hu => (hu.cell (p := ⟨z, 0, none⟩) E1.out.1.lt).trans (E1.out.1.cell 0)
    have b0 : w1.cell? ⟨z, 0, none⟩ = some (.int .i64 e.kind) := E1.out.1.cell 0
    have b1 : w1.cell? ⟨z, 1, none⟩ = some (.int .i64 e.cpu) := E1.out.1.cell 1
    have b2 : w1.cell? ⟨z, 2, none⟩ = some (.int .i64 e.id) := E1.out.1.cell 2
    have b3 : w1.cell? ⟨z, 3, none⟩ = some (.int .u64 e.mask) := E1.out.1.cell 3
    have b4 : w1.cell? ⟨z, 4, none⟩ = some (.int .i64 e.n) := E1.out.1.cell 4
    have B1 : Hid (Below w.heap.size w w1) := E1.out.2
    clear hw1 hz hk hk2 hp ok hK hPE E1
    generalize e.kind = y0 at *
    generalize e.cpu = y1 at *
    generalize e.id = y2 at *
    generalize e.mask = y3 at *
    generalize e.n = y4 at *
    go_enter Tryz.func21, Tryz.ntmps21
    go_wp2_with fail
    rw [HWA.out]
    refine (FF.out _).mono ?_
    rintro r u ⟨rfl, vb0, bu, su⟩
    obtain ⟨q, hq⟩ : ∃ q, w1.heap.size + 1 = q := ⟨_, rfl⟩
    rw [hq] at vb0 ⊢
    have UB : Hid (Blk u q (vb L) 2 ∧ Below w1.heap.size w1 u) := ⟨vb0, bu⟩
    have BU : Hid (Below w.heap.size w u) := B1.out.trans (bu.mono B1.out.size)
    rw [HZ.out]
    have G0 : Hid (BG u u (.slice none 0 0) (pa L 0)) := og_start by8 5 u
    clear vb0 bu su hq FF b0 b1 b2 b3 b4
    go_wp2
    go_loopw [4, 5, 6] (fun wv bv iv wr => ∃ i : Nat, (i : Int) ≤ 4 ∧ wv = .int .u8 (wp L i : Nat) ∧ BG u wr bv (pa L i) ∧ iv = .int .i64 i) (fun _ _ i _ => 4 - (intOf i).toNat)
    case atStart => exact ⟨0, by omega, rfl, G0.out, rfl⟩
    case round =>
      obtain ⟨i, hi, rfl, og, rfl⟩ := hrel
      clear G0
      have OGH : Hid (BG u wr u5 (pa L i)) := og
      have hlen := pa_len L i (by omega)
      have wlt := wp_lt L i
      have VB := UB.out.1.keep (Fr.of_below og.bel) UB.out.1.lt (by simp)
      by_cases i4 : (i : Int) < 4
      · have vi : wr.cell? ⟨q, i, none⟩ = some (.int .i64 (L.getD i 0)) := by
          have c := VB.cell i
          rw [c]
          have : i = 0 ∨ i = 1 ∨ i = 2 ∨ i = 3 := by omega
          rcases this with rfl | rfl | rfl | rfl <;> rfl
        have NP : Hid (pa L (i + 1) = pa L i ++ pn (L.getD i 0)) := pa_step L i (by have := FL.out; omega)
        have NW : Hid (wp L (i + 1) = wp L i + wn (L.getD i 0) (2 ^ i)) := rfl
        have xi := FI.out i (by omega)
        generalize L.getD i 0 = x at *
        have C : Hid (∀ _ : Unit, _) := fun _ => field_any u wr u5 (pa L i) x og (by omega) xi
        have pw : wp L i + 2 ^ i < 256 ∧ 2 ^ i < 256 := by
          have : i = 0 ∨ i = 1 ∨ i = 2 ∨ i = 3 := by omega
          rcases this with rfl | rfl | rfl | rfl <;> simp at wlt ⊢ <;> omega
        by_cases x0 : x = 0
        · subst x0
          have NW2 : Hid (wp L (i + 1) = wp L i) := by rw [NW.out]; rfl
          clear xi wlt og hlen VB pw
          go_wp2_with fail
          refine (C.out ()).mono ?_
          rintro r t ⟨v', rfl, g2⟩
          have NG : Hid (BG u t v' (pa L (i + 1))) := by rw [NP.out]; exact g2
          clear g2 C
          go_wp2
          go_roundw
          case rel => exact ⟨i + 1, by omega, by rw [NW2.out], NG.out, by go_num⟩
          case measure => simp [intOf]; omega
        · have x1 : (x == 0) = false := beq_eq_false_iff_ne.2 x0
          have NW2 : Hid (wp L (i + 1) = wp L i + 2 ^ i) := by rw [NW.out]; show _ + wn x _ = _; rw [show wn x (2 ^ i) = 2 ^ i from if_neg x0]
          have four_or : i = 0 ∨ i = 1 ∨ i = 2 ∨ i = 3 := by omega
          clear xi og hlen VB x0
          rcases four_or with rfl | rfl | rfl | rfl
          · have aw : IntKind.u8.wrap ((wp L 0 : Int) + 1) = ((wp L 1 : Nat) : Int) := by
              have e := NW2.out
              simp only [IntKind.wrap, IntKind.bits, IntKind.signed]
              simp at wlt pw e ⊢
              omega
            have AW : Hid (IntKind.u8.wrap ((wp L 0 : Int) + 1) = ((wp L 1 : Nat) : Int)) := aw
            clear aw pw wlt
            go_wp2_with fail
            refine (C.out ()).mono ?_
            rintro r t ⟨v', rfl, g2⟩
            have NG : Hid (BG u t v' (pa L 1)) := by show BG u t v' (pa L 1); rw [NP.out]; exact g2
            clear g2 C
            go_wp2
            go_roundw
            case rel => exact ⟨1, by omega, by have e := AW.out; first | exact congrArg _ e | (simp only [Value.int.injEq, true_and]; simpa using e), NG.out, by go_num⟩
            case measure => simp [intOf]
          · have aw : IntKind.u8.wrap ((wp L 1 : Int) + 2) = ((wp L 2 : Nat) : Int) := by
              have e := NW2.out
              simp only [IntKind.wrap, IntKind.bits, IntKind.signed]
              simp at wlt pw e ⊢
              omega
            have AW : Hid (IntKind.u8.wrap ((wp L 1 : Int) + 2) = ((wp L 2 : Nat) : Int)) := aw
            clear aw pw wlt
            go_wp2_with fail
            refine (C.out ()).mono ?_
            rintro r t ⟨v', rfl, g2⟩
            have NG : Hid (BG u t v' (pa L 2)) := by show BG u t v' (pa L 2); rw [NP.out]; exact g2
            clear g2 C
            go_wp2
            go_roundw
            case rel => exact ⟨2, by omega, by have e := AW.out; first | exact congrArg _ e | (simp only [Value.int.injEq, true_and]; simpa using e), NG.out, by go_num⟩
            case measure => simp [intOf]
          · have aw : IntKind.u8.wrap ((wp L 2 : Int) + 4) = ((wp L 3 : Nat) : Int) := by
              have e := NW2.out
              simp only [IntKind.wrap, IntKind.bits, IntKind.signed]
              simp at wlt pw e ⊢
              omega
            have AW : Hid (IntKind.u8.wrap ((wp L 2 : Int) + 4) = ((wp L 3 : Nat) : Int)) := aw
            clear aw pw wlt
            go_wp2_with fail
            refine (C.out ()).mono ?_
            rintro r t ⟨v', rfl, g2⟩
            have NG : Hid (BG u t v' (pa L 3)) := by show BG u t v' (pa L 3); rw [NP.out]; exact g2
            clear g2 C
            go_wp2
            go_roundw
            case rel => exact ⟨3, by omega, by have e := AW.out; first | exact congrArg _ e | (simp only [Value.int.injEq, true_and]; simpa using e), NG.out, by go_num⟩
            case measure => simp [intOf]
          · have aw : IntKind.u8.wrap ((wp L 3 : Int) + 8) = ((wp L 4 : Nat) : Int) := by
              have e := NW2.out
              simp only [IntKind.wrap, IntKind.bits, IntKind.signed]
              simp at wlt pw e ⊢
              omega
            have AW : Hid (IntKind.u8.wrap ((wp L 3 : Int) + 8) = ((wp L 4 : Nat) : Int)) := aw
            clear aw pw wlt
            go_wp2_with fail
            refine (C.out ()).mono ?_
            rintro r t ⟨v', rfl, g2⟩
            have NG : Hid (BG u t v' (pa L 4)) := by show BG u t v' (pa L 4); rw [NP.out]; exact g2
            clear g2 C
            go_wp2
            go_roundw
            case rel => exact ⟨4, by omega, by have e := AW.out; first | exact congrArg _ e | (simp only [Value.int.injEq, true_and]; simpa using e), NG.out, by go_num⟩
            case measure => simp [intOf]
      · obtain rfl : i = 4 := by omega
        have q0 := KC.out wr (UB.out.2.trans (og.bel.mono UB.out.2.size))
        obtain ⟨av, cv, hv⟩ := og.shape
        subst hv
        have LIT : BG wr (wr.alloc (.cells #[.int .u8 (K : Nat), .int .u8 (wp L 4 : Nat)] 5)) (.slice (some ⟨wr.heap.size, 0, none⟩) 2 2) [K, wp L 4] :=
          ⟨World.ownsRow_lit wr #[.int .u8 (K : Nat), .int .u8 (wp L 4 : Nat)] 2 (Nat.le_refl _) (by decide) rfl, (Below.refl _ _).alloc (Nat.le_refl _) _⟩
        obtain ⟨v2, w2, hrun, g2⟩ := bg_many LIT (Below.refl _ _) (og.row.below LIT.bel) (nil_room og) (by simp) (by omega)
        have FIN : Hid (BG w w2 v2 PE) := by
          show BG w w2 v2 PE
          rw [HP.out]
          exact bg_base g2 (BU.out.trans (og.bel.mono BU.out.size))
        obtain ⟨M, hM⟩ : ∃ M, (pa L 4).length = M := ⟨_, rfl⟩
        rw [hM] at hrun ⊢
        generalize wp L 4 = W4 at *
        clear g2 LIT og OGH VB hlen wlt hM
        go_wp2_with (at_builtin; refine wpList_rung rfl (.tmp 43) (.tmp 44) 26 rfl rfl rfl hrun ?_)
        go_ret
        exact ⟨_, rfl, FIN.out⟩
end Go.Proofs.YtmlilgbochbbiaaGreatDoor.Wir
