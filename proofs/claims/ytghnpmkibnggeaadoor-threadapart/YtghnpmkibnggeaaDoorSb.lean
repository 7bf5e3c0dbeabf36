/- What slot's Take and List answer and leave, for every table (where the table of the lowest bits reads as the program's text lays it); and the calls of a table that is not there. -/
import Derived.Test.YtghnpmkibnggeaaDoorRows
import Derived.Test.YtghnpmkibnggeaaDoorSa
import Derived.Test.YtghnpmkibnggeaaDoorFg
import Derived.Test.YtghnpmkibnggeaaDoorFj
import Derived.WalkKit
import Derived.ProofKit
import Derived.OpenShut
import Derived.BigQuiet
namespace Go.Proofs.YtghnpmkibnggeaaDoor
open Go.ChangeShapes Go.WideShapes Go.ChangeAt Go.RowKit
open Mm Sl

theorem not_bit {x i : Nat} (hx : x < 18446744073709551616) (hi : i < 64) : (18446744073709551615 - x).testBit i = !x.testBit i := by
  rw [bit_max x i hx, decide_eq_true hi, Bool.true_and]

theorem not_word (x : Nat) (hx : x < 18446744073709551616) : bits .xor .u64 IntKind.u64.max (x : Int) = ((18446744073709551615 - x : Nat) : Int) := by
  have e : (18446744073709551615 : Nat) ^^^ x = 18446744073709551615 - x := by
    apply Nat.eq_of_testBit_eq
    intro i
    rw [Nat.testBit_xor, bit_max x i hx, max_eq, Nat.testBit_two_pow_sub_one]
    by_cases hi : i < 64
    · simp [hi]
    · rw [bit_hi hx (by omega)]
      simp [hi]
  have h := u64_xor_nat 18446744073709551615 x (by omega) hx
  rw [e] at h
  exact h

theorem low_zero {y f q : Nat} (e : y = 2 ^ f * (2 * q + 1)) {i : Nat} (hi : i < f) : y.testBit i = false := by
  rw [e, Nat.mul_comm, Nat.testBit_mul_two_pow]
  have : ¬ f ≤ i := by omega
  simp [this]
theorem low_one {y f q : Nat} (e : y = 2 ^ f * (2 * q + 1)) : y.testBit f = true := by
  rw [e, Nat.mul_comm, Nat.testBit_mul_two_pow]
  simp

/-- A word all whose bits are 1. -/
theorem full_word {m : Nat} {W : List Nat} {O : Nat → Bool} (h : Wd m W O) {k : Nat} (hk : k < W.length) (e : W.getD k 0 = 18446744073709551615) (g : ∀ t, t < 64 * k → t < m → O (t + 1) = true) : ∀ t, t < 64 * (k + 1) → t < m → O (t + 1) = true := by
  intro t ht hm
  by_cases c : t < 64 * k
  · exact g t c hm
  · have hb := h.bit k (t - 64 * k) hk (by omega)
    rw [e, show 64 * k + (t - 64 * k) = t by omega] at hb
    have : (18446744073709551615 : Nat).testBit (t - 64 * k) = true := by
      rw [max_eq, Nat.testBit_two_pow_sub_one]
      exact decide_eq_true (by omega)
    rw [this] at hb
    have := hb.symm
    rw [Bool.and_eq_true] at this
    exact this.2

/-- The lowest bit of a word that is 0. -/
theorem part_word {m : Nat} {W : List Nat} {O : Nat → Bool} (h : Wd m W O) {k f q : Nat} (hk : k < W.length) (hf : f < 64) (e : 18446744073709551615 - W.getD k 0 = 2 ^ f * (2 * q + 1)) (g : ∀ t, t < 64 * k → t < m → O (t + 1) = true) :
    (∀ t, t < 64 * k + f → O (t + 1) = true ∨ m ≤ t) ∧ (64 * k + f < m → O (64 * k + f + 1) = false) := by
  have hx := h.lt k hk
  refine ⟨fun t ht => ?_, fun hm => ?_⟩
  · by_cases c : t < 64 * k
    · by_cases d : t < m
      · exact Or.inl (g t c d)
      · exact Or.inr (by omega)
    · have hb := h.bit k (t - 64 * k) hk (by omega)
      have hl := low_zero e (show t - 64 * k < f by omega)
      rw [not_bit hx (by omega), hb, show 64 * k + (t - 64 * k) = t by omega] at hl
      simp at hl
      exact Or.inl hl.2
  · have hb := h.bit k f hk hf
    have hl := low_one e
    rw [not_bit hx hf, hb, decide_eq_true hm] at hl
    simpa using hl

set_option maxHeartbeats 1000000 in
theorem take_any {b g m : Nat} {W : List Nat} {O : Nat → Bool} (w : World) (h : T w b g m W O) (ht : Tab w) :
    Calls Tryd.prog 48 #[.pointer (some ⟨b, 0, none⟩)] w fun e w' => e = .returned (.tuple #[.int .i64 (tN (ff m O)), .int .i64 (tE (ff m O))]) ∧ (∃ W', T w' b g m W' (tO O (ff m O))) ∧ Fr w.heap.size [b, g] w w' := by
  have c0 := h.c0
  have c1 := h.c1
  have hl := h.len
  have HT : Hid (T w b g m W O) := h
  have HB : Hid (Tab w) := ht
  have hm : (m : Int) ≤ 1024 := by have := h.wd.m2; omega
  obtain ⟨nw, hn⟩ : ∃ nw, W.length = nw := ⟨_, rfl⟩
  have HN : Hid (W.length = nw) := hn
  obtain ⟨V, hV⟩ : ∃ V, tN (ff m O) = V := ⟨_, rfl⟩
  obtain ⟨E, hE⟩ : ∃ E, tE (ff m O) = E := ⟨_, rfl⟩
  obtain ⟨U, hU⟩ : ∃ U, tO O (ff m O) = U := ⟨_, rfl⟩
  have HF : Hid (∀ F, ff m O = F → V = tN F ∧ E = tE F ∧ U = tO O F) := fun F e => by rw [← hV, ← hE, ← hU, e]; exact ⟨rfl, rfl, rfl⟩
  rw [hn] at c0 hl
  rw [hV, hE, hU]
  clear h ht hn hV hE hU
  go_enter Tryd.func48, Tryd.ntmps48
  go_wp2
  go_loop [14] (fun i => ∃ k : Nat, (k : Int) ≤ nw ∧ Hid (∀ t, t < 64 * k → t < m → O (t + 1) = true) ∧ i = .int .i64 k) (fun i => nw - (intOf i).toNat)
  case atStart => exact ⟨0, by omega, fun t ht => by omega, rfl⟩
  case round =>
    obtain ⟨k, hk, hG, rfl⟩ := hrel
    by_cases e : (k : Int) < nw
    · have hk2 : k < W.length := by have := HN.out; omega
      have cg := HT.out.word hk2
      have lt := HT.out.wd.lt k hk2
      by_cases c : W.getD k 0 = 18446744073709551615
      · have s : Hid (∀ t, t < 64 * (k + 1) → t < m → O (t + 1) = true) := full_word HT.out.wd hk2 c hG.out
        rw [c] at cg
        have hx : bits .xor .u64 IntKind.u64.max (18446744073709551615 : Int) = 0 := not_word 18446744073709551615 (by omega)
        have cg2 : w.cell? ⟨g, k, none⟩ = some (.int .u64 18446744073709551615) := cg
        clear lt c hk2 cg
        go_wp2_with fail
        refine (tz_zero _).mono ?_
        rintro e w' ⟨rfl, rfl⟩
        go_wp2
        go_round
        case rel => exact ⟨k + 1, by omega, s, by go_num⟩
        case measure => simp [intOf]; omega
      · have hx := not_word (W.getD k 0) lt
        have Z : Hid (∀ _ : Unit, _) := fun _ => tz_any (18446744073709551615 - W.getD k 0) w (by omega) (by omega) HB.out
        obtain ⟨q, eq, hf⟩ := odd_spec 64 (18446744073709551615 - W.getD k 0) (by omega) (by omega)
        generalize Lib.ntzAux 64 (18446744073709551615 - W.getD k 0) = f at *
        obtain ⟨p1, p2⟩ := part_word HT.out.wd hk2 hf eq hG.out
        have NM : Hid (∀ w, _) := fun w => number_any k f w (by omega) (by omega)
        have hf2 : (f : Int) < 64 := by omega
        have fn : ((f : Int) == 64) = false := by simp; omega
        by_cases d : 64 * k + f < m
        · obtain ⟨n, hn⟩ : ∃ n, 64 * k + f + 1 = n := ⟨_, rfl⟩
          have hs := HF.out _ (ff_some m O _ d (p2 d) fun t ht => (p1 t ht).resolve_right (by omega))
          have e1 : V = ((64 * k + f + 1 : Nat) : Int) := hs.1
          have e2 : E = 0 := hs.2.1
          have e3 : U = st O (64 * k + f + 1) true := hs.2.2
          have TS : Hid _ := t_store HT.out k _ (wd_set HT.out.wd k f hk2 hf d)
          have ho : bits .or .u64 ((W.getD k 0 : Nat) : Int) ((2 : Int) ^ f) = ((W.getD k 0 ||| 2 ^ f : Nat) : Int) := by
            rw [show ((2 : Int) ^ f) = ((2 ^ f : Nat) : Int) by simp]
            exact bits_or_u64_nat (W.getD k 0) (2 ^ f) lt (pow_lt f hf)
          have hp : IntKind.u64.wrap ((2 : Int) ^ f) = (2 : Int) ^ f := by rw [pow_word f hf]; simp
          have fg : w.frozen? ⟨g, k, none⟩ = false := HT.out.sg.free _
          have d2 : ((64 * k + f + 1 : Nat) : Int) ≤ m := by omega
          rw [hn] at NM TS d2 e1 e3
          subst e1
          subst e2
          subst e3
          clear hs hn
          clear p1 p2 d eq c lt hk2 hf
          generalize W.getD k 0 ||| 2 ^ f = z at *
          generalize 18446744073709551615 - W.getD k 0 = y at *
          generalize W.getD k 0 = x at *
          go_wp2_with fail
          refine (Z.out ()).mono ?_
          rintro e w' ⟨rfl, rfl⟩
          go_wp2_with fail
          refine (NM.out _).mono ?_
          rintro e w' ⟨rfl, rfl⟩
          go_wp2
          go_ret2
          exact ⟨rfl, ⟨_, TS.out⟩, (Fr.refl _ _ _).setCell (Or.inr (by simp)) _⟩
        · have hs := HF.out _ (ff_none m O fun t ht => (p1 t (by omega)).resolve_right (by omega))
          have e1 : V = 0 := hs.1
          have e2 : E = 5 := hs.2.1
          have e3 : U = O := hs.2.2
          subst e1
          subst e2
          subst e3
          clear hs
          have d2 : (m : Int) < ((64 * k + f + 1 : Nat) : Int) := by omega
          generalize 64 * k + f + 1 = n at *
          clear p1 p2 d eq c lt hk2 hf
          generalize 18446744073709551615 - W.getD k 0 = y at *
          generalize W.getD k 0 = x at *
          go_wp2_with fail
          refine (Z.out ()).mono ?_
          rintro e w' ⟨rfl, rfl⟩
          go_wp2_with fail
          refine (NM.out _).mono ?_
          rintro e w' ⟨rfl, rfl⟩
          go_wp2
          go_ret2
          exact ⟨rfl, ⟨_, HT.out⟩, Fr.refl _ _ _⟩
    · have hs := HF.out _ (ff_none m O fun t ht => hG.out t (by have h1 := HT.out.wd.len; have h2 := HN.out; omega) ht)
      have e1 : V = 0 := hs.1
      have e2 : E = 5 := hs.2.1
      have e3 : U = O := hs.2.2
      subst e1
      subst e2
      subst e3
      clear hs
      go_wp2
      go_ret2
      exact ⟨rfl, ⟨_, HT.out⟩, Fr.refl _ _ _⟩

/-- What is gathered while one word is gone over: what is left of it. -/
theorem word_step {W : List Nat} {k x q f : Nat} {G : List Int} (hf : f < 64) (e : x = 2 ^ f * (2 * q + 1)) (h : G ++ (ls x).map (fun i : Nat => ((64 * k + i + 1 : Nat) : Int)) = lk W (k + 1)) :
    (G ++ [((64 * k + f + 1 : Nat) : Int)]) ++ (ls (x &&& (x - 1))).map (fun i : Nat => ((64 * k + i + 1 : Nat) : Int)) = lk W (k + 1) := by
  rw [ls_pred x f q hf e] at h
  rw [← h]
  simp

theorem and_pred_lt (x : Nat) (h : 0 < x) : x &&& (x - 1) < x := by
  have := Nat.and_le_right (n := x) (m := x - 1)
  omega

set_option maxRecDepth 100000 in
set_option maxHeartbeats 2000000 in
theorem list_any {b g m : Nat} {W : List Nat} {O : Nat → Bool} (w : World) (h : T w b g m W O) (ht : Tab w) (hs : 0 < w.heap.size) :
    Calls Tryd.prog 45 #[.pointer (some ⟨b, 0, none⟩)] w fun e w' => ∃ v, e = .returned v ∧ Gt w w' v (li m O) := by
  obtain ⟨i0, hi, hz0, hz1, hz2⟩ := info_parts Tryd.info3
  have C : Hid (∀ _ : Unit, _) := fun _ => len_any w h
  have c0 := h.c0
  have hl := h.len
  have HT : Hid (T w b g m W O) := h
  have HB : Hid (∀ wr, Below w.heap.size w wr → Tab wr) := fun wr hb => ht.keep hs (by simp) (Fr.of_below hb)
  have HC : Hid (∀ wr, Below w.heap.size w wr → wr.cell? ⟨b, 0, none⟩ = some (.slice (some ⟨g, 0, none⟩) W.length W.length)) := fun wr hb => (hb.cell (p := ⟨b, 0, none⟩) h.sb.lt).trans h.c0
  have HW : Hid (∀ (wr : World) (j : Nat), Below w.heap.size w wr → (j : Int) < W.length → wr.cell? ⟨g, j, none⟩ = some (.int .u64 ((W.getD j 0 : Nat) : Int)) ∧ W.getD j 0 < 18446744073709551616) := fun wr j hb hj => ⟨(hb.cell (p := ⟨g, j, none⟩) h.sg.lt).trans (h.word (by omega)), h.wd.lt j (by omega)⟩
  have hlen : ((li m O).length : Int) ≤ 1024 := by have := li_le m O; have := h.wd.m2; omega
  have HE : Hid (lk W W.length = li m O) := lk_all h.wd
  obtain ⟨R, hR⟩ : ∃ R, li m O = R := ⟨_, rfl⟩
  rw [hR] at C hlen HE ⊢
  obtain ⟨N, hN⟩ : ∃ N, R.length = N := ⟨_, rfl⟩
  rw [hN] at C hlen
  obtain ⟨nw, hn⟩ : ∃ nw, W.length = nw := ⟨_, rfl⟩
  rw [hn] at c0 hl HC HW HE
  clear h ht hR hN hn
  go_enter Tryd.func45, Tryd.ntmps45
  go_wp2_with fail
  refine (C.out ()).mono ?_
  rintro e w' ⟨rfl, rfl⟩
  go_wp2_with (at_make; refine wpList_make_own _ rfl _ _ 36 rfl w'.heap.size 3 i0 (.int .i64 0) 1 Tryd.underlying36 hi hz0 hz1 _ _ _ N rfl rfl (by omega) (by rw [hz2]; omega) (by unfold maxLen; omega) (Nat.le_refl _) ?_; intro w0 hown0 hgrow0; have g0 : Gt w' w0 (.slice (some ⟨w'.heap.size, 0, none⟩) 0 N) [] := ⟨hown0, (Below.refl _ _).grown hgrow0 (Nat.le_refl _) (fun k hk => by cases hk)⟩; have k0 := HC.out w0 g0.bel; clear hown0 hgrow0)
  go_loopw [3, 16] (fun v i wr => ∃ (k : Nat) (G : List Int), (k : Int) ≤ nw ∧ i = .int .i64 k ∧ Gt w' wr v G ∧ Hid (G = lk W k)) (fun _ i _ => nw - (intOf i).toNat)
  case atStart => exact ⟨0, [], by omega, rfl, g0, rfl⟩
  case round =>
    obtain ⟨k, G, hk, rfl, gt, hG⟩ := hrel
    clear g0 k0
    by_cases e : (k : Int) < nw
    · have c1 := HC.out wr gt.bel
      obtain ⟨cg, lt⟩ := HW.out wr k gt.bel e
      have HG : Hid (G ++ (ls (W.getD k 0)).map (fun i : Nat => ((64 * k + i + 1 : Nat) : Int)) = lk W (k + 1)) := by rw [hG.out, lk_succ]; exact rfl
      generalize W.getD k 0 = x at *
      have GT : Hid (Gt w' wr _ G) := gt
      have lx : Hid ((x : Int) < 18446744073709551616) := by unfold Hid; omega
      clear hG gt lt
      go_wp2
      go_loopw [3, 5] (fun v l wr => ∃ (x : Nat) (G : List Int), l = .int .u64 x ∧ Hid ((x : Int) < 18446744073709551616) ∧ Gt w' wr v G ∧ Hid (G ++ (ls x).map (fun i : Nat => ((64 * k + i + 1 : Nat) : Int)) = lk W (k + 1))) (fun _ l _ => (intOf l).toNat)
      case atStart => exact ⟨x, G, rfl, lx, GT.out, HG⟩
      case round =>
        obtain ⟨y, G2, rfl, hY, gt2, hG2⟩ := hrel
        have hy := hY.out
        clear GT HG c1 cg lx
        by_cases z : y = 0
        · subst z
          have hG3 : Hid (G2 = lk W (k + 1)) := by
            have := hG2.out
            rw [ls_zero, List.map_nil, List.append_nil] at this
            exact this
          clear hG2 hy
          go_wp2
          go_roundw
          case rel => exact ⟨k + 1, G2, by omega, by go_num, gt2, hG3⟩
          case measure => simp [intOf]; omega
        · have Z : Hid (∀ _ : Unit, _) := fun _ => tz_any y wr (by omega) (by omega) (HB.out wr gt2.bel)
          obtain ⟨q, eq, hf⟩ := odd_spec 64 y (by omega) (by omega)
          generalize Lib.ntzAux 64 y = f at *
          have NM : Hid (∀ w, _) := fun w => number_any k f w (by omega) (by omega)
          have hG3 : Hid _ := word_step hf eq hG2.out
          have hgl : (G2.length : Int) ≤ 1100 := by
            have h1 := congrArg List.length hG2.out
            have h2 := lk_le W (k + 1)
            rw [List.length_append] at h1
            omega
          have y1 : (1 : Int) ≤ y := by omega
          have ha : bits .and .u64 (y : Int) (IntKind.u64.wrap ((y : Int) - 1)) = ((y &&& (y - 1) : Nat) : Int) := by
            rw [show IntKind.u64.wrap ((y : Int) - 1) = ((y - 1 : Nat) : Int) by rw [IntKind.wrap_u64]; omega]
            exact bits_and_u64_nat y (y - 1) (by omega) (by omega)
          have hlt : ((y &&& (y - 1) : Nat) : Int) < y := by have := and_pred_lt y (by omega); omega
          have hsz := gt2.bel.size
          have GT2 : Hid (Gt w' wr _ G2) := gt2
          obtain ⟨n, hn⟩ : ∃ n, ((64 * k + f + 1 : Nat) : Int) = n := ⟨_, rfl⟩
          rw [hn] at NM hG3
          generalize y &&& (y - 1) = y2 at *
          have hY2 : Hid ((y2 : Int) < 18446744073709551616) := by unfold Hid; omega
          have yb : ((y : Int) != 0) = true := by simp; omega
          have HA : Hid (bits .and .u64 (y : Int) (IntKind.u64.wrap ((y : Int) - 1)) = (y2 : Int)) := ha
          clear hG2 eq hf z hn gt2 hy y1 ha
          go_wp2_with fail
          refine (Z.out ()).mono ?_
          rintro e w1 ⟨rfl, rfl⟩
          go_wp2_with fail
          refine (NM.out _).mono ?_
          rintro e w1 ⟨rfl, rfl⟩
          go_wp2_with (at_builtin; refine wpList_append_own _ rfl _ _ 36 rfl w'.heap.size 3 i0 (.int .i64 0) 1 8 Tryd.underlying36 hi hz0 hz1 hz2 rfl (by decide) _ _ _ rfl (GT2.out.own.alloc _) ⟨_, 0, none⟩ 1 1 [.int .i64 n] rfl rfl ?c1 ?c2 ?c3 ?c4 ?c5 ?_)
          case c1 =>
            intro j u hj
            match j, hj with
            | 0, hj => simp at hj; subst hj; exact (Blk.new _ [_] _).cell 0
          case c2 => intro u hu; simp at hu; subst hu; rfl
          case c3 => unfold maxLen; omega
          case c4 => omega
          case c5 => simp; omega
          intro v' w2 hown' hgrow _
          have G3 := gt_app GT2.out hown' hgrow
          have ha := HA.out
          clear hown' hgrow yb
          go_wp2
          go_roundw
          case rel => exact ⟨y2, _, rfl, hY2, G3, hG3⟩
          case measure => simp [intOf]; omega
    · have e2 : G = R := by rw [hG.out, show k = nw by omega]; exact HE.out
      subst e2
      go_wp2
      go_ret
      exact ⟨_, rfl, gt⟩

end Go.Proofs.YtghnpmkibnggeaaDoor
