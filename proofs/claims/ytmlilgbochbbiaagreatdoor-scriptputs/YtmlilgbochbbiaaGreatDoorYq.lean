/- The texts Wi5 Wi6 of one layer, laid together. -/
import Derived.Test.YtmlilgbochbbiaaGreatDoorRows
import Derived.Test.YtmlilgbochbbiaaGreatDoorYp
import Derived.WalkKit
import Derived.ProofKit
import Derived.OpenShut
import Derived.BigQuiet
import Derived.Laws.MakeOwn
import Derived.Shelf.RegionOpenPlain
namespace Go.Proofs.YtmlilgbochbbiaaGreatDoor.Wir
open Go.ChangeShapes Go.WideShapes Go.ChangeAt Go.RowKit
open Wi0
abbrev BG := OG by8 5
theorem bg_one {w wr : World} {v : Value} {xs : List Nat} (x : Nat) (g : BG w wr v xs) (hl : (xs.length : Int) ≤ 100000) :
    ∃ v' w2, (Builtin.append_ #[26, 26] 26 #[v, .slice (some ⟨wr.heap.size, 0, none⟩) 1 1]).run Tryz.prog (wr.alloc (.cells #[.int .u8 (x : Nat)] 5)) = .ok v' w2 ∧ BG w w2 v' (xs ++ [x]) := by
  obtain ⟨i0, hi, hz0, hz1, hz2⟩ := info_parts Tryz.info8
  exact og_app 5 26 26 i0 (.int .u8 0) 1 Tryz.underlying26 hi hz0 hz1 hz2 rfl one_by8 g ((Below.refl _ _).alloc (Nat.le_refl _) _) (orow_new (c := by8) wr [x] 5 1 1 rfl) (fun a cap h => by simp at h) (by simp only [List.length_singleton, maxLen]; omega) (by simp only [List.length_singleton]; omega)
theorem bg_many {w wr wb : World} {v u : Value} {xs ys : List Nat} (g : BG w wr v xs) (e : Below wr.heap.size wr wb) (r : ORow by8 wb u ys) (hu : ∀ a cap, u = .slice a 0 cap → a = none → cap = 0) (hl : (xs.length : Int) ≤ 100000) (hy : (ys.length : Int) ≤ 100000) :
    ∃ v' w2, (Builtin.append_ #[26, 26] 26 #[v, u]).run Tryz.prog wb = .ok v' w2 ∧ BG w w2 v' (xs ++ ys) := by
  obtain ⟨i0, hi, hz0, hz1, hz2⟩ := info_parts Tryz.info8
  exact og_app 5 26 26 i0 (.int .u8 0) 1 Tryz.underlying26 hi hz0 hz1 hz2 rfl one_by8 g e r hu (by simp only [maxLen]; omega) (by omega)
set_option maxRecDepth 100000 in
set_option maxHeartbeats 2000000 in
theorem putnumber_any (w0 w : World) (v : Value) (xs : List Nat) (n : Int) (g : BG w0 w v xs) (hl : (xs.length : Int) ≤ 1000) (hn : I6 n) :
    Calls Tryz.prog 32 #[v, .int .i64 n] w fun e w' => ∃ v', e = .returned v' ∧ BG w0 w' v' (xs ++ wd n :: bs n (wd n)) := by
  have C : Hid (∀ w, _) := fun w => width_any n w hn
  obtain ⟨c1, c8⟩ := wd_le n
  obtain ⟨c, hc⟩ : ∃ c, wd n = c := ⟨_, rfl⟩
  rw [hc] at C c1 c8 ⊢
  have cl : (1 : Int) ≤ c := by omega
  have ch : (c : Int) ≤ 8 := by omega
  have cw : IntKind.u8.wrap (c : Int) = (c : Nat) := by simp [IntKind.wrap, IntKind.bits, IntKind.signed]; omega
  obtain ⟨v1, w1, hrun, g1⟩ := bg_one (wr := w) c g (by omega)
  have G1 : Hid (BG w0 w1 v1 (xs ++ [c])) := g1
  obtain ⟨av, cv, hv⟩ := g.shape
  subst hv
  have HL : Hid ((xs.length : Int) ≤ 1000) := hl
  clear g g1 hl hc c1 c8
  go_enter Tryz.func32, Tryz.ntmps32
  go_wp2_with fail
  refine (C.out _).mono ?_
  rintro e w' ⟨rfl, e0⟩
  subst e0
  go_wp2_with (at_builtin; refine wpList_rung rfl (.tmp 9) (.tmp 12) 26 rfl rfl rfl hrun ?_)
  go_loopw [0, 6] (fun u i wr => ∃ (j : Nat) (T : List Nat), (j : Int) ≤ c ∧ T ++ bs n j = bs n c ∧ BG w0 wr u (xs ++ c :: T) ∧ i = .int .i64 ((j : Int) - 1)) (fun _ i _ => ((intOf i) + 1).toNat)
  case atStart => exact ⟨c, [], by omega, rfl, G1.out, by go_num⟩
  case round =>
    obtain ⟨j, T, hj, hT, g, rfl⟩ := hrel
    by_cases q : (1 : Int) ≤ j
    · obtain ⟨k, rfl⟩ : ∃ k, j = k + 1 := ⟨j - 1, by omega⟩
      have eb : n / 2 ^ (8 * k) % 256 = ((bt n k : Nat) : Int) := by unfold bt; omega
      have NT : Hid ((T ++ [bt n k]) ++ bs n k = bs n c) := by
        show (T ++ [bt n k]) ++ bs n k = bs n c
        rw [List.append_assoc]
        exact hT
      generalize bt n k = x at *
      obtain ⟨v2, w2, hrun2, g2⟩ := bg_one (wr := wr) x g (by
        have h1 := congrArg List.length hT
        rw [List.length_append, bs_len, bs_len] at h1
        rw [List.length_append, List.length_cons]
        have := HL.out
        omega)
      have G2 : Hid (BG w0 w2 v2 (xs ++ c :: (T ++ [x]))) := by
        have e : xs ++ c :: (T ++ [x]) = (xs ++ c :: T) ++ [x] := by simp
        show BG w0 w2 v2 (xs ++ c :: (T ++ [x]))
        rw [e]
        exact g2
      clear g g2 hT hrun
      go_wp2_with (at_builtin; refine wpList_rung rfl (.tmp 20) (.tmp 26) 26 rfl rfl rfl hrun2 ?_)
      go_roundw
      case rel => exact ⟨k, T ++ [x], by omega, NT.out, G2.out, by go_num⟩
      case measure => simp [intOf]; try omega
    · obtain rfl : j = 0 := by omega
      have e : T = bs n c := by simpa [bs] using hT
      subst e
      have G2 : Hid (BG w0 wr _ (xs ++ c :: bs n c)) := g
      clear g hT hrun
      go_wp2
      go_ret
      exact ⟨_, rfl, G2.out⟩
end Go.Proofs.YtmlilgbochbbiaaGreatDoor.Wir
namespace Go.Proofs.YtmlilgbochbbiaaGreatDoor.Wir
open Go.ChangeShapes Go.WideShapes Go.ChangeAt Go.RowKit
open Wi0
section
variable {w wr : World} {v : Value} {xs : List Nat}
theorem bg_cell (g : BG w wr v xs) {i x : Nat} (h : xs[i]? = some x) : ∃ b cap, v = .slice (some ⟨b, 0, none⟩) xs.length cap ∧ w.heap.size ≤ b ∧ wr.cell? ⟨b, i, none⟩ = some (.int .u8 (x : Nat)) ∧ wr.frozen? ⟨b, i, none⟩ = false := by
  have hi : i < xs.length := by
    rcases Nat.lt_or_ge i xs.length with q | q
    · exact q
    · rw [List.getElem?_eq_none q] at h; cases h
  rcases g.own.2 with ⟨_, hn⟩ | ⟨b, cap, cur, hv, hb, hh, hn, hc, hz, ht⟩
  · omega
  · have o := g.own
    rw [hv] at o
    have B : Blk wr b cur.toList 5 := by unfold Blk; simpa using hh
    refine ⟨b, cap, hv, hb, ?_, B.free i⟩
    rw [o.cellAt _ (by omega), List.getElem?_map, h]
    rfl
theorem bg_set {b cap n : Nat} (g : BG w wr (.slice (some ⟨b, 0, none⟩) n cap) xs) {i : Nat} (_hi : i < xs.length) (x : Nat) : BG w (wr.setCell ⟨b, i, none⟩ (.int .u8 (x : Nat))) (.slice (some ⟨b, 0, none⟩) n cap) (xs.set i x) := by
  rcases g.own.2 with ⟨hv, _⟩ | ⟨b', cap', cur, hv, hb, hh, hn, hc, hz, ht⟩
  · simp at hv
  · simp only [Value.slice.injEq, Option.some.injEq, Addr.mk.injEq, and_true] at hv
    obtain ⟨rfl, rfl, rfl⟩ := hv
    have B : Blk wr b cur.toList 5 := by unfold Blk; simpa using hh
    have B2 := B.set i (.int .u8 (x : Nat))
    refine ⟨⟨by simp, Or.inr ⟨b, cap, (cur.toList.set i (.int .u8 (x : Nat))).toArray, by simp, hb, B2, by rw [List.length_set]; exact hn, hc, by simpa using hz, ?_⟩⟩, ((Fr.of_below g.bel).setCell (p := ⟨b, i, none⟩) (Or.inl hb) _).below (by simp)⟩
    show (cur.toList.set i _).take _ = _
    rw [List.length_set, List.take_set, ht, List.map_set]
    rfl
theorem bg_base {w0 : World} (g : BG w wr v xs) (b : Below w0.heap.size w0 w) : BG w0 wr v xs := ⟨own_base g.own b.size, b.trans (g.bel.mono b.size)⟩
end
theorem made_u8 (n : Nat) : madeCells #[Value.int .u8 0] n = (List.replicate n (Value.int .u8 0)).toArray := by
  apply Array.ext
  · simp [size_madeCells]
  · intro i h1 h2
    simp [madeCells, Nat.mod_one]
/-- A new slice of two bytes, with room for more. -/
theorem mk38 (w : World) : ∃ w1, (Instr.makeSlice 26 (.int .i64 2) (.int .i64 38)).run Tryz.prog w = .ok (.slice (some ⟨w.heap.size, 0, none⟩) 2 38) w1 ∧ BG w w1 (.slice (some ⟨w.heap.size, 0, none⟩) 2 38) [0, 0] := by
  obtain ⟨i0, hi, hz0, hz1, hz2⟩ := info_parts Tryz.info8
  have := run_make (P := Tryz.prog) w 26 5 i0 _ Tryz.underlying26 hi hz0 .i64 .i64 2 38 (by decide) (by decide) (by rw [hz2]; decide) (by decide)
  rw [hz1, show (Value.int .u8 0).cells = #[Value.int .u8 0] from rfl, made_u8] at this
  refine ⟨_, this, ⟨rfl, Or.inr ⟨w.heap.size, 38, (List.replicate 38 (Value.int .u8 0)).toArray, rfl, Nat.le_refl _, heap_alloc_new w _, by decide, by decide, by simp, rfl⟩⟩, (Below.refl _ _).alloc (Nat.le_refl _) _⟩
/-- Which of the first i numbers are not 0, as a sum. -/
def wp (l : List Int) : Nat → Nat
  | 0 => 0
  | i + 1 => wp l i + wn (l.getD i 0) (2 ^ i)
theorem wp_four (e : Ev) : wp (fs e) 4 = wh4 e := by simp [wp, wh4, fs]
theorem wp_lt (l : List Int) (i : Nat) : wp l i < 2 ^ i := by
  induction i with
  | zero => simp [wp]
  | succ i ih => simp only [wp, Nat.pow_succ, wn]; split <;> omega
theorem or8_0 (m : Nat) (h : m < 1) : bits .or .u8 (m : Int) 1 = ((m + 1 : Nat) : Int) := by
  have : ∀ k : Fin 1, bits .or .u8 (k.val : Int) 1 = ((k.val + 1 : Nat) : Int) := by decide
  exact this ⟨m, h⟩
theorem or8_1 (m : Nat) (h : m < 2) : bits .or .u8 (m : Int) 2 = ((m + 2 : Nat) : Int) := by
  have : ∀ k : Fin 2, bits .or .u8 (k.val : Int) 2 = ((k.val + 2 : Nat) : Int) := by decide
  exact this ⟨m, h⟩
theorem or8_2 (m : Nat) (h : m < 4) : bits .or .u8 (m : Int) 4 = ((m + 4 : Nat) : Int) := by
  have : ∀ k : Fin 4, bits .or .u8 (k.val : Int) 4 = ((k.val + 4 : Nat) : Int) := by decide
  exact this ⟨m, h⟩
theorem or8_3 (m : Nat) (h : m < 8) : bits .or .u8 (m : Int) 8 = ((m + 8 : Nat) : Int) := by
  have : ∀ k : Fin 8, bits .or .u8 (k.val : Int) 8 = ((k.val + 8 : Nat) : Int) := by decide
  exact this ⟨m, h⟩
theorem pa_step (l : List Int) (i : Nat) (h : i < l.length) : pa l (i + 1) = pa l i ++ pn (l.getD i 0) := by
  unfold pa
  rw [List.take_succ_eq_append_getElem h, List.flatMap_append]
  simp [List.getD, h]
theorem pa_len (l : List Int) (i : Nat) (h : i ≤ 4) : (pa l i).length ≤ 36 := by
  unfold pa
  have : ∀ (q : List Int), (q.flatMap pn).length ≤ q.length * 9 := by
    intro q
    induction q with
    | nil => simp
    | cons a r ih => rw [List.flatMap_cons, List.length_append, List.length_cons]; have := pn_len a; omega
  have := this (l.take i)
  rw [List.length_take] at this
  omega
set_option maxRecDepth 100000 in
set_option maxHeartbeats 8000000 in
theorem put_any (w : World) (e : Ev) (ok : Eok e) :
    Calls Tryz.prog 20 #[evV e] w fun r w' => ∃ v, r = .returned v ∧ BG w w' v (putE e) := by
  obtain ⟨w1, hw1⟩ : ∃ w1, w.alloc (.cells (evL e).toArray 50) = w1 := ⟨_, rfl⟩
  obtain ⟨z, hz⟩ : ∃ z, w.heap.size = z := ⟨_, rfl⟩
  have E1 : Hid (Blk w1 z (evL e) 50 ∧ Below z w w1) := by
    rw [← hw1, ← hz]
    exact ⟨Blk.new w (evL e) 50, (Below.refl _ _).alloc (Nat.le_refl _) _⟩
  have C : Hid (∀ w, _) := fun w => iskind_any e.kind w
  have HZ : Hid (w.heap.size = z) := hz
  cases hk : okk e.kind with
  | false =>
    have hp : putE e = [] := by unfold putE; rw [hk]; rfl
    rw [hp]
    rw [hk] at C
    have HE : Hid (Below z w w1) := E1.out.2
    have HWA : Hid (w.alloc (.cells #[.int .i64 e.kind, .int .i64 e.cpu, .int .i64 e.id, .int .u64 e.mask, .int .i64 e.n] 50) = w1) := hw1
    show Calls Tryz.prog 20 #[.agg #[.int .i64 e.kind, .int .i64 e.cpu, .int .i64 e.id, .int .u64 e.mask, .int .i64 e.n]] w _
    clear hw1 hz hk hp ok
    generalize e.kind = y0 at *
    generalize e.cpu = y1 at *
    generalize e.id = y2 at *
    generalize e.mask = y3 at *
    generalize e.n = y4 at *
    go_enter Tryz.func20, Tryz.ntmps20
    go_wp2_with fail
    rw [HWA.out, HZ.out]
    refine (C.out _).mono ?_
    rintro e w' ⟨rfl, e0⟩
    subst e0
    go_wp2
    go_ret
    exact ⟨_, rfl, World.ownsRow_nil _ _ _ _, by rw [HZ.out]; exact HE.out⟩
  | true =>
    have hk2 := hk
    simp only [okk, Bool.and_eq_true, decide_eq_true_eq] at hk2
    have hp : putE e = e.kind.toNat :: wp (fs e) 4 :: pa (fs e) 4 := by unfold putE; rw [hk, wp_four]; rfl
    rw [hk] at C
    have kw : IntKind.u8.wrap e.kind = ((e.kind.toNat : Nat) : Int) := by simp [IntKind.wrap, IntKind.bits, IntKind.signed]; omega
    have mw : IntKind.i64.wrap e.mask = s6 e.mask := by have a := ok.m0; have b := ok.m1; rw [IntKind.wrap_i64]; unfold s6; split <;> omega
    have FI : Hid (∀ i, i < 4 → I6 ((fs e).getD i 0)) := fun i hi => by
      have : i = 0 ∨ i = 1 ∨ i = 2 ∨ i = 3 := by omega
      rcases this with rfl | rfl | rfl | rfl
      · exact ok.c
      · exact ok.i
      · exact s6_i _ ok.m0 ok.m1
      · exact ok.n
    have FL : Hid ((fs e).length = 4) := rfl
    obtain ⟨K, hK⟩ : ∃ K, e.kind.toNat = K := ⟨_, rfl⟩
    rw [hK] at kw hp
    have HP : Hid (putE e = K :: wp (fs e) 4 :: pa (fs e) 4) := hp
    obtain ⟨L, hL⟩ : ∃ L, fs e = L := ⟨_, rfl⟩
    have g0 : L.getD 0 0 = e.cpu := by rw [← hL]; rfl
    have g1 : L.getD 1 0 = e.id := by rw [← hL]; rfl
    have g2 : L.getD 2 0 = s6 e.mask := by rw [← hL]; rfl
    have g3 : L.getD 3 0 = e.n := by rw [← hL]; rfl
    rw [hL] at FI FL HP
    have VB : Hid (vb L = [.int .i64 e.cpu, .int .i64 e.id, .int .i64 (s6 e.mask), .int .i64 e.n]) := by show vb L = _; unfold vb; rw [g0, g1, g2, g3]
    have HWA : Hid (w.alloc (.cells #[.int .i64 e.kind, .int .i64 e.cpu, .int .i64 e.id, .int .u64 e.mask, .int .i64 e.n] 50) = w1) := hw1
    have b0 : w1.cell? ⟨z, 0, none⟩ = some (.int .i64 e.kind) := E1.out.1.cell 0
    have b1 : w1.cell? ⟨z, 1, none⟩ = some (.int .i64 e.cpu) := E1.out.1.cell 1
    have b2 : w1.cell? ⟨z, 2, none⟩ = some (.int .i64 e.id) := E1.out.1.cell 2
    have b3 : w1.cell? ⟨z, 3, none⟩ = some (.int .u64 e.mask) := E1.out.1.cell 3
    have b4 : w1.cell? ⟨z, 4, none⟩ = some (.int .i64 e.n) := E1.out.1.cell 4
    have KC : Hid (∀ u, Below w1.heap.size w1 u → u.cell? ⟨z, 0, none⟩ = some (.int .i64 e.kind)) := fun u hu => (hu.cell (p := ⟨z, 0, none⟩) E1.out.1.lt).trans b0
    have HE : Hid (Below z w w1) := E1.out.2
    show Calls Tryz.prog 20 #[.agg #[.int .i64 e.kind, .int .i64 e.cpu, .int .i64 e.id, .int .u64 e.mask, .int .i64 e.n]] w _
    obtain ⟨PE, hPE⟩ : ∃ PE, putE e = PE := ⟨_, rfl⟩
    rw [hPE] at HP ⊢
    clear hw1 hz hk hk2 hp ok hK hL g0 g1 g2 g3 hPE E1
    generalize s6 e.mask = y3' at *
    generalize e.kind = y0 at *
    generalize e.cpu = y1 at *
    generalize e.id = y2 at *
    generalize e.mask = y3 at *
    generalize e.n = y4 at *
    obtain ⟨u, hu⟩ : ∃ u, w1.alloc (.cells #[.int .i64 y1, .int .i64 y2, .int .i64 y3', .int .i64 y4] 66) = u := ⟨_, rfl⟩
    obtain ⟨q, hq⟩ : ∃ q, w1.heap.size = q := ⟨_, rfl⟩
    have U1 : Hid (Blk u q (vb L) 66 ∧ Below w1.heap.size w1 u) := by
      rw [VB.out, ← hu, ← hq]
      exact ⟨Blk.new w1 [.int .i64 y1, .int .i64 y2, .int .i64 y3', .int .i64 y4] 66, (Below.refl _ _).alloc (Nat.le_refl _) _⟩
    have HWB : Hid (w1.alloc (.cells #[.int .i64 y1, .int .i64 y2, .int .i64 y3', .int .i64 y4] 66) = u) := hu
    have HQ : Hid (w1.heap.size = q) := hq
    have BU : Hid (Below w.heap.size w u) := by
      have h1 := HE.out
      have h2 := h1.size
      rw [← HZ.out] at h1
      exact h1.trans (U1.out.2.mono h1.size)
    obtain ⟨u1, mk, og⟩ := mk38 u
    obtain ⟨g, hg⟩ : ∃ g, u.heap.size = g := ⟨_, rfl⟩
    rw [hg] at mk og
    obtain ⟨_, _, _, _, gc, gf⟩ := bg_cell og (i := 0) (x := 0) rfl
    have q0 := KC.out u U1.out.2
    have q1 := KC.out u1 (U1.out.2.trans (og.bel.mono U1.out.2.size))
    have OG0 : Hid (BG u u1 (.slice (some ⟨g, 0, none⟩) 2 38) [0, 0]) := og
    have OG1 : Hid (BG u (u1.setCell ⟨g, 0, none⟩ (.int .u8 (K : Nat))) (.slice (some ⟨g, 0, none⟩) 2 38) [K, 0]) := bg_set og (i := 0) (by simp) K
    clear og hq hu hg
    have gc0 : u1.cell? ⟨g, 0, none⟩ = some (.int .u8 0) := by
      have := OG0.out
      obtain ⟨b, cap, e1, _, e2, _⟩ := bg_cell this (i := 0) (x := 0) rfl
      simp only [Value.slice.injEq, Option.some.injEq, Addr.mk.injEq, and_true] at e1
      rw [e1.1]; exact e2
    have gf0 : u1.frozen? ⟨g, 0, none⟩ = false := by
      have := OG0.out
      obtain ⟨b, cap, e1, _, _, e2⟩ := bg_cell this (i := 0) (x := 0) rfl
      simp only [Value.slice.injEq, Option.some.injEq, Addr.mk.injEq, and_true] at e1
      rw [e1.1]; exact e2
    have mk2 : (Instr.makeSlice 26 (.int .i64 2) (.int .i64 38)).run Tryz.prog (w1.alloc (.cells #[.int .i64 y1, .int .i64 y2, .int .i64 y3', .int .i64 y4] 66)) = .ok (.slice (some ⟨g, 0, none⟩) 2 38) u1 := by rw [HWB.out]; exact mk
    clear gc gf mk
    go_enter Tryz.func20, Tryz.ntmps20
    go_wp2_with fail
    rw [HWA.out, HZ.out]
    refine (C.out _).mono ?_
    rintro e w' ⟨rfl, e0⟩
    subst e0
    go_wp2_with fail
    rw [HQ.out]
    refine (each_any _ q).mono ?_
    rintro e u2 ⟨rfl, bq⟩
    have OG2 : Hid (BG u u2 (.slice (some ⟨g, 0, none⟩) 2 38) (K :: wp L 0 :: pa L 0)) := OG1.out.keep bq
    have IX : Hid (∀ (k : Nat) (w : World), k < 4 → (Instr.index 68 (.agg (four q).toArray) (.int .i64 (k : Int))).run Tryz.prog w = .ok (.pointer (some ⟨q, k, none⟩)) w) := fun k w hk => idx4 q k hk w
    obtain ⟨AR, hAR⟩ : ∃ AR, (four q).toArray = AR := ⟨_, rfl⟩
    rw [hAR] at IX ⊢
    have UB : Hid (∀ wr, Below u.heap.size u wr → Blk wr q (vb L) 66) := fun wr b => U1.out.1.keep (Fr.of_below b) U1.out.1.lt (by simp)
    clear bq OG0 OG1 hAR U1 HWA HWB HQ HZ HE KC VB gc0 gf0 q0 q1 mk2 kw mw b0 b1 b2 b3 b4
    go_wp2
    go_loopw [4, 28] (fun bv iv wr => ∃ i : Nat, (i : Int) ≤ 4 ∧ BG u wr bv (K :: wp L i :: pa L i) ∧ iv = .int .i64 i) (fun _ i _ => 4 - (intOf i).toNat)
    case atStart => exact ⟨0, by omega, OG2.out, rfl⟩
    case round =>
      obtain ⟨i, hi, og, rfl⟩ := hrel
      clear OG2
      obtain ⟨bb, cap, hv, hbb, c1, f1⟩ := bg_cell og (i := 1) (x := wp L i) rfl
      subst hv
      have OGH : Hid (BG u wr _ (K :: wp L i :: pa L i)) := og
      have hlen := pa_len L i (by omega)
      have nl : (1 : Int) < ((K :: wp L i :: pa L i).length : Nat) := by simp; omega
      have UBB : Hid (Blk wr q (vb L) 66) := UB.out wr og.bel
      obtain ⟨NN, hNN⟩ : ∃ NN, (K :: wp L i :: pa L i).length = NN := ⟨_, rfl⟩
      have HLN : Hid ((NN : Int) ≤ 38) := by show (NN : Int) ≤ 38; rw [← hNN]; simp; omega
      rw [hNN] at nl OGH ⊢
      have wlt := wp_lt L i
      clear og hNN hlen
      have four_or : i = 4 ∨ i = 0 ∨ i = 1 ∨ i = 2 ∨ i = 3 := by omega
      rcases four_or with rfl | rfl | rfl | rfl | rfl
      · clear c1 f1 wlt
        have FIN : Hid (BG w wr (.slice (some ⟨bb, 0, none⟩) NN cap) PE) := by
          have e1 := HP.out
          have e2 := OGH.out
          rw [← e1] at e2
          exact bg_base e2 BU.out
        go_wp2
        go_ret
        exact ⟨_, rfl, FIN.out⟩
      · have IK : (Instr.index 68 (.agg AR) (.int .i64 0)).run Tryz.prog wr = .ok (.pointer (some ⟨q, 0, none⟩)) wr := IX.out 0 wr (by omega)
        have vi : wr.cell? ⟨q, 0, none⟩ = some (.int .i64 (L.getD 0 0)) := UBB.out.cell 0
        have NP : Hid (pa L 1 = pa L 0 ++ pn (L.getD 0 0)) := pa_step L 0 (by have := FL.out; omega)
        have NW : Hid (wp L 1 = wp L 0 + wn (L.getD 0 0) 1) := rfl
        have xi := FI.out 0 (by omega)
        generalize L.getD 0 0 = x at *
        by_cases x0 : x = 0
        · subst x0
          have NG : Hid (BG u wr (.slice (some ⟨bb, 0, none⟩) NN cap) (K :: wp L 1 :: pa L 1)) := by
            have e2 := OGH.out
            have e3 := NW.out
            have e4 := NP.out
            rw [show wn 0 1 = 0 from rfl, Nat.add_zero] at e3
            rw [show pn 0 = [] from rfl, List.append_nil] at e4
            show BG u wr _ (K :: wp L 1 :: pa L 1)
            rw [e3, e4]
            exact e2
          clear xi c1 f1 wlt
          go_wp2
          go_roundw
          case rel => exact ⟨1, by omega, NG.out, by go_num⟩
          case measure => simp [intOf]
        · have x1 : (x == 0) = false := beq_eq_false_iff_ne.2 x0
          have o1 := or8_0 (wp L 0) wlt
          have N1 : Hid (wp L 1 = wp L 0 + 1 ∧ pa L 1 = pa L 0 ++ wd x :: bs x (wd x)) := by
            have e3 := NW.out
            have e4 := NP.out
            rw [show wn x 1 = 1 from if_neg x0] at e3
            rw [show pn x = wd x :: bs x (wd x) from if_neg x0] at e4
            exact ⟨e3, e4⟩
          obtain ⟨W2, hW2⟩ : ∃ W2, wp L 0 + 1 = W2 := ⟨_, rfl⟩
          rw [hW2] at o1 N1
          have SG : Hid (BG u (wr.setCell ⟨bb, 1, none⟩ (.int .u8 (W2 : Nat))) (.slice (some ⟨bb, 0, none⟩) NN cap) (K :: W2 :: pa L 0)) := bg_set OGH.out (i := 1) (by simp) W2
          have SQ : Hid (∀ t : World, t.heap = (wr.setCell ⟨bb, 1, none⟩ (.int .u8 (W2 : Nat))).heap → t.cell? ⟨q, 0, none⟩ = some (.int .i64 x)) := fun t ht => by
            have := (UB.out _ SG.out.bel).heap ht
            have h2 := this.cell 0
            rw [h2]
            exact (UBB.out.cell 0).symm.trans vi
          have PN : Hid (∀ t : World, Sm t (wr.setCell ⟨bb, 1, none⟩ (.int .u8 (W2 : Nat))) → _) := fun t ht => putnumber_any u t (.slice (some ⟨bb, 0, none⟩) NN cap) (K :: W2 :: pa L 0) x (SG.out.heap ht) (by have := pa_len L 0 (by omega); simp; omega) xi
          have c3 := SQ.out (wr.setCell ⟨bb, 1, none⟩ (.int .u8 (W2 : Nat))) rfl
          generalize wp L 0 = W at *
          clear xi x0 hW2 NP NW UBB wlt
          go_wp2_with fail
          go_region
          all_goals (
            go_wp2_with fail
            refine (PN.out _ ?_).mono ?_
            exact ⟨rfl, rfl, rfl, rfl⟩
            rintro e t ⟨v', rfl, g2⟩
            have NG : Hid (BG u t v' (K :: wp L 1 :: pa L 1)) := by
              show BG u t v' (K :: wp L 1 :: pa L 1)
              rw [N1.out.1, N1.out.2]
              exact g2
            clear g2 c3 PN SQ SG
            go_wp2
            go_roundw
            case rel => exact ⟨1, by omega, NG.out, by go_num⟩
            case measure => simp [intOf])
      · have IK : (Instr.index 68 (.agg AR) (.int .i64 1)).run Tryz.prog wr = .ok (.pointer (some ⟨q, 1, none⟩)) wr := IX.out 1 wr (by omega)
        have vi : wr.cell? ⟨q, 1, none⟩ = some (.int .i64 (L.getD 1 0)) := UBB.out.cell 1
        have NP : Hid (pa L 2 = pa L 1 ++ pn (L.getD 1 0)) := pa_step L 1 (by have := FL.out; omega)
        have NW : Hid (wp L 2 = wp L 1 + wn (L.getD 1 0) 2) := rfl
        have xi := FI.out 1 (by omega)
        generalize L.getD 1 0 = x at *
        by_cases x0 : x = 0
        · subst x0
          have NG : Hid (BG u wr (.slice (some ⟨bb, 0, none⟩) NN cap) (K :: wp L 2 :: pa L 2)) := by
            have e2 := OGH.out
            have e3 := NW.out
            have e4 := NP.out
            rw [show wn 0 2 = 0 from rfl, Nat.add_zero] at e3
            rw [show pn 0 = [] from rfl, List.append_nil] at e4
            show BG u wr _ (K :: wp L 2 :: pa L 2)
            rw [e3, e4]
            exact e2
          clear xi c1 f1 wlt
          go_wp2
          go_roundw
          case rel => exact ⟨2, by omega, NG.out, by go_num⟩
          case measure => simp [intOf]
        · have x1 : (x == 0) = false := beq_eq_false_iff_ne.2 x0
          have o1 := or8_1 (wp L 1) wlt
          have N1 : Hid (wp L 2 = wp L 1 + 2 ∧ pa L 2 = pa L 1 ++ wd x :: bs x (wd x)) := by
            have e3 := NW.out
            have e4 := NP.out
            rw [show wn x 2 = 2 from if_neg x0] at e3
            rw [show pn x = wd x :: bs x (wd x) from if_neg x0] at e4
            exact ⟨e3, e4⟩
          obtain ⟨W2, hW2⟩ : ∃ W2, wp L 1 + 2 = W2 := ⟨_, rfl⟩
          rw [hW2] at o1 N1
          have SG : Hid (BG u (wr.setCell ⟨bb, 1, none⟩ (.int .u8 (W2 : Nat))) (.slice (some ⟨bb, 0, none⟩) NN cap) (K :: W2 :: pa L 1)) := bg_set OGH.out (i := 1) (by simp) W2
          have SQ : Hid (∀ t : World, t.heap = (wr.setCell ⟨bb, 1, none⟩ (.int .u8 (W2 : Nat))).heap → t.cell? ⟨q, 1, none⟩ = some (.int .i64 x)) := fun t ht => by
            have := (UB.out _ SG.out.bel).heap ht
            have h2 := this.cell 1
            rw [h2]
            exact (UBB.out.cell 1).symm.trans vi
          have PN : Hid (∀ t : World, Sm t (wr.setCell ⟨bb, 1, none⟩ (.int .u8 (W2 : Nat))) → _) := fun t ht => putnumber_any u t (.slice (some ⟨bb, 0, none⟩) NN cap) (K :: W2 :: pa L 1) x (SG.out.heap ht) (by have := pa_len L 1 (by omega); simp; omega) xi
          have c3 := SQ.out (wr.setCell ⟨bb, 1, none⟩ (.int .u8 (W2 : Nat))) rfl
          generalize wp L 1 = W at *
          clear xi x0 hW2 NP NW UBB wlt
          go_wp2_with fail
          go_region
          all_goals (
            go_wp2_with fail
            refine (PN.out _ ?_).mono ?_
            exact ⟨rfl, rfl, rfl, rfl⟩
            rintro e t ⟨v', rfl, g2⟩
            have NG : Hid (BG u t v' (K :: wp L 2 :: pa L 2)) := by
              show BG u t v' (K :: wp L 2 :: pa L 2)
              rw [N1.out.1, N1.out.2]
              exact g2
            clear g2 c3 PN SQ SG
            go_wp2
            go_roundw
            case rel => exact ⟨2, by omega, NG.out, by go_num⟩
            case measure => simp [intOf])
      · have IK : (Instr.index 68 (.agg AR) (.int .i64 2)).run Tryz.prog wr = .ok (.pointer (some ⟨q, 2, none⟩)) wr := IX.out 2 wr (by omega)
        have vi : wr.cell? ⟨q, 2, none⟩ = some (.int .i64 (L.getD 2 0)) := UBB.out.cell 2
        have NP : Hid (pa L 3 = pa L 2 ++ pn (L.getD 2 0)) := pa_step L 2 (by have := FL.out; omega)
        have NW : Hid (wp L 3 = wp L 2 + wn (L.getD 2 0) 4) := rfl
        have xi := FI.out 2 (by omega)
        generalize L.getD 2 0 = x at *
        by_cases x0 : x = 0
        · subst x0
          have NG : Hid (BG u wr (.slice (some ⟨bb, 0, none⟩) NN cap) (K :: wp L 3 :: pa L 3)) := by
            have e2 := OGH.out
            have e3 := NW.out
            have e4 := NP.out
            rw [show wn 0 4 = 0 from rfl, Nat.add_zero] at e3
            rw [show pn 0 = [] from rfl, List.append_nil] at e4
            show BG u wr _ (K :: wp L 3 :: pa L 3)
            rw [e3, e4]
            exact e2
          clear xi c1 f1 wlt
          go_wp2
          go_roundw
          case rel => exact ⟨3, by omega, NG.out, by go_num⟩
          case measure => simp [intOf]
        · have x1 : (x == 0) = false := beq_eq_false_iff_ne.2 x0
          have o1 := or8_2 (wp L 2) wlt
          have N1 : Hid (wp L 3 = wp L 2 + 4 ∧ pa L 3 = pa L 2 ++ wd x :: bs x (wd x)) := by
            have e3 := NW.out
            have e4 := NP.out
            rw [show wn x 4 = 4 from if_neg x0] at e3
            rw [show pn x = wd x :: bs x (wd x) from if_neg x0] at e4
            exact ⟨e3, e4⟩
          obtain ⟨W2, hW2⟩ : ∃ W2, wp L 2 + 4 = W2 := ⟨_, rfl⟩
          rw [hW2] at o1 N1
          have SG : Hid (BG u (wr.setCell ⟨bb, 1, none⟩ (.int .u8 (W2 : Nat))) (.slice (some ⟨bb, 0, none⟩) NN cap) (K :: W2 :: pa L 2)) := bg_set OGH.out (i := 1) (by simp) W2
          have SQ : Hid (∀ t : World, t.heap = (wr.setCell ⟨bb, 1, none⟩ (.int .u8 (W2 : Nat))).heap → t.cell? ⟨q, 2, none⟩ = some (.int .i64 x)) := fun t ht => by
            have := (UB.out _ SG.out.bel).heap ht
            have h2 := this.cell 2
            rw [h2]
            exact (UBB.out.cell 2).symm.trans vi
          have PN : Hid (∀ t : World, Sm t (wr.setCell ⟨bb, 1, none⟩ (.int .u8 (W2 : Nat))) → _) := fun t ht => putnumber_any u t (.slice (some ⟨bb, 0, none⟩) NN cap) (K :: W2 :: pa L 2) x (SG.out.heap ht) (by have := pa_len L 2 (by omega); simp; omega) xi
          have c3 := SQ.out (wr.setCell ⟨bb, 1, none⟩ (.int .u8 (W2 : Nat))) rfl
          generalize wp L 2 = W at *
          clear xi x0 hW2 NP NW UBB wlt
          go_wp2_with fail
          go_region
          all_goals (
            go_wp2_with fail
            refine (PN.out _ ?_).mono ?_
            exact ⟨rfl, rfl, rfl, rfl⟩
            rintro e t ⟨v', rfl, g2⟩
            have NG : Hid (BG u t v' (K :: wp L 3 :: pa L 3)) := by
              show BG u t v' (K :: wp L 3 :: pa L 3)
              rw [N1.out.1, N1.out.2]
              exact g2
            clear g2 c3 PN SQ SG
            go_wp2
            go_roundw
            case rel => exact ⟨3, by omega, NG.out, by go_num⟩
            case measure => simp [intOf])
      · have IK : (Instr.index 68 (.agg AR) (.int .i64 3)).run Tryz.prog wr = .ok (.pointer (some ⟨q, 3, none⟩)) wr := IX.out 3 wr (by omega)
        have vi : wr.cell? ⟨q, 3, none⟩ = some (.int .i64 (L.getD 3 0)) := UBB.out.cell 3
        have NP : Hid (pa L 4 = pa L 3 ++ pn (L.getD 3 0)) := pa_step L 3 (by have := FL.out; omega)
        have NW : Hid (wp L 4 = wp L 3 + wn (L.getD 3 0) 8) := rfl
        have xi := FI.out 3 (by omega)
        generalize L.getD 3 0 = x at *
        by_cases x0 : x = 0
        · subst x0
          have NG : Hid (BG u wr (.slice (some ⟨bb, 0, none⟩) NN cap) (K :: wp L 4 :: pa L 4)) := by
            have e2 := OGH.out
            have e3 := NW.out
            have e4 := NP.out
            rw [show wn 0 8 = 0 from rfl, Nat.add_zero] at e3
            rw [show pn 0 = [] from rfl, List.append_nil] at e4
            show BG u wr _ (K :: wp L 4 :: pa L 4)
            rw [e3, e4]
            exact e2
          clear xi c1 f1 wlt
          go_wp2
          go_roundw
          case rel => exact ⟨4, by omega, NG.out, by go_num⟩
          case measure => simp [intOf]
        · have x1 : (x == 0) = false := beq_eq_false_iff_ne.2 x0
          have o1 := or8_3 (wp L 3) wlt
          have N1 : Hid (wp L 4 = wp L 3 + 8 ∧ pa L 4 = pa L 3 ++ wd x :: bs x (wd x)) := by
            have e3 := NW.out
            have e4 := NP.out
            rw [show wn x 8 = 8 from if_neg x0] at e3
            rw [show pn x = wd x :: bs x (wd x) from if_neg x0] at e4
            exact ⟨e3, e4⟩
          obtain ⟨W2, hW2⟩ : ∃ W2, wp L 3 + 8 = W2 := ⟨_, rfl⟩
          rw [hW2] at o1 N1
          have SG : Hid (BG u (wr.setCell ⟨bb, 1, none⟩ (.int .u8 (W2 : Nat))) (.slice (some ⟨bb, 0, none⟩) NN cap) (K :: W2 :: pa L 3)) := bg_set OGH.out (i := 1) (by simp) W2
          have SQ : Hid (∀ t : World, t.heap = (wr.setCell ⟨bb, 1, none⟩ (.int .u8 (W2 : Nat))).heap → t.cell? ⟨q, 3, none⟩ = some (.int .i64 x)) := fun t ht => by
            have := (UB.out _ SG.out.bel).heap ht
            have h2 := this.cell 3
            rw [h2]
            exact (UBB.out.cell 3).symm.trans vi
          have PN : Hid (∀ t : World, Sm t (wr.setCell ⟨bb, 1, none⟩ (.int .u8 (W2 : Nat))) → _) := fun t ht => putnumber_any u t (.slice (some ⟨bb, 0, none⟩) NN cap) (K :: W2 :: pa L 3) x (SG.out.heap ht) (by have := pa_len L 3 (by omega); simp; omega) xi
          have c3 := SQ.out (wr.setCell ⟨bb, 1, none⟩ (.int .u8 (W2 : Nat))) rfl
          generalize wp L 3 = W at *
          clear xi x0 hW2 NP NW UBB wlt
          go_wp2_with fail
          go_region
          all_goals (
            go_wp2_with fail
            refine (PN.out _ ?_).mono ?_
            exact ⟨rfl, rfl, rfl, rfl⟩
            rintro e t ⟨v', rfl, g2⟩
            have NG : Hid (BG u t v' (K :: wp L 4 :: pa L 4)) := by
              show BG u t v' (K :: wp L 4 :: pa L 4)
              rw [N1.out.1, N1.out.2]
              exact g2
            clear g2 c3 PN SQ SG
            go_wp2
            go_roundw
            case rel => exact ⟨4, by omega, NG.out, by go_num⟩
            case measure => simp [intOf])
end Go.Proofs.YtmlilgbochbbiaaGreatDoor.Wir
