/- What split's signs, Sum and List, math/bits.Add64 and davitref06.Same answer, for every number in parts, and what all calls of one that is not there answer; the law's fixed calls. -/
import Derived.Test.YtaomcakgeiiclaaRows
import Derived.Test.YtaomcakgeiiclaaPa
import Derived.WalkKit
import Derived.ProofKit
import Derived.OpenShut
import Derived.BigQuiet
import Derived.Laws.Externs
namespace Go.Proofs.Ytaomcakgeiiclaa
open Go.ChangeShapes Go.WideShapes Go.ChangeAt Go.RowKit
open Pm

theorem add64_run (x y : Int) (hx : 0 ≤ x) (hy : 0 ≤ y) (w : World) :
    (callFunc 53 #[.int .u64 x, .int .u64 y, .int .u64 0]).run Try.prog w = .ok (.value (.tuple #[.int .u64 ((x + y + 0) % 18446744073709551616), .int .u64 ((x + y + 0) / 18446744073709551616)])) w := by
  rw [run_callFunc_extern Try.func53 (by kernel_rfl) (by kernel_rfl) (by kernel_rfl) (e := add64Entry) (by kernel_rfl), run_add64 x y 0 hx hy (by omega) (by omega)]
  rfl

theorem signs_any (n : Int) (w : World) (hn : I64 n) : Calls Try.prog 54 #[.int .i64 n] w fun e w' => e = .returned (.int .u64 (sg n)) ∧ w' = w := by
  obtain ⟨h1, h2⟩ := hn
  go_enter Try.func54, Try.ntmps54
  go_wp2
  go_ret
  refine ⟨congrArg (fun z => Ending.returned (.int .u64 z)) (?_ : IntKind.u64.wrap (n / 9223372036854775808) = sg n), rfl⟩
  rw [IntKind.wrap_u64]
  unfold sg
  split <;> omega

theorem lo_ge (S : Int) : 0 ≤ lo S := by unfold lo; omega

set_option maxHeartbeats 2000000 in
theorem sum_any {b g : Nat} {L : List Int} (w : World) (h : SL w b g L) :
    Calls Try.prog 35 #[.pointer (some ⟨b, 0, none⟩)] w fun e w' => e = .returned (.tuple #[.int .i64 (fv L.sum), .int .i64 (fe L.sum)]) ∧ w' = w := by
  have c0 := h.c0
  have hl := h.len
  have HA : Hid (∀ i, i < L.length → w.cell? ⟨g, i, none⟩ = some (.int .i64 (L.getD i 0))) := fun i hi => h.at i hi
  have HP : Hid (Pt L) := h.pt
  obtain ⟨n, hn⟩ : ∃ n, L.length = n := ⟨_, rfl⟩
  have HN : Hid (L.length = n) := hn
  obtain ⟨r1, hr1⟩ : ∃ r, fv L.sum = r := ⟨_, rfl⟩
  obtain ⟨r2, hr2⟩ : ∃ r, fe L.sum = r := ⟨_, rfl⟩
  have R1 : Hid (fv L.sum = r1) := hr1
  have R2 : Hid (fe L.sum = r2) := hr2
  rw [hn] at c0 hl
  rw [hr1, hr2]
  clear h hn hr1 hr2
  go_enter Try.func35, Try.ntmps35
  go_wp2
  go_loop [4, 5, 17] (fun h l i => ∃ (k : Nat) (H Q : Int), (k : Int) ≤ n ∧ Hid (hi (L.take k).sum = H ∧ lo (L.take k).sum = Q) ∧ h = .int .u64 H ∧ l = .int .u64 Q ∧ i = .int .i64 k) (fun _ _ i => n - (intOf i).toNat)
  case atStart => exact ⟨0, 0, 0, by omega, ⟨by simp [hi], by simp [lo]⟩, rfl, rfl, rfl⟩
  case round =>
    obtain ⟨k, H, Q, hk, hHQ, rfl, rfl, rfl⟩ := hrel
    by_cases c : (k : Int) < n
    · have hkl : k < L.length := by have := HN.out; omega
      have ck := HA.out k hkl
      have hx : I64 (L.getD k 0) := by
        refine HP.out.rg _ ?_
        rw [List.getD_eq_getElem?_getD, List.getElem?_eq_getElem hkl]
        exact List.getElem_mem hkl
      have SG : Hid (∀ _ : Unit, _) := fun _ => signs_any (L.getD k 0) w hx
      have AD := add64_run Q (lo (L.getD k 0)) (by rw [← hHQ.out.2]; exact lo_ge _) (lo_ge _) w
      have e1 : (Q + lo (L.getD k 0) + 0) % 18446744073709551616 = lo (L.take (k + 1)).sum := by rw [sum_take L k hkl, ← hHQ.out.2]; exact lo_step _ _
      have e2 : (H + (sg (L.getD k 0) + (Q + lo (L.getD k 0) + 0) / 18446744073709551616) % 18446744073709551616) % 18446744073709551616 = hi (L.take (k + 1)).sum := by rw [sum_take L k hkl, ← hHQ.out.2, ← hHQ.out.1]; exact hi_step _ _ hx
      rw [e1] at AD
      have cv : IntKind.u64.wrap (L.getD k 0) = lo (L.getD k 0) := by rw [IntKind.wrap_u64]; rfl
      obtain ⟨C, hC⟩ : ∃ C, (Q + lo (L.getD k 0) + 0) / 18446744073709551616 = C := ⟨_, rfl⟩
      rw [hC] at AD e2
      obtain ⟨z, hz⟩ : ∃ z, IntKind.u64.wrap (sg (L.getD k 0) + C) = z := ⟨_, rfl⟩
      have w2 : IntKind.u64.wrap (H + z) = hi (L.take (k + 1)).sum := by rw [← hz, IntKind.wrap_u64, IntKind.wrap_u64]; exact e2
      obtain ⟨H2, hH2⟩ : ∃ H2, hi (L.take (k + 1)).sum = H2 := ⟨_, rfl⟩
      obtain ⟨Q2, hQ2⟩ : ∃ Q2, lo (L.take (k + 1)).sum = Q2 := ⟨_, rfl⟩
      have NX : Hid (hi (L.take (k + 1)).sum = H2 ∧ lo (L.take (k + 1)).sum = Q2) := ⟨hH2, hQ2⟩
      rw [hQ2] at AD
      rw [hH2] at w2
      clear hHQ hx e1 e2 hC hH2 hQ2 hkl
      generalize lo (L.getD k 0) = y at *
      generalize sg (L.getD k 0) = q at *
      generalize L.getD k 0 = x at *
      go_wp2_with fail
      refine (SG.out ()).mono ?_
      rintro e w' ⟨rfl, rfl⟩
      go_wp2
      go_round
      case rel => exact ⟨k + 1, H2, Q2, by omega, NX, rfl, rfl, by go_num⟩
      case measure => simp [intOf]; omega
    · have ek : L.take k = L := List.take_of_length_le (by have := HN.out; omega)
      rw [ek] at hHQ
      have bd := sum_le HP.out L.length (Nat.le_refl _)
      rw [List.take_length] at bd
      have hl3 : (L.length : Int) ≤ 64 := by have := HP.out.n2; omega
      obtain ⟨x, hx⟩ : ∃ x, (lo L.sum + 9223372036854775808) % 18446744073709551616 - 9223372036854775808 = x := ⟨_, rfl⟩
      have cx : wrap64 Q = x := by rw [← hHQ.out.2, ← hx, wrap64]
      have ix : I64 x := by rw [← hx]; unfold I64; omega
      have SG : Hid (∀ _ : Unit, _) := fun _ => signs_any x w ix
      rcases fits L.sum (by omega) (by omega) x hx.symm with ⟨f1, f2, f3⟩ | ⟨f1, f3⟩
      · have a1 : r1 = x := by rw [← R1.out, (fe_ok f1).2, f2]
        have a2 : r2 = 0 := by rw [← R2.out, (fe_ok f1).1]
        subst a1
        subst a2
        rw [hHQ.out.1] at f3
        clear hHQ bd hl3 hx ix f1 f2 ek R1 R2
        generalize sg r1 = q at *
        go_wp2_with fail
        refine (SG.out ()).mono ?_
        rintro e w' ⟨rfl, rfl⟩
        go_wp2
        go_ret2
        exact ⟨rfl, rfl⟩
      · have a1 : r1 = 0 := by rw [← R1.out, (fe_no f1).2]
        have a2 : r2 = 16 := by rw [← R2.out, (fe_no f1).1]
        subst a1
        subst a2
        rw [hHQ.out.1] at f3
        clear hHQ bd hl3 hx ix f1 ek R1 R2
        generalize sg x = q at *
        go_wp2_with fail
        refine (SG.out ()).mono ?_
        rintro e w' ⟨rfl, rfl⟩
        go_wp2
        go_ret2
        exact ⟨rfl, rfl⟩

theorem splice_all {α : Type} (Z X : List α) (h : Z.length = X.length) : splice Z 0 X = X := by
  unfold splice
  rw [List.take_zero, List.nil_append, Nat.zero_add, List.drop_eq_nil_of_le (by omega), List.append_nil]

/-- A list that the call itself made; nothing that was there has turned. -/
structure Gl (w wr : World) (v : Value) (G : List Int) : Prop where
  row : Row wr v G
  bel : Below w.heap.size w wr
  shape : ∃ a cap, v = .slice a G.length cap

set_option maxHeartbeats 2000000 in
theorem list_any {b g : Nat} {L : List Int} (w : World) (h : SL w b g L) :
    Calls Try.prog 39 #[.pointer (some ⟨b, 0, none⟩)] w fun e w' => ∃ v, e = .returned v ∧ Gl w w' v L := by
  have c := h.c0
  have hl := h.len
  have hmk := run_make_row' (P := Try.prog) 73 2 (.int .i64 0) 8 Try.underlying73 Try.infoL rfl .i64 .i64 L.length (by omega) (by omega)
  rw [made_int] at hmk
  obtain ⟨Z, hZ⟩ : ∃ Z : List Value, (List.replicate L.length (0 : Int)).map (Value.int .i64) = Z := ⟨_, rfl⟩
  have lZ : Hid (Z.length = L.length) := by rw [← hZ]; simp [Hid]
  rw [hZ] at hmk
  have B0 : Fr w.heap.size [] w (w.alloc (.cells Z.toArray 2)) := (Fr.refl _ _ _).alloc (Nat.le_refl _) _
  have h1 : SL (w.alloc (.cells Z.toArray 2)) b g L := h.keep B0 ⟨h.sb.lt, h.sg.lt⟩ ⟨by simp, by simp⟩
  have c1 := h1.c0
  have SB : Hid (Blk (w.alloc (.cells Z.toArray 2)) w.heap.size Z 2) := Blk.new w Z 2
  obtain ⟨X, hX⟩ : ∃ X, L.map (Value.int .i64) = X := ⟨_, rfl⟩
  have lX : Hid (X.length = L.length) := by rw [← hX]; simp [Hid]
  have oX : Hid (∀ v ∈ X, v.oneCell' = true) := by rw [← hX]; exact ints_one _
  have P1 : Hid (0 < X.length → _) := fun hp => row_src (h1.row L.length) (by have := lX.out; omega)
  rw [hX] at P1
  have N1 : Hid (X.length = Nat.min L.length L.length) := by rw [lX.out]; exact (Nat.min_self _).symm
  have F1 : Hid (0 + X.length ≤ Z.length) := by rw [lX.out, lZ.out]; unfold Hid; omega
  have FIN : Hid (∀ (w2 : World), Blk w2 w.heap.size (splice Z 0 X) 2 → Fr (w.alloc (.cells Z.toArray 2)).heap.size [w.heap.size] (w.alloc (.cells Z.toArray 2)) w2 → Gl w w2 (.slice (some ⟨w.heap.size, 0, none⟩) L.length L.length) L) := fun w2 f fr => by
    rw [splice_all Z X (by rw [lZ.out, lX.out]), ← hX] at f
    refine ⟨row_of_blk f _, ?_, _, _, rfl⟩
    have f2 : Fr w.heap.size [w.heap.size] w w2 := (B0.mono (Nat.le_refl _) (by simp)).trans (fr.less (by simp))
    exact f2.below (by simp)
  clear h h1 hX hZ B0
  generalize L.length = l at *
  go_enter Try.func39, Try.ntmps39
  go_wp2_with (refine wpList_copy_at rfl (.tmp 12) (.tmp 16) 73 73 rfl 2 Try.underlying73 infoLs _ _ _ _ _ _ rfl rfl w.heap.size 0 Z 2 SB.out X N1.out (fun hp => ⟨rfl, P1.out hp⟩) F1.out oX.out ?_; intro w2 G2 F2)
  go_ret
  exact ⟨_, rfl, FIN.out w2 G2.out F2.out⟩

set_option maxHeartbeats 1000000 in
theorem same_any (xs : List Int) (u v : Value) (w : World) (hl : (xs.length : Int) ≤ 100000) (hu : Row w u xs) (hv : Row w v xs) :
    Calls Try.prog 38 #[u, v] w fun e w' => e = .returned (.bool true) ∧ ∃ n, w' = w.drewN n := by
  by_cases h0 : xs = []
  · subst h0
    obtain ⟨a, cap, rfl⟩ := hu.shape
    obtain ⟨a2, cap2, rfl⟩ := hv.shape
    clear hl hv hu
    go_enter Try.func38, Try.ntmps38
    go_wp2
    go_loop [5] (fun i => i = .int .i64 0) (fun _ => 0)
    case atStart => rfl
    case round =>
      obtain rfl := hrel
      go_wp2
      go_ret
      exact ⟨rfl, 0, rfl⟩
  · rcases hu with ⟨g, _⟩ | ⟨b, off, cap, rfl, _, hc⟩
    · exact absurd g h0
    rcases hv with ⟨g, _⟩ | ⟨b2, off2, cap2, rfl, _, hc2⟩
    · exact absurd g h0
    have HC : Hid (∀ i, i < xs.length → w.cell? ⟨b, off + i, none⟩ = some (.int .i64 (xs.getD i 0))) := hc
    have HC2 : Hid (∀ i, i < xs.length → w.cell? ⟨b2, off2 + i, none⟩ = some (.int .i64 (xs.getD i 0))) := hc2
    obtain ⟨n, hn⟩ : ∃ n, xs.length = n := ⟨_, rfl⟩
    have HN : Hid (xs.length = n) := hn
    rw [hn] at hl ⊢
    clear hc hc2 hn h0
    go_enter Try.func38, Try.ntmps38
    go_wp2
    go_loopw [5] (fun i wr => ∃ k q : Nat, (k : Int) ≤ n ∧ wr = w.drewN q ∧ i = .int .i64 k) (fun i _ => n - (intOf i).toNat)
    case atStart => exact ⟨0, 0, by omega, rfl, rfl⟩
    case round =>
      obtain ⟨k, q, hk, rfl, rfl⟩ := hrel
      by_cases h : (k : Int) < n
      · have c1 := HC.out k (by have := HN.out; omega)
        have c2 := HC2.out k (by have := HN.out; omega)
        generalize xs.getD k 0 = x at *
        go_wp2
        go_quiet (fail)
        go_wp2
        go_roundw
        case rel => exact ⟨k + 1, _, by omega, rfl, by go_num⟩
        case measure => simp [intOf]; omega
      · go_wp2
        go_ret
        exact ⟨rfl, _, rfl⟩

/- The calls of a number that is not there. -/
theorem nil_add (c n : Int) (w : World) : Calls Try.prog 33 #[.pointer none, .int .i64 c, .int .i64 n] w fun e w' => e = .returned (.int .i64 1) ∧ w' = w := by
  go_enter Try.func33, Try.ntmps33
  go_wp2
  go_ret
  exact ⟨rfl, rfl⟩
theorem nil_fold (c n : Int) (w : World) : Calls Try.prog 31 #[.pointer none, .int .i64 c, .int .i64 n] w fun e w' => e = .returned (.int .i64 1) ∧ w' = w := by
  go_enter Try.func31, Try.ntmps31
  go_wp2
  go_ret
  exact ⟨rfl, rfl⟩
theorem nil_get (c : Int) (w : World) : Calls Try.prog 37 #[.pointer none, .int .i64 c] w fun e w' => e = .returned (.tuple #[.int .i64 0, .int .i64 1]) ∧ w' = w := by
  go_enter Try.func37, Try.ntmps37
  go_wp2
  go_ret2
  exact ⟨rfl, rfl⟩
theorem nil_sum (w : World) : Calls Try.prog 35 #[.pointer none] w fun e w' => e = .returned (.tuple #[.int .i64 0, .int .i64 1]) ∧ w' = w := by
  go_enter Try.func35, Try.ntmps35
  go_wp2
  go_ret2
  exact ⟨rfl, rfl⟩
theorem nil_list (w : World) : Calls Try.prog 39 #[.pointer none] w fun e w' => e = .returned (.slice none 0 0) ∧ w' = w := by
  go_enter Try.func39, Try.ntmps39
  go_wp2
  go_ret
  exact ⟨rfl, rfl⟩

set_option maxHeartbeats 2000000 in
theorem known_yes (w : World) : Calls Try.prog 30 #[] w fun e w' => e = .returned (.bool true) ∧ Below w.heap.size w w' := by
  have C0 : Hid (∀ _ : Unit, _) := fun _ => new_any 2 w (by decide) (by decide)
  have FT : Hid (∀ w1 w2 : World, w.heap.size + 1 < w1.heap.size → Below w.heap.size w w1 → Fr w1.heap.size [w.heap.size] w1 w2 → Below w.heap.size w w2 ∧ w.heap.size + 1 < w2.heap.size) := fun w1 w2 l b f => ⟨b.trans ((f.less (by omega)).below (by simp)), by have := f.size; omega⟩
  obtain ⟨s, hs⟩ : ∃ s, w.heap.size = s := ⟨_, rfl⟩
  rw [hs] at C0 FT ⊢
  have HS : Hid (w.heap.size = s) := hs
  clear hs
  go_enter Try.func30, Try.ntmps30
  go_wp2_with fail
  refine (C0.out ()).mono ?_
  rintro e w1 ⟨rfl, s1, f1⟩
  have B1 : Hid (Below s w w1 ∧ s + 1 < w1.heap.size) := ⟨f1.below (by simp), s1.sb.lt⟩
  have C1 : Hid (∀ _ : Unit, _) := fun _ => add_any 0 5 w1 s1 (by unfold I64; omega)
  rw [show adE (List.replicate 2 0) 0 5 = 0 by decide, show adL (List.replicate 2 0) 0 5 = [5, 0] by decide] at C1
  clear s1 f1
  go_wp2_with fail
  refine (C1.out ()).mono ?_
  rintro e w2 ⟨rfl, s2, f2⟩
  have B2 : Hid (_ ∧ _) := FT.out _ _ B1.out.2 B1.out.1 f2
  have C2 : Hid (∀ _ : Unit, _) := fun _ => add_any 1 (-2) w2 s2 (by unfold I64; omega)
  rw [show adE [5, 0] 1 (-2) = 0 by decide, show adL [5, 0] 1 (-2) = [5, -2] by decide] at C2
  clear s2 f2
  go_wp2_with fail
  refine (C2.out ()).mono ?_
  rintro e w3 ⟨rfl, s3, f3⟩
  have B3 : Hid (_ ∧ _) := FT.out _ _ B2.out.2 B2.out.1 f3
  have C3 : Hid (∀ _ : Unit, _) := fun _ => fold_any 1 0 w3 s3
  rw [show fdE [5, -2] 1 0 = 0 by decide, show fdL [5, -2] 1 0 = [3, 0] by decide] at C3
  clear s3 f3
  go_wp2_with fail
  refine (C3.out ()).mono ?_
  rintro e w4 ⟨rfl, s4, f4⟩
  have B4 : Hid (_ ∧ _) := FT.out _ _ B3.out.2 B3.out.1 f4
  have C4 : Hid (∀ _ : Unit, _) := fun _ => sum_any w4 s4
  rw [show fv ([3, 0] : List Int).sum = 3 by decide, show fe ([3, 0] : List Int).sum = 0 by decide] at C4
  have C5 : Hid (∀ _ : Unit, _) := fun _ => list_any w4 s4
  clear s4 f4
  go_wp2_with fail
  refine (C4.out ()).mono ?_
  rintro e w5 ⟨rfl, rfl⟩
  go_wp2_with fail
  refine (C5.out ()).mono ?_
  rintro e w6 ⟨v, rfl, gl⟩
  have B6 : Hid (Below s w w6 ∧ s + 1 < w6.heap.size) := ⟨B4.out.1.trans (gl.bel.mono (by have := B4.out.2; omega)), by have := gl.bel.size; have := B4.out.2; omega⟩
  have C6 : Hid (∀ _ : Unit, _) := fun _ => same_any [3, 0] v (.slice (some ⟨w6.heap.size, 0, none⟩) 2 2) (w6.alloc (.cells #[.int .i64 3, .int .i64 0] 2)) (by decide) (gl.row.keep (B := w6.heap.size) ((Fr.refl _ _ _).alloc (Nat.le_refl _) _) (Nat.le_refl _)) (row_of_blk (xs := [3, 0]) (Blk.new w6 [.int .i64 3, .int .i64 0] 2) 2)
  clear gl
  go_wp2_with fail
  refine (C6.out ()).mono ?_
  rintro e w7 ⟨rfl, nn, rfl⟩
  go_wp2
  go_ret
  refine ⟨rfl, B6.out.1.trans ((Fr.drewN ((Fr.refl s [] w6).alloc (by have := B6.out.2; omega) _) nn).below (by simp))⟩
end Go.Proofs.Ytaomcakgeiiclaa
