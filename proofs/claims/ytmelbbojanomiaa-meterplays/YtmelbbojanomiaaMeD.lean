/- The program's meter as it lies in memory; what its New, Work, Rest, Energy, Ticks, Rested, Average and Share answer and leave, for every one, and for one that is not there. -/
import Derived.Test.YtmelbbojanomiaaRows
import Derived.Test.YtmelbbojanomiaaMtm
import Derived.Test.YtmelbbojanomiaaMeA
import Derived.WalkKit
import Derived.ProofKit
import Derived.OpenShut
import Derived.BigQuiet
import Derived.Laws.MakeOwn
import Derived.Shelf.RegionOpenPlain
namespace Go.Proofs.Ytmelbbojanomiaa
open Go.ChangeShapes Go.WideShapes Go.ChangeAt Go.RowKit
open Mt Flo

/-- The program's meter. -/
def PM : World → Nat → Nat → Nat → (Nat → Ac) → Prop := MT pcel 63 76

theorem counts_any (n : Int) (w : World) : Calls Try.prog 61 #[.int .i64 n] w fun e w' => e = .returned (.bool (okT n)) ∧ w' = w := by
  unfold okT
  by_cases h1 : 0 ≤ n
  · by_cases h2 : n ≤ 2147483648
    · rw [decide_eq_true h1, decide_eq_true h2]
      go_enter Try.func61, Try.ntmps61
      go_wp2
      go_ret
      exact ⟨rfl, rfl⟩
    · rw [decide_eq_true h1, decide_eq_false h2]
      go_enter Try.func61, Try.ntmps61
      go_wp2
      go_ret
      exact ⟨rfl, rfl⟩
  · rw [decide_eq_false h1, Bool.false_and]
    go_enter Try.func61, Try.ntmps61
    go_wp2
    go_ret
    exact ⟨rfl, rfl⟩
theorem isway_any (n : Int) (w : World) : Calls Try.prog 46 #[.int .i64 n] w fun e w' => e = .returned (.bool (inr 8 n)) ∧ w' = w := by
  unfold inr
  by_cases h1 : 0 ≤ n
  · by_cases h2 : n < 8
    · rw [decide_eq_true h1, decide_eq_true (by omega)]
      go_enter Try.func46, Try.ntmps46
      go_wp2
      go_ret
      exact ⟨rfl, rfl⟩
    · rw [decide_eq_true h1, decide_eq_false (by omega)]
      go_enter Try.func46, Try.ntmps46
      go_wp2
      go_ret
      exact ⟨rfl, rfl⟩
  · rw [decide_eq_false h1, Bool.false_and]
    go_enter Try.func46, Try.ntmps46
    go_wp2
    go_ret
    exact ⟨rfl, rfl⟩

theorem madd_fit (a b : Int) (w : World) (ha : 0 ≤ a) (hb : 0 ≤ b) (h : a + b ≤ 9223372036854775807) :
    Calls Try.prog 62 #[.int .i64 a, .int .i64 b] w fun e w' => e = .returned (.tuple #[.int .i64 (a + b), .int .i64 0]) ∧ w' = w := by
  have e1 : wrap64 (a + b) = a + b := by simp only [wrap64]; omega
  have n1 : ¬ a + b < a := by omega
  have n2 : ¬ b < 0 := by omega
  obtain ⟨c, hc⟩ : ∃ c, a + b = c := ⟨_, rfl⟩
  have e2 : wrap64 (a + b) = c := e1.trans hc
  rw [hc] at n1 ⊢
  clear h ha hb hc e1
  by_cases h0 : 0 < b
  · go_enter Try.func62, Try.ntmps62
    go_wp2
    go_ret2
    exact ⟨rfl, rfl⟩
  · go_enter Try.func62, Try.ntmps62
    go_wp2
    go_ret2
    exact ⟨rfl, rfl⟩
theorem madd_over (a b : Int) (w : World) (ha : 0 ≤ a) (hb : 0 ≤ b) (ha2 : a ≤ 4611686018427387904) (hb2 : b ≤ 4611686018427387904) (h : 9223372036854775807 < a + b) :
    Calls Try.prog 62 #[.int .i64 a, .int .i64 b] w fun e w' => e = .returned (.tuple #[.int .i64 0, .int .i64 16]) ∧ w' = w := by
  obtain ⟨c, hc⟩ : ∃ c, wrap64 (a + b) = c := ⟨_, rfl⟩
  have n1 : c < a := by rw [← hc]; simp only [wrap64]; omega
  have n2 : 0 < b := by omega
  clear h ha hb ha2 hb2
  go_enter Try.func62, Try.ntmps62
  go_wp2
  go_ret2
  exact ⟨rfl, rfl⟩

theorem Try.infoAc : (Try.prog.info? 76).map (fun i => (i.zero, i.size, i.bytes)) = some (some (.agg (List.replicate 10 (.int .i64 0)).toArray), 10, 80) := by kernel_rfl
theorem made_ten (n : Nat) : madeCells (Value.agg (List.replicate 10 (.int .i64 0)).toArray).cells n = (List.replicate n (.int .i64 0)).toArray := by
  have hz : (Value.agg (List.replicate 10 (Value.int .i64 0)).toArray).cells = (List.replicate 10 (.int .i64 0)).toArray := rfl
  rw [hz]
  apply Array.ext
  · simp [size_madeCells]
  · intro i h1 h2
    have hm : i % 10 < 10 := Nat.mod_lt _ (by omega)
    simp only [madeCells, Array.getElem_map, Array.getElem_range, List.getElem_toArray, List.getElem_replicate, List.size_toArray, List.length_replicate]
    rw [getElem!_pos _ _ (by simpa using hm)]
    simp only [List.getElem_toArray, List.getElem_replicate]

theorem mtof_any (w : World) (s g n k : Nat) (F : Nat → Ac) (h : PM w s g n F) (hk : k < n) :
    Calls Try.prog 42 #[.pointer (some ⟨s, 0, none⟩), .int .i64 (k : Int)] w fun e w' => e = .returned (.tuple #[.pointer (some ⟨g, k * 10, none⟩), .int .i64 0]) ∧ w' = w := by
  have c0 := h.hdr
  have l1 : (k : Int) < n := by omega
  have l2 : ¬ (n : Int) ≤ k := by omega
  clear h
  go_enter Try.func42, Try.ntmps42
  go_wp2
  go_ret2
  exact ⟨rfl, rfl⟩
theorem mtof_out (w : World) (s g n : Nat) (c : Int) (F : Nat → Ac) (h : PM w s g n F) (hk : inr n c = false) :
    Calls Try.prog 42 #[.pointer (some ⟨s, 0, none⟩), .int .i64 c] w fun e w' => e = .returned (.tuple #[.pointer (some ⟨w.heap.size, 0, none⟩), .int .i64 3]) ∧ w' = w.alloc (.cells (List.replicate 10 (.int .i64 0)).toArray 76) := by
  have c0 := h.hdr
  by_cases l1 : c < 0
  · clear h hk
    go_enter Try.func42, Try.ntmps42
    go_wp2
    go_ret2
    exact ⟨rfl, rfl⟩
  · have l2 : (n : Int) ≤ c := by simp [inr] at hk; omega
    clear h hk
    go_enter Try.func42, Try.ntmps42
    go_wp2
    go_ret2
    exact ⟨rfl, rfl⟩
theorem mtof_nil (w : World) (c : Int) :
    Calls Try.prog 42 #[.pointer none, .int .i64 c] w fun e w' => e = .returned (.tuple #[.pointer (some ⟨w.heap.size, 0, none⟩), .int .i64 1]) ∧ w' = w.alloc (.cells (List.replicate 10 (.int .i64 0)).toArray 76) := by
  go_enter Try.func42, Try.ntmps42
  go_wp2
  go_ret2
  exact ⟨rfl, rfl⟩

set_option maxRecDepth 100000 in
theorem mtnew_any (n : Nat) (w : World) (h1 : (1 : Int) ≤ n) (h2 : (n : Int) ≤ 64) :
    Calls Try.prog 9 #[.int .i64 (n : Int)] w fun e w' => e = .returned (.tuple #[.pointer (some ⟨w.heap.size + 1, 0, none⟩), .int .i64 0]) ∧ PM w' (w.heap.size + 1) w.heap.size n (fun _ => za) ∧ Below w.heap.size w w' := by
  obtain ⟨i0, hi, hz0, hz1, hz2⟩ := info_parts Try.infoAc
  have hm := run_make (P := Try.prog) w 61 76 i0 _ Try.underlying61 hi hz0 .i64 .i64 n n (by omega) (by omega) (by rw [hz2]; omega) (by omega)
  rw [hz1, made_ten, Int.toNat_natCast] at hm
  have hj : Hid (Cs pcel (List.replicate (n * 10) (.int .i64 0)) n fun _ => za) := cs_new pcel n (fun j => by unfold pcel; repeat' split
                                                                                                              all_goals rfl)
  have F : Hid (∀ o1 o2, Below w.heap.size w ((w.alloc o1).alloc o2)) := fun o1 o2 => ((Below.refl _ _).alloc (Nat.le_refl _) o1).alloc (by simp) o2
  generalize List.replicate (n * 10) (Value.int .i64 0) = Z at *
  clear hi hz0 hz1 hz2
  go_enter Try.func9, Try.ntmps9
  go_wp2
  go_ret2
  refine ⟨rfl, ⟨?_, ⟨Z, (Blk.new w Z 76).alloc _, hj.out⟩, by omega, by omega⟩, F.out _ _⟩
  have := Blk.new (w.alloc (.cells Z.toArray 76)) [.slice (some ⟨w.heap.size, 0, none⟩) n n] 63
  simpa using this
theorem mtnew_bad (c : Int) (w : World) (h : c < 1 ∨ 64 < c) :
    Calls Try.prog 9 #[.int .i64 c] w fun e w' => e = .returned (.tuple #[.pointer none, .int .i64 2]) ∧ w' = w := by
  rcases h with h | h
  · go_enter Try.func9, Try.ntmps9
    go_wp2
    go_ret2
    exact ⟨rfl, rfl⟩
  · have h2 : (1 : Int) ≤ c := by omega
    go_enter Try.func9, Try.ntmps9
    go_wp2
    go_ret2
    exact ⟨rfl, rfl⟩

theorem fr_set {w : World} {g : Nat} (i : Nat) (u : Value) : Fr w.heap.size [g] w (w.setCell ⟨g, i, none⟩ u) := (Fr.refl _ _ _).setCell (Or.inr (by simp)) u

set_option maxRecDepth 100000 in
set_option maxHeartbeats 1000000 in
theorem acadd_any (w : World) (s g n k : Nat) (F : Nat → Ac) (t p : Int) (h : PM w s g n F) (hk : k < n) (ok : Oka (F k) 1000000000000) :
    Calls Try.prog 43 #[.pointer (some ⟨g, k * 10, none⟩), .int .i64 t, .int .i64 p] w fun e w' => e = .returned (.int .i64 (adE (F k).e t p)) ∧ PM w' s g n (if adE (F k).e t p = 0 then ups F k (pay (F k) t p) else F) ∧ Fr w.heap.size [g] w w' := by
  have C1 : Hid (∀ w, _) := fun w => counts_any t w
  have C2 : Hid (∀ w, _) := fun w => counts_any p w
  have H : Hid (PM w s g n F) := h
  cases h1 : okT t with
  | false =>
    rw [show adE (F k).e t p = 2 by unfold adE; rw [h1]; rfl, if_neg (by omega)]
    rw [h1] at C1
    clear h ok h1
    go_enter Try.func43, Try.ntmps43
    go_wp2_with fail
    refine (C1.out _).mono ?_
    rintro e w' ⟨rfl, rfl⟩
    go_wp2
    go_ret
    exact ⟨rfl, H.out, Fr.refl _ _ _⟩
  | true =>
    rw [h1] at C1
    cases h2 : okT p with
    | false =>
      rw [show adE (F k).e t p = 2 by unfold adE; rw [h1, h2]; rfl, if_neg (by omega)]
      rw [h2] at C2
      clear h ok h1 h2
      go_enter Try.func43, Try.ntmps43
      go_wp2_with fail
      refine (C1.out _).mono ?_
      rintro e w' ⟨rfl, rfl⟩
      go_wp2_with fail
      refine (C2.out _).mono ?_
      rintro e w' ⟨rfl, rfl⟩
      go_wp2
      go_ret
      exact ⟨rfl, H.out, Fr.refl _ _ _⟩
    | true =>
      rw [h2] at C2
      obtain ⟨m1, m2, m3, m4⟩ := mul_ok h1 h2
      have a1 := ok.e0
      have a2 := ok.e1
      have c0 : w.cell? ⟨g, k * 10, none⟩ = some (.int .i64 (F k).e) := h.cell hk 0 (by omega)
      have c1 : w.cell? ⟨g, k * 10 + 1, none⟩ = some (.int .i64 (tk (F k))) := h.cell hk 1 (by omega)
      have f0 : w.frozen? ⟨g, k * 10, none⟩ = false := h.free _
      have f1 : w.frozen? ⟨g, k * 10 + 1, none⟩ = false := h.free _
      have ad : adE (F k).e t p = if 4611686018427387904 < (F k).e + t * p then 16 else 0 := by unfold adE; rw [h1, h2]; rfl
      have tb := ok.tb
      have t0 : 0 ≤ tk (F k) := by
        have := ok.w0
        have r := ok.r0
        have := r 0; have := r 1; have := r 2; have := r 3; have := r 4; have := r 5; have := r 6; have := r 7
        unfold tk sm8
        omega
      have tw : wrap64 (tk (F k) + t) = tk (F k) + t := by simp only [wrap64]; omega
      obtain ⟨x, hx⟩ : ∃ x, t * p = x := ⟨_, rfl⟩
      have ex : IntKind.i64.wrap (t * p) = x := by rw [hx, IntKind.wrap_i64]; omega
      have P2 : Hid (∀ T, T = tk (F k) + t → PM ((w.setCell ⟨g, k * 10, none⟩ (.int .i64 ((F k).e + x))).setCell ⟨g, k * 10 + 1, none⟩ (.int .i64 T)) s g n (ups F k (pay (F k) t p))) := fun T hT => by
        subst hT
        rw [← hx]
        have s1 := h.set hk 0 (by omega) ⟨(F k).e + t * p, (F k).wk, (F k).r⟩ ((F k).e + t * p) rfl (fun i hi hn => by unfold pcel; rw [if_neg hn, if_neg hn]; rfl)
        have s2 := s1.set hk 1 (by omega) (pay (F k) t p) (tk (F k) + t) (by show (F k).wk + t + sm8 (F k).r = (F k).wk + sm8 (F k).r + t; omega) (fun i hi hn => by
          rw [ups_at]
          unfold pcel
          split
          · rfl
          · first | rfl | (rw [if_neg hn, if_neg hn]; rfl))
        rw [ups_ups] at s2
        exact s2
      rw [hx] at m3 m4 ad
      generalize (F k).e = E at *
      obtain ⟨T, hT⟩ : ∃ T, tk (F k) + t = T := ⟨_, rfl⟩
      replace tw := tw.trans hT
      have P3 : Hid (T = tk (F k) + t) := hT.symm
      clear hT
      generalize tk (F k) = T0 at *
      clear ok h1 h2 h hx tb t0 m1 m2
      by_cases q : 4611686018427387904 < E + x
      · rw [if_pos q] at ad
        rw [ad, if_neg (by omega)]
        by_cases q2 : E + x ≤ 9223372036854775807
        · have C3 : Hid (∀ w, _) := fun w => madd_fit E x w a1 m3 q2
          obtain ⟨y, hy⟩ : ∃ y, E + x = y := ⟨_, rfl⟩
          rw [hy] at C3 q
          clear q2 a1 a2 m3 m4 ad hy P2
          go_enter Try.func43, Try.ntmps43
          go_wp2_with fail
          refine (C1.out _).mono ?_
          rintro e w' ⟨rfl, rfl⟩
          go_wp2_with fail
          refine (C2.out _).mono ?_
          rintro e w' ⟨rfl, rfl⟩
          go_wp2_with fail
          refine (C3.out _).mono ?_
          rintro e w' ⟨rfl, rfl⟩
          go_wp2
          go_ret
          exact ⟨rfl, H.out, Fr.refl _ _ _⟩
        · have C3 : Hid (∀ w, _) := fun w => madd_over E x w a1 m3 a2 m4 (by omega)
          clear q q2 a1 a2 m3 m4 ad P2
          go_enter Try.func43, Try.ntmps43
          go_wp2_with fail
          refine (C1.out _).mono ?_
          rintro e w' ⟨rfl, rfl⟩
          go_wp2_with fail
          refine (C2.out _).mono ?_
          rintro e w' ⟨rfl, rfl⟩
          go_wp2_with fail
          refine (C3.out _).mono ?_
          rintro e w' ⟨rfl, rfl⟩
          go_wp2
          go_ret
          exact ⟨rfl, H.out, Fr.refl _ _ _⟩
      · rw [if_neg q] at ad
        rw [ad, if_pos rfl]
        have C3 : Hid (∀ w, _) := fun w => madd_fit E x w a1 m3 (by omega)
        obtain ⟨y, hy⟩ : ∃ y, E + x = y := ⟨_, rfl⟩
        rw [hy] at C3 q P2
        have P4 := P2.out T P3.out
        have P5 : Hid _ := P4
        clear a1 a2 m3 m4 ad hy P2 P3 P4
        go_enter Try.func43, Try.ntmps43
        go_wp2_with fail
        refine (C1.out _).mono ?_
        rintro e w' ⟨rfl, rfl⟩
        go_wp2_with fail
        refine (C2.out _).mono ?_
        rintro e w' ⟨rfl, rfl⟩
        go_wp2_with fail
        refine (C3.out _).mono ?_
        rintro e w' ⟨rfl, rfl⟩
        go_wp2
        go_ret
        exact ⟨rfl, P5.out, (fr_set _ _).trans ((Fr.refl _ _ _).setCell (Or.inr (by simp)) _)⟩

set_option maxHeartbeats 1000000 in
theorem mtwork_any (w : World) (s g n : Nat) (F : Nat → Ac) (c t p : Int) (h : PM w s g n F) (ok : OkF n F 1000000000000) :
    Calls Try.prog 12 #[.pointer (some ⟨s, 0, none⟩), .int .i64 c, .int .i64 t, .int .i64 p] w fun e w' => e = .returned (.int .i64 (wkE n F c t p)) ∧ PM w' s g n (wkF n F c t p) ∧ Fr w.heap.size [g] w w' := by
  have H : Hid (PM w s g n F) := h
  cases hc : inr n c with
  | false =>
    have we : wkE n F c t p = 3 := by unfold wkE; rw [hc]; rfl
    have wf : wkF n F c t p = F := by unfold wkF; rw [we]; rfl
    have C : Hid (∀ _ : Unit, _) := fun _ => mtof_out w s g n c F h hc
    rw [we, wf]
    clear h ok we wf
    go_enter Try.func12, Try.ntmps12
    go_wp2_with fail
    refine (C.out ()).mono ?_
    rintro e w' ⟨rfl, rfl⟩
    go_wp2
    go_ret
    have B := (Below.refl w.heap.size w).alloc (Nat.le_refl _) (.cells (List.replicate 10 (.int .i64 0)).toArray 76)
    exact ⟨rfl, H.out.below B, (Fr.of_below B).mono (Nat.le_refl _) (fun _ _ _ => by simp)⟩
  | true =>
    obtain ⟨k, rfl, hk⟩ := inr_yes hc
    have we : wkE n F k t p = adE (F k).e t p := by unfold wkE; rw [hc]; rfl
    have wf : wkF n F k t p = if adE (F k).e t p = 0 then ups F k (pay (F k) t p) else F := by unfold wkF; rw [we]; rfl
    have C : Hid (∀ _ : Unit, _) := fun _ => mtof_any w s g n k F h hk
    have A : Hid (∀ _ : Unit, _) := fun _ => acadd_any w s g n k F t p h hk (ok k hk)
    rw [we, wf]
    clear h ok we wf
    generalize (if adE (F k).e t p = 0 then ups F k (pay (F k) t p) else F) = F2 at *
    generalize adE (F k).e t p = E at *
    go_enter Try.func12, Try.ntmps12
    go_wp2_with fail
    refine (C.out ()).mono ?_
    rintro e w' ⟨rfl, rfl⟩
    go_wp2_with fail
    refine (A.out ()).mono ?_
    rintro e u ⟨rfl, h1, h2⟩
    have R : Hid _ := And.intro h1 h2
    clear h1 h2
    go_wp2
    go_ret
    exact ⟨rfl, R.out⟩

set_option maxHeartbeats 4000000 in
set_option maxRecDepth 100000 in
theorem mtrest_any (w : World) (s g n : Nat) (F : Nat → Ac) (c m t p : Int) (h : PM w s g n F) (ok : OkF n F 1000000000000) :
    Calls Try.prog 14 #[.pointer (some ⟨s, 0, none⟩), .int .i64 c, .int .i64 m, .int .i64 t, .int .i64 p] w fun e w' => e = .returned (.int .i64 (rsE n F c m t p)) ∧ PM w' s g n (rsF n F c m t p) ∧ Fr w.heap.size [g] w w' := by
  have H : Hid (PM w s g n F) := h
  have W : Hid (∀ w, _) := fun w => isway_any m w
  cases hc : inr n c with
  | false =>
    have we : rsE n F c m t p = 3 := by unfold rsE; rw [hc]; rfl
    have wf : rsF n F c m t p = F := by unfold rsF; rw [we]; rfl
    have C : Hid (∀ _ : Unit, _) := fun _ => mtof_out w s g n c F h hc
    rw [we, wf]
    clear h ok we wf
    go_enter Try.func14, Try.ntmps14
    go_wp2_with fail
    refine (C.out ()).mono ?_
    rintro e w' ⟨rfl, rfl⟩
    go_wp2
    go_ret
    have B := (Below.refl w.heap.size w).alloc (Nat.le_refl _) (.cells (List.replicate 10 (.int .i64 0)).toArray 76)
    exact ⟨rfl, H.out.below B, (Fr.of_below B).mono (Nat.le_refl _) (fun _ _ _ => by simp)⟩
  | true =>
    obtain ⟨k, rfl, hk⟩ := inr_yes hc
    have C : Hid (∀ _ : Unit, _) := fun _ => mtof_any w s g n k F h hk
    cases hm : inr 8 m with
    | false =>
      have we : rsE n F k m t p = 3 := by unfold rsE; rw [hc, hm]; rfl
      have wf : rsF n F k m t p = F := by unfold rsF; rw [we]; rfl
      rw [we, wf]
      rw [hm] at W
      clear h ok we wf hm
      go_enter Try.func14, Try.ntmps14
      go_wp2_with fail
      refine (C.out ()).mono ?_
      rintro e w' ⟨rfl, rfl⟩
      go_wp2_with fail
      refine (W.out _).mono ?_
      rintro e w' ⟨rfl, rfl⟩
      go_wp2
      go_ret
      exact ⟨rfl, H.out, Fr.refl _ _ _⟩
    | true =>
      rw [hm] at W
      obtain ⟨j, rfl, hj⟩ := inr_yes hm
      have we : rsE n F k j t p = adE (F k).e t p := by unfold rsE; rw [hc, hm]; rfl
      have wf : rsF n F k j t p = if adE (F k).e t p = 0 then ups F k (rest (F k) j t p) else F := by unfold rsF; rw [we]; rfl
      have A : Hid (∀ _ : Unit, _) := fun _ => acadd_any w s g n k F t p h hk (ok k hk)
      rw [we, wf]
      by_cases e0 : adE (F k).e t p = 0
      · rw [e0]
        rw [e0] at A
        obtain ⟨z1, z2, z3⟩ := adE_zero e0
        obtain ⟨m1, m2, m3, m4⟩ := mul_ok z1 z2
        have q0 := (ok k hk).r0 j
        have q1 : (F k).r j ≤ 1000000000000 := by
          have o := ok k hk
          have := o.tb
          have := o.w0
          have r := o.r0
          have := r 0; have := r 1; have := r 2; have := r 3; have := r 4; have := r 5; have := r 6; have := r 7
          unfold tk sm8 at *
          have : j = 0 ∨ j = 1 ∨ j = 2 ∨ j = 3 ∨ j = 4 ∨ j = 5 ∨ j = 6 ∨ j = 7 := by omega
          rcases this with rfl | rfl | rfl | rfl | rfl | rfl | rfl | rfl <;> omega
        have K : Hid (∀ u, PM u s g n (ups F k (pay (F k) t p)) → u.cell? ⟨g, k * 10 + 2 + j, none⟩ = some (.int .i64 ((F k).r j)) ∧ u.frozen? ⟨g, k * 10 + 2 + j, none⟩ = false) := fun u hu => by
          refine ⟨?_, hu.free _⟩
          have := hu.cell hk (2 + j) (by omega)
          rw [ups_at] at this
          rw [Nat.add_assoc, this]
          unfold pcel
          rw [if_neg (by omega), if_neg (by omega), show 2 + j - 2 = j by omega]
          rfl
        have S : Hid (∀ u, PM u s g n (ups F k (pay (F k) t p)) → PM (u.setCell ⟨g, k * 10 + 2 + j, none⟩ (.int .i64 ((F k).r j + t))) s g n (ups F k (rest (F k) j t p))) := fun u hu => by
          have s1 := hu.set hk (2 + j) (by omega) (rest (F k) j t p) ((F k).r j + t) (by
            unfold pcel
            rw [if_neg (by omega), if_neg (by omega), show 2 + j - 2 = j by omega]
            exact ups_at _ _ _) (fun i hi hn => by
            rw [ups_at]
            unfold pcel
            split
            · rfl
            · split
              · show (F k).wk + sm8 (ups (F k).r j ((F k).r j + t)) = (F k).wk + t + sm8 (F k).r
                rw [sm8_up _ _ _ hj]; omega
              · exact ups_ne _ _ _ _ (by omega))
          rw [ups_ups, ← Nat.add_assoc] at s1
          exact s1
        have tw : wrap64 ((F k).r j + t) = (F k).r j + t := by simp only [wrap64]; omega
        obtain ⟨R, hR⟩ : ∃ R, (F k).r j + t = R := ⟨_, rfl⟩
        rw [hR] at S
        replace tw := tw.trans hR
        generalize (F k).r j = R0 at *
        have jl : (j : Int) < 8 := by omega
        rw [if_pos rfl] at A ⊢
        clear h ok we wf hm e0 z1 z2 z3 m1 m2 m3 m4 q0 q1 hR
        go_enter Try.func14, Try.ntmps14
        go_wp2_with fail
        refine (C.out ()).mono ?_
        rintro e w' ⟨rfl, rfl⟩
        go_wp2_with fail
        refine (W.out _).mono ?_
        rintro e w' ⟨rfl, rfl⟩
        go_wp2_with fail
        refine (A.out ()).mono ?_
        rintro e u ⟨rfl, h1, h2⟩
        obtain ⟨k1, k2⟩ := K.out u h1
        have R1 : Hid _ := S.out u h1
        have R2 : Hid (Fr w'.heap.size [g] w' u) := h2
        clear h1 h2 K S A W C H
        go_wp2_with fail
        go_region
        go_wp2
        go_ret
        exact ⟨rfl, R1.out.heap rfl, ((R2.out.drewN _).setCell (Or.inr (by simp)) _)⟩
      · rw [if_neg e0] at A ⊢
        have e1 : (adE (F k).e t p == 0) = false := beq_eq_false_iff_ne.2 e0
        generalize adE (F k).e t p = E at *
        clear h ok we wf hm e0
        go_enter Try.func14, Try.ntmps14
        go_wp2_with fail
        refine (C.out ()).mono ?_
        rintro e w' ⟨rfl, rfl⟩
        go_wp2_with fail
        refine (W.out _).mono ?_
        rintro e w' ⟨rfl, rfl⟩
        go_wp2_with fail
        refine (A.out ()).mono ?_
        rintro e u ⟨rfl, h1, h2⟩
        have R : Hid _ := And.intro h1 h2
        clear h1 h2
        go_wp2
        go_ret
        exact ⟨rfl, R.out⟩
end Go.Proofs.Ytmelbbojanomiaa
