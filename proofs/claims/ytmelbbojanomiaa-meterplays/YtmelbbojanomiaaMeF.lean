/- The document's meter as it lies in memory; what its New, Is, Work, Rest, Energy, Ticks, Rested, Average and Share answer and leave, for every one. -/
import Derived.Test.YtmelbbojanomiaaRows
import Derived.Test.YtmelbbojanomiaaMtm
import Derived.Test.YtmelbbojanomiaaMeA
import Derived.WalkKit
import Derived.ProofKit
import Derived.OpenShut
import Derived.BigQuiet
import Derived.Laws.MakeOwn
import Derived.Shelf.RegionOpenPlain
namespace Go.Proofs.Ytmelbbojanomiaa
open Go.ChangeShapes Go.WideShapes Go.ChangeAt Go.RowKit
open Mt Flo

/-- The document's meter. -/
def RM : World → Nat → Nat → Nat → (Nat → Ac) → Prop := MT rcel 66 74

theorem Try.infoCo : (Try.prog.info? 74).map (fun i => (i.zero, i.size, i.bytes)) = some (some (.agg (List.replicate 10 (.int .i64 0)).toArray), 10, 80) := by kernel_rfl
theorem made_tenr (n : Nat) : madeCells (Value.agg (List.replicate 10 (.int .i64 0)).toArray).cells n = (List.replicate n (.int .i64 0)).toArray := by
  have hz : (Value.agg (List.replicate 10 (Value.int .i64 0)).toArray).cells = (List.replicate 10 (.int .i64 0)).toArray := rfl
  rw [hz]
  apply Array.ext
  · simp [size_madeCells]
  · intro i h1 h2
    have hm : i % 10 < 10 := Nat.mod_lt _ (by omega)
    simp only [madeCells, Array.getElem_map, Array.getElem_range, List.getElem_toArray, List.getElem_replicate, List.size_toArray, List.length_replicate]
    rw [getElem!_pos _ _ (by simpa using hm)]
    simp only [List.getElem_toArray, List.getElem_replicate]

set_option maxRecDepth 100000 in
theorem rfnew_any (n : Nat) (w : World) (h1 : (1 : Int) ≤ n) (h2 : (n : Int) ≤ 64) :
    Calls Try.prog 10 #[.int .i64 (n : Int)] w fun e w' => e = .returned (.tuple #[.pointer (some ⟨w.heap.size + 1, 0, none⟩), .int .i64 0]) ∧ RM w' (w.heap.size + 1) w.heap.size n (fun _ => za) ∧ Below w.heap.size w w' := by
  obtain ⟨i0, hi, hz0, hz1, hz2⟩ := info_parts Try.infoCo
  have hm := run_make (P := Try.prog) w 64 74 i0 _ Try.underlying64 hi hz0 .i64 .i64 n n (by omega) (by omega) (by rw [hz2]; omega) (by omega)
  rw [hz1, made_tenr, Int.toNat_natCast] at hm
  have hj : Hid (Cs rcel (List.replicate (n * 10) (.int .i64 0)) n fun _ => za) := cs_new rcel n (fun j => by unfold rcel; repeat' split
                                                                                                              all_goals rfl)
  have F : Hid (∀ o1 o2, Below w.heap.size w ((w.alloc o1).alloc o2)) := fun o1 o2 => ((Below.refl _ _).alloc (Nat.le_refl _) o1).alloc (by simp) o2
  generalize List.replicate (n * 10) (Value.int .i64 0) = Z at *
  clear hi hz0 hz1 hz2
  go_enter Try.func10, Try.ntmps10
  go_wp2
  go_ret2
  refine ⟨rfl, ⟨?_, ⟨Z, (Blk.new w Z 74).alloc _, hj.out⟩, by omega, by omega⟩, F.out _ _⟩
  have := Blk.new (w.alloc (.cells Z.toArray 74)) [.slice (some ⟨w.heap.size, 0, none⟩) n n] 66
  simpa using this
theorem rfnew_bad (c : Int) (w : World) (h : c < 1 ∨ 64 < c) :
    Calls Try.prog 10 #[.int .i64 c] w fun e w' => e = .returned (.tuple #[.pointer none, .int .i64 2]) ∧ w' = w := by
  rcases h with h | h
  · go_enter Try.func10, Try.ntmps10
    go_wp2
    go_ret2
    exact ⟨rfl, rfl⟩
  · have h2 : (1 : Int) ≤ c := by omega
    go_enter Try.func10, Try.ntmps10
    go_wp2
    go_ret2
    exact ⟨rfl, rfl⟩


theorem rfis_any (w : World) (s g n : Nat) (F : Nat → Ac) (c : Int) (h : RM w s g n F) :
    Calls Try.prog 44 #[.pointer (some ⟨s, 0, none⟩), .int .i64 c] w fun e w' => e = .returned (.bool (inr n c)) ∧ w' = w := by
  have c0 := h.hdr
  unfold inr
  clear h
  by_cases h1 : 0 ≤ c
  · by_cases h2 : c < (n : Int)
    · rw [decide_eq_true h1, decide_eq_true h2]
      go_enter Try.func44, Try.ntmps44
      go_wp2
      go_ret
      exact ⟨rfl, rfl⟩
    · rw [decide_eq_true h1, decide_eq_false h2]
      go_enter Try.func44, Try.ntmps44
      go_wp2
      go_ret
      exact ⟨rfl, rfl⟩
  · rw [decide_eq_false h1, Bool.false_and]
    go_enter Try.func44, Try.ntmps44
    go_wp2
    go_ret
    exact ⟨rfl, rfl⟩

theorem frr_set {w : World} {g : Nat} (i : Nat) (u : Value) : Fr w.heap.size [g] w (w.setCell ⟨g, i, none⟩ u) := (Fr.refl _ _ _).setCell (Or.inr (by simp)) u

set_option maxRecDepth 100000 in
set_option maxHeartbeats 4000000 in
theorem rfpay_any (w : World) (s g n k : Nat) (F : Nat → Ac) (t p : Int) (h : RM w s g n F) (hk : k < n) (ok : Oka (F k) 1000000000000) :
    Calls Try.prog 45 #[.pointer (some ⟨s, 0, none⟩), .int .i64 (k : Int), .int .i64 t, .int .i64 p] w fun e w' => e = .returned (.int .i64 (adE (F k).e t p)) ∧ RM w' s g n (if adE (F k).e t p = 0 then ups F k ⟨(F k).e + t * p, (F k).wk, (F k).r⟩ else F) ∧ Fr w.heap.size [g] w w' := by
  have H : Hid (RM w s g n F) := h
  cases h0 : (okT t && okT p) with
  | false =>
    rw [show adE (F k).e t p = 2 by unfold adE; rw [h0]; rfl, if_neg (by omega)]
    simp only [okT, Bool.and_eq_false_iff, decide_eq_false_iff_not] at h0
    clear h ok
    by_cases a1 : t < 0
    · clear h0
      go_enter Try.func45, Try.ntmps45
      go_wp2
      go_ret
      exact ⟨rfl, H.out, Fr.refl _ _ _⟩
    · by_cases a2 : 2147483648 < t
      · clear h0
        go_enter Try.func45, Try.ntmps45
        go_wp2
        go_ret
        exact ⟨rfl, H.out, Fr.refl _ _ _⟩
      · by_cases a3 : p < 0
        · clear h0
          go_enter Try.func45, Try.ntmps45
          go_wp2
          go_ret
          exact ⟨rfl, H.out, Fr.refl _ _ _⟩
        · have a4 : 2147483648 < p := by omega
          clear h0
          go_enter Try.func45, Try.ntmps45
          go_wp2
          go_ret
          exact ⟨rfl, H.out, Fr.refl _ _ _⟩
  | true =>
    have hh := h0
    rw [Bool.and_eq_true] at hh
    obtain ⟨m1, m2, m3, m4⟩ := mul_ok hh.1 hh.2
    have hp := hh.2
    simp only [okT, Bool.and_eq_true, decide_eq_true_eq] at hp
    have p1 : ¬ p < 0 := by omega
    have p2 : ¬ 2147483648 < p := by omega
    have t1 : ¬ t < 0 := by omega
    have t2 : ¬ 2147483648 < t := by omega
    have a1 := ok.e0
    have a2 := ok.e1
    have c0 := h.hdr
    have c9 : w.cell? ⟨g, k * 10 + 9, none⟩ = some (.int .i64 (F k).e) := h.cell hk 9 (by omega)
    have f9 : w.frozen? ⟨g, k * 10 + 9, none⟩ = false := h.free _
    have ad : adE (F k).e t p = if 4611686018427387904 < (F k).e + t * p then 16 else 0 := by unfold adE; rw [h0]; rfl
    obtain ⟨x, hx⟩ : ∃ x, t * p = x := ⟨_, rfl⟩
    have ex : IntKind.i64.wrap (t * p) = x := by rw [hx, IntKind.wrap_i64]; omega
    have P2 : Hid (RM (w.setCell ⟨g, k * 10 + 9, none⟩ (.int .i64 ((F k).e + x))) s g n (ups F k ⟨(F k).e + t * p, (F k).wk, (F k).r⟩)) := by
      rw [← hx]
      exact h.set hk 9 (by omega) ⟨(F k).e + t * p, (F k).wk, (F k).r⟩ ((F k).e + t * p) rfl (fun i hi hn => by unfold rcel; rw [if_neg hn, if_neg hn])
    rw [hx] at m3 m4 ad
    have kl : (k : Int) < n := by omega
    generalize (F k).e = E at *
    by_cases q : 4611686018427387904 < E + x
    · rw [if_pos q] at ad
      rw [ad, if_neg (by omega)]
      obtain ⟨d, hd⟩ : ∃ d, wrap64 (4611686018427387904 - x) = d := ⟨_, rfl⟩
      have q2 : d < E := by rw [← hd]; simp only [wrap64]; omega
      clear ok h0 h hh hx m1 m2 m3 m4 hp a1 a2 q ad P2
      go_enter Try.func45, Try.ntmps45
      go_wp2
      go_ret
      exact ⟨rfl, H.out, Fr.refl _ _ _⟩
    · rw [if_neg q] at ad
      rw [ad, if_pos rfl]
      obtain ⟨d, hd⟩ : ∃ d, wrap64 (4611686018427387904 - x) = d := ⟨_, rfl⟩
      have q2 : ¬ d < E := by rw [← hd]; simp only [wrap64]; omega
      obtain ⟨y, hy⟩ : ∃ y, E + x = y := ⟨_, rfl⟩
      have ey : wrap64 (E + x) = y := by rw [hy]; simp only [wrap64]; omega
      rw [hy] at P2
      clear ok h0 h hh hx m1 m2 m3 m4 hp a1 a2 q ad hy H
      go_enter Try.func45, Try.ntmps45
      go_wp2_with fail
      go_region
      all_goals (
        go_wp2
        go_ret
        exact ⟨rfl, P2.out.heap rfl, ((Fr.refl _ _ _).drewN _).setCell (Or.inr (by simp)) _⟩)

set_option maxRecDepth 100000 in
set_option maxHeartbeats 4000000 in
theorem rfwork_any (w : World) (s g n : Nat) (F : Nat → Ac) (c t p : Int) (h : RM w s g n F) (ok : OkF n F 1000000000000) :
    Calls Try.prog 13 #[.pointer (some ⟨s, 0, none⟩), .int .i64 c, .int .i64 t, .int .i64 p] w fun e w' => e = .returned (.int .i64 (wkE n F c t p)) ∧ RM w' s g n (wkF n F c t p) ∧ Fr w.heap.size [g] w w' := by
  have H : Hid (RM w s g n F) := h
  have I : Hid (∀ _ : Unit, _) := fun _ => rfis_any w s g n F c h
  cases hc : inr n c with
  | false =>
    have we : wkE n F c t p = 3 := by unfold wkE; rw [hc]; rfl
    have wf : wkF n F c t p = F := by unfold wkF; rw [we]; rfl
    rw [we, wf]
    rw [hc] at I
    clear h ok we wf
    go_enter Try.func13, Try.ntmps13
    go_wp2_with fail
    refine (I.out ()).mono ?_
    rintro e w' ⟨rfl, rfl⟩
    go_wp2
    go_ret
    exact ⟨rfl, H.out, Fr.refl _ _ _⟩
  | true =>
    rw [hc] at I
    obtain ⟨k, rfl, hk⟩ := inr_yes hc
    have we : wkE n F k t p = adE (F k).e t p := by unfold wkE; rw [hc]; rfl
    have wf : wkF n F k t p = if adE (F k).e t p = 0 then ups F k (pay (F k) t p) else F := by unfold wkF; rw [we]; rfl
    have A : Hid (∀ _ : Unit, _) := fun _ => rfpay_any w s g n k F t p h hk (ok k hk)
    rw [we, wf]
    by_cases e0 : adE (F k).e t p = 0
    · rw [e0]
      rw [e0] at A
      rw [if_pos rfl] at A ⊢
      obtain ⟨z1, z2, z3⟩ := adE_zero e0
      obtain ⟨m1, m2, m3, m4⟩ := mul_ok z1 z2
      have q0 := (ok k hk).w0
      have q1 : (F k).wk ≤ 1000000000000 := by
        have o := ok k hk
        have := o.tb
        have r := o.r0
        have := r 0; have := r 1; have := r 2; have := r 3; have := r 4; have := r 5; have := r 6; have := r 7
        unfold tk sm8 at *
        omega
      have K : Hid (∀ u, RM u s g n (ups F k ⟨(F k).e + t * p, (F k).wk, (F k).r⟩) → u.cell? ⟨s, 0, none⟩ = some (.slice (some ⟨g, 0, none⟩) n n) ∧ u.cell? ⟨g, k * 10, none⟩ = some (.int .i64 (F k).wk) ∧ u.frozen? ⟨g, k * 10, none⟩ = false) := fun u hu => by
        refine ⟨hu.hdr, ?_, hu.free _⟩
        have := hu.cell hk 0 (by omega)
        rw [ups_at] at this
        exact this
      have S : Hid (∀ u, RM u s g n (ups F k ⟨(F k).e + t * p, (F k).wk, (F k).r⟩) → RM (u.setCell ⟨g, k * 10, none⟩ (.int .i64 ((F k).wk + t))) s g n (ups F k (pay (F k) t p))) := fun u hu => by
        have s1 := hu.set hk 0 (by omega) (pay (F k) t p) ((F k).wk + t) rfl (fun i hi hn => by
          rw [ups_at]
          unfold rcel
          rw [if_neg hn, if_neg hn]
          rfl)
        rw [ups_ups] at s1
        exact s1
      have tw : wrap64 ((F k).wk + t) = (F k).wk + t := by simp only [wrap64]; omega
      obtain ⟨R, hR⟩ : ∃ R, (F k).wk + t = R := ⟨_, rfl⟩
      rw [hR] at S
      replace tw := tw.trans hR
      generalize (F k).wk = R0 at *
      have kl : (k : Int) < n := by omega
      clear h ok we wf e0 z1 z2 z3 m1 m2 m3 m4 q0 q1 hR hc
      go_enter Try.func13, Try.ntmps13
      go_wp2_with fail
      refine (I.out ()).mono ?_
      rintro e w' ⟨rfl, rfl⟩
      go_wp2_with fail
      refine (A.out ()).mono ?_
      rintro e u ⟨rfl, h1, h2⟩
      obtain ⟨k0, k1, k2⟩ := K.out u h1
      have R1 : Hid _ := S.out u h1
      have R2 : Hid (Fr w'.heap.size [g] w' u) := h2
      clear h1 h2 K S A I H
      go_wp2_with fail
      go_region
      all_goals (
        go_wp2
        go_ret
        exact ⟨rfl, R1.out.heap rfl, ((R2.out.drewN _).setCell (Or.inr (by simp)) _)⟩)
    · rw [if_neg e0] at A ⊢
      have e1 : (adE (F k).e t p == 0) = false := beq_eq_false_iff_ne.2 e0
      generalize adE (F k).e t p = E at *
      clear h ok we wf e0 hc
      go_enter Try.func13, Try.ntmps13
      go_wp2_with fail
      refine (I.out ()).mono ?_
      rintro e w' ⟨rfl, rfl⟩
      go_wp2_with fail
      refine (A.out ()).mono ?_
      rintro e u ⟨rfl, h1, h2⟩
      have R : Hid _ := And.intro h1 h2
      clear h1 h2
      go_wp2
      go_ret
      exact ⟨rfl, R.out⟩

set_option maxRecDepth 100000 in
set_option maxHeartbeats 4000000 in
theorem rfrest_any (w : World) (s g n : Nat) (F : Nat → Ac) (c m t p : Int) (h : RM w s g n F) (ok : OkF n F 1000000000000) :
    Calls Try.prog 15 #[.pointer (some ⟨s, 0, none⟩), .int .i64 c, .int .i64 m, .int .i64 t, .int .i64 p] w fun e w' => e = .returned (.int .i64 (rsE n F c m t p)) ∧ RM w' s g n (rsF n F c m t p) ∧ Fr w.heap.size [g] w w' := by
  have H : Hid (RM w s g n F) := h
  have I : Hid (∀ _ : Unit, _) := fun _ => rfis_any w s g n F c h
  cases hc : inr n c with
  | false =>
    have we : rsE n F c m t p = 3 := by unfold rsE; rw [hc]; rfl
    have wf : rsF n F c m t p = F := by unfold rsF; rw [we]; rfl
    rw [we, wf]
    rw [hc] at I
    clear h ok we wf
    go_enter Try.func15, Try.ntmps15
    go_wp2_with fail
    refine (I.out ()).mono ?_
    rintro e w' ⟨rfl, rfl⟩
    go_wp2
    go_ret
    exact ⟨rfl, H.out, Fr.refl _ _ _⟩
  | true =>
    rw [hc] at I
    obtain ⟨k, rfl, hk⟩ := inr_yes hc
    cases hm : inr 8 m with
    | false =>
      have we : rsE n F k m t p = 3 := by unfold rsE; rw [hc, hm]; rfl
      have wf : rsF n F k m t p = F := by unfold rsF; rw [we]; rfl
      rw [we, wf]
      by_cases m1 : m < 0
      · clear h ok we wf hm
        go_enter Try.func15, Try.ntmps15
        go_wp2_with fail
        refine (I.out ()).mono ?_
        rintro e w' ⟨rfl, rfl⟩
        go_wp2
        go_ret
        exact ⟨rfl, H.out, Fr.refl _ _ _⟩
      · have m2 : 7 < m := by simp [inr] at hm; omega
        clear h ok we wf hm
        go_enter Try.func15, Try.ntmps15
        go_wp2_with fail
        refine (I.out ()).mono ?_
        rintro e w' ⟨rfl, rfl⟩
        go_wp2
        go_ret
        exact ⟨rfl, H.out, Fr.refl _ _ _⟩
    | true =>
      obtain ⟨j, rfl, hj⟩ := inr_yes hm
      have we : rsE n F k j t p = adE (F k).e t p := by unfold rsE; rw [hc, hm]; rfl
      have wf : rsF n F k j t p = if adE (F k).e t p = 0 then ups F k (rest (F k) j t p) else F := by unfold rsF; rw [we]; rfl
      have A : Hid (∀ _ : Unit, _) := fun _ => rfpay_any w s g n k F t p h hk (ok k hk)
      rw [we, wf]
      have jl : (j : Int) < 8 := by omega
      have jm : ¬ (7 : Int) < j := by omega
      have j0 : ¬ (j : Int) < 0 := by omega
      by_cases e0 : adE (F k).e t p = 0
      · rw [e0]
        rw [e0] at A
        rw [if_pos rfl] at A ⊢
        obtain ⟨z1, z2, z3⟩ := adE_zero e0
        obtain ⟨m1, m2, m3, m4⟩ := mul_ok z1 z2
        have q0 := (ok k hk).r0 j
        have q1 : (F k).r j ≤ 1000000000000 := by
          have o := ok k hk
          have := o.tb
          have := o.w0
          have r := o.r0
          have := r 0; have := r 1; have := r 2; have := r 3; have := r 4; have := r 5; have := r 6; have := r 7
          unfold tk sm8 at *
          have : j = 0 ∨ j = 1 ∨ j = 2 ∨ j = 3 ∨ j = 4 ∨ j = 5 ∨ j = 6 ∨ j = 7 := by omega
          rcases this with rfl | rfl | rfl | rfl | rfl | rfl | rfl | rfl <;> omega
        have K : Hid (∀ u, RM u s g n (ups F k ⟨(F k).e + t * p, (F k).wk, (F k).r⟩) → u.cell? ⟨s, 0, none⟩ = some (.slice (some ⟨g, 0, none⟩) n n) ∧ u.cell? ⟨g, k * 10 + 1 + j, none⟩ = some (.int .i64 ((F k).r j)) ∧ u.frozen? ⟨g, k * 10 + 1 + j, none⟩ = false) := fun u hu => by
          refine ⟨hu.hdr, ?_, hu.free _⟩
          have := hu.cell hk (1 + j) (by omega)
          rw [ups_at] at this
          rw [Nat.add_assoc, this]
          unfold rcel
          rw [if_neg (by omega), if_neg (by omega), show 1 + j - 1 = j by omega]
        have S : Hid (∀ u, RM u s g n (ups F k ⟨(F k).e + t * p, (F k).wk, (F k).r⟩) → RM (u.setCell ⟨g, k * 10 + 1 + j, none⟩ (.int .i64 ((F k).r j + t))) s g n (ups F k (rest (F k) j t p))) := fun u hu => by
          have s1 := hu.set hk (1 + j) (by omega) (rest (F k) j t p) ((F k).r j + t) (by
            unfold rcel
            rw [if_neg (by omega), if_neg (by omega), show 1 + j - 1 = j by omega]
            exact ups_at _ _ _) (fun i hi hn => by
            rw [ups_at]
            unfold rcel
            split
            · rfl
            · split
              · rfl
              · exact ups_ne _ _ _ _ (by omega))
          rw [ups_ups, ← Nat.add_assoc] at s1
          exact s1
        have tw : wrap64 ((F k).r j + t) = (F k).r j + t := by simp only [wrap64]; omega
        obtain ⟨R, hR⟩ : ∃ R, (F k).r j + t = R := ⟨_, rfl⟩
        rw [hR] at S
        replace tw := tw.trans hR
        generalize (F k).r j = R0 at *
        have kl : (k : Int) < n := by omega
        clear h ok we wf hm e0 z1 z2 z3 m1 m2 m3 m4 q0 q1 hR hc
        go_enter Try.func15, Try.ntmps15
        go_wp2_with fail
        refine (I.out ()).mono ?_
        rintro e w' ⟨rfl, rfl⟩
        go_wp2_with fail
        refine (A.out ()).mono ?_
        rintro e u ⟨rfl, h1, h2⟩
        obtain ⟨k0, k1, k2⟩ := K.out u h1
        have R1 : Hid _ := S.out u h1
        have R2 : Hid (Fr w'.heap.size [g] w' u) := h2
        clear h1 h2 K S A I H
        go_wp2_with fail
        go_region
        all_goals (
          go_wp2
          go_ret
          exact ⟨rfl, R1.out.heap rfl, ((R2.out.drewN _).setCell (Or.inr (by simp)) _)⟩)
      · rw [if_neg e0] at A ⊢
        have e1 : (adE (F k).e t p == 0) = false := beq_eq_false_iff_ne.2 e0
        generalize adE (F k).e t p = E at *
        clear h ok we wf hm e0 hc
        go_enter Try.func15, Try.ntmps15
        go_wp2_with fail
        refine (I.out ()).mono ?_
        rintro e w' ⟨rfl, rfl⟩
        go_wp2_with fail
        refine (A.out ()).mono ?_
        rintro e u ⟨rfl, h1, h2⟩
        have R : Hid _ := And.intro h1 h2
        clear h1 h2
        go_wp2
        go_ret
        exact ⟨rfl, R.out⟩
end Go.Proofs.Ytmelbbojanomiaa
