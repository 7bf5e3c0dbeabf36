/- What the document's wheel's Add answers and leaves. -/
import Derived.Test.YtadaghhgmflfdaaDoorRows
import Derived.Test.YtadaghhgmflfdaaDoorYb
import Derived.WalkKit
import Derived.ProofKit
import Derived.OpenShut
import Derived.BigQuiet
namespace Go.Proofs.YtadaghhgmflfdaaDoor
open Go.ChangeShapes Go.WideShapes Go.ChangeAt Go.RowKit
open Wm

theorem at_below {L : List It} (h : Srt L) {x y : It} {k : Nat} (hk : k < at_ L x) (hy : L[k]? = some y) : lt y x := by
  have e : (L.take (at_ L x))[k]? = some y := by rw [List.getElem?_take, if_pos hk]; exact hy
  rw [take_at h] at e
  simpa using (List.mem_filter.1 (List.mem_of_getElem? e)).2
theorem at_above {L : List It} (h : Srt L) {x y : It} (hy : L[at_ L x]? = some y) : ¬ lt y x := by
  have e : (L.drop (at_ L x))[0]? = some y := by rw [List.getElem?_drop]; exact hy
  rw [drop_at h] at e
  simpa using (List.mem_filter.1 (List.mem_of_getElem? e)).2

/-- One more at its place: what three appends and a store make of it. -/
theorem dadd_chain {w : World} {s k cap : Nat} {now : Int} {a : Option Addr} {L : List It} {x : It} (h : DV w s now (.slice a L.length cap) L) (hl : L.length ≤ 1000) (hk : k ≤ L.length) (hr : L.take k ++ x :: L.drop k = ins x L) (nx : ∀ y ∈ L, y.2 ≠ x.2) (ad : Option Addr) (cc : Nat) (had : (a = none → ad = none) ∧ (∀ g, a = some ⟨g, 0, none⟩ → ad = if cap = k then some ⟨g, 0, none⟩ else some ⟨g, k * 2, none⟩)) (hc : a = none → cc = 0) :
    ∃ a1 c1 w1 a2 c2 w2 a3 c3 w3, (∀ ty, (Builtin.append_ #[46, 46] ty #[.slice none 0 0, .slice a k cap]).run Tryd.prog w = .ok (.slice a1 k c1) w1) ∧
      (∀ ty, (Builtin.append_ #[46, 46] ty #[.slice a1 k c1, .slice (some ⟨w1.heap.size, 0, none⟩) 1 1]).run Tryd.prog (w1.alloc (.cells #[.int .i64 x.2, .int .i64 x.1] 93)) = .ok (.slice a2 (k + 1) c2) w2) ∧ w2.cell? ⟨s, 1, none⟩ = some (.slice a L.length cap) ∧
      (∀ ty, (Builtin.append_ #[46, 46] ty #[.slice a2 (k + 1) c2, .slice ad (L.length - k) cc]).run Tryd.prog w2 = .ok (.slice a3 (L.length + 1) c3) w3) ∧ w3.cell? ⟨s, 1, none⟩ = some (.slice a L.length cap) ∧ w3.frozen? ⟨s, 1, none⟩ = false ∧
      Hid (∃ F', DD (w3.setCell ⟨s, 1, none⟩ (.slice a3 (L.length + 1) c3)) s now (ins x L) F' ∧ Mv w (w3.setCell ⟨s, 1, none⟩ (.slice a3 (L.length + 1) c3)) (s :: ob (.slice a L.length cap)) F') := by
  have ltk : (L.take k).length = k := by rw [List.length_take]; omega
  have ld : (L.drop k).length = L.length - k := List.length_drop
  obtain ⟨a1, c1, w1, r1, o1, f1, n1⟩ := app_any (own_nil 93 w) (src_take h.own hk) (by rw [ltk]; simp; omega)
  simp only [List.length_nil, Nat.zero_add, List.nil_append, ltk] at r1 o1 n1
  have b1 := fr_nil_below f1
  have new1 : ∀ i ∈ ob (.slice a1 k c1), w.heap.size ≤ i := fun i hi => by
    rcases n1 i hi with q | q
    · simp [ob, Value.ownBlock] at q
    · exact q
  have bx : Below w1.heap.size w1 (w1.alloc (.cells #[.int .i64 x.2, .int .i64 x.1] 93)) := (Below.refl _ _).alloc (Nat.le_refl _) _
  have ox := o1.keep (Fr.of_below bx) fun g hg => ⟨o1.lt hg, by simp⟩
  have nb := Blk.new w1 [.int .i64 x.2, .int .i64 x.1] 93
  obtain ⟨a2, c2, w2, r2, o2, f2, n2⟩ := app_any (u := .slice (some ⟨w1.heap.size, 0, none⟩) 1 1) (M := [x]) ox (Or.inr ⟨_, 1, rfl, fun j u hj => by rw [Addr.add_lit, Nat.zero_add, nb.cell]; exact hj⟩) (by rw [ltk]; simp; omega)
  simp only [ltk, List.length_cons, List.length_nil, Nat.zero_add] at r2 o2 n2
  have s1 := b1.size
  have sx := bx.size
  have b2 : Below w.heap.size w w2 := (b1.trans (bx.mono s1)).trans ((f2.less (by omega)).below new1)
  have new2 : ∀ i ∈ ob (.slice a2 (k + 1) c2), w.heap.size ≤ i := fun i hi => by
    rcases n2 i hi with q | q
    · exact new1 i q
    · omega
  have h2 := h.below b2
  have sr : Src2 w (.slice ad (L.length - k) cc) (L.drop k) := src_drop h.own hk ad had cc hc
  have l2 : (L.take k ++ [x]).length = k + 1 := by rw [List.length_append, ltk]; rfl
  obtain ⟨a3, c3, w3, r3, o3, f3, n3⟩ := app_any o2 (sr.below b2) (by rw [l2, ld]; omega)
  simp only [l2, ld, show k + 1 + (L.length - k) = L.length + 1 by omega] at r3 o3 n3
  rw [List.append_assoc, List.singleton_append, hr] at o3
  have s2 := b2.size
  have b3 : Below w.heap.size w w3 := b2.trans ((f3.less s2).below new2)
  have nm : x ∉ L := fun hm => nx x hm rfl
  obtain ⟨q1, q2, q3, q4⟩ := dv_store h b3 o3 (fun i hi => by
    rcases n3 i hi with q | q
    · exact new2 i q
    · omega) (srt_ins h.srt x) (uni_ins h.uni nx)
  exact ⟨a1, c1, w1, a2, c2, w2, a3, c3, w3, r1, r2, h2.st.cell 1, r3, q3, q4, _, q1, q2⟩

set_option maxRecDepth 100000 in
set_option maxHeartbeats 1000000 in
theorem radd_arg {w : World} {s : Nat} (id d : Int) (hd : ¬ isT d) :
    Calls Tryd.prog 56 #[.pointer (some ⟨s, 0, none⟩), .int .i64 id, .int .i64 d] w fun e w' => e = .returned (.int .i64 2) ∧ w' = w := by
  unfold isT at hd
  by_cases h1 : d < 0
  · clear hd
    go_enter Tryd.func56, Tryd.ntmps56
    go_wp2
    go_ret
    exact ⟨rfl, rfl⟩
  · have h2 : 1152921504606846976 < d := by omega
    clear hd
    go_enter Tryd.func56, Tryd.ntmps56
    go_wp2
    go_ret
    exact ⟨rfl, rfl⟩
set_option maxRecDepth 100000 in
set_option maxHeartbeats 1000000 in
theorem radd_in {w : World} {s : Nat} {now : Int} {L : List It} {F : List Nat} (id d : Int) (hd : isT d) (h : DD w s now L F) (hl : L.length ≤ 1000) (hs : (wn L id).isSome = true) :
    Calls Tryd.prog 56 #[.pointer (some ⟨s, 0, none⟩), .int .i64 id, .int .i64 d] w fun e w' => e = .returned (.int .i64 6) ∧ w' = w := by
  have C : Hid (∀ _ : Unit, _) := fun _ => rfind_any id h hl
  obtain ⟨t, ht⟩ := Option.isSome_iff_exists.1 hs
  rw [ix_some ht] at C
  obtain ⟨h1, h2⟩ := hd
  have h3 : ¬ d < 0 := by omega
  generalize at_ L (t, id) = k at *
  clear hs ht h
  go_enter Tryd.func56, Tryd.ntmps56
  go_wp2_with fail
  refine (C.out ()).mono ?_
  rintro e w' ⟨rfl, rfl⟩
  go_wp2
  go_ret
  exact ⟨rfl, rfl⟩

set_option maxRecDepth 100000 in
set_option maxHeartbeats 4000000 in
theorem radd_new {w : World} {s : Nat} {now : Int} {L : List It} {F : List Nat} (id d : Int) (hd : isT d) (h : DD w s now L F) (hl : L.length ≤ 1000) (hn : wn L id = none) :
    Calls Tryd.prog 56 #[.pointer (some ⟨s, 0, none⟩), .int .i64 id, .int .i64 d] w fun e w' => e = .returned (.int .i64 0) ∧ ∃ F', DD w' s now (ins (d, id) L) F' ∧ Mv w w' F F' := by
  have C : Hid (∀ _ : Unit, _) := fun _ => rfind_any id h hl
  rw [ix_none hn] at C
  obtain ⟨v, h, rfl⟩ := h
  obtain ⟨a, cap, rfl⟩ := h.own.shape
  have k1 : w.cell? ⟨s, 1, none⟩ = some (.slice a L.length cap) := h.st.cell 1
  have nx : ∀ y ∈ L, y.2 ≠ (d, id).2 := wn_none.1 hn
  have hat := at_le L (d, id)
  have CH : Hid (∀ (ad : Option Addr) (cc : Nat), _ → _ → _) := fun ad cc p q => dadd_chain h hl hat (ins_is h.srt (fun hm => nx _ hm rfl)).symm nx ad cc p q
  have AB : Hid (∀ i, i < L.length → ∃ (g : Nat) (y : It), a = some ⟨g, 0, none⟩ ∧ w.cell? ⟨g, i * 2, none⟩ = some (.int .i64 y.2) ∧ w.cell? ⟨g, i * 2 + 1, none⟩ = some (.int .i64 y.1) ∧ (i < at_ L (d, id) → lt y (d, id)) ∧ (i = at_ L (d, id) → ¬ lt y (d, id))) := fun i hi => by
    obtain ⟨g, y, e, hy, h1, h2⟩ := h.at hi
    exact ⟨g, y, e, h1, h2, fun q => at_below h.srt q hy, fun q => at_above h.srt (by rw [← q]; exact hy)⟩
  have SH : a = none ∧ L.length = 0 ∧ cap = 0 ∨ ∃ g, a = some ⟨g, 0, none⟩ ∧ L.length ≤ cap := by
    rcases h.own.cases with ⟨e, e2⟩ | ⟨g, c, cur, e, _, h1, _⟩
    · simp only [Value.slice.injEq] at e
      exact Or.inl e
    · simp only [Value.slice.injEq] at e
      exact Or.inr ⟨g, e.1, by omega⟩
  obtain ⟨h1, h2⟩ := hd
  have h3 : ¬ d < 0 := by omega
  generalize hr : at_ L (d, id) = r at *
  generalize L.length = n at *
  have n2 : (n : Int) ≤ 1000 := by omega
  have r2 : (r : Int) ≤ n := by omega
  clear h hn nx hl hr
  rcases SH with ⟨rfl, rfl, rfl⟩ | ⟨g, rfl, hcp⟩
  · obtain rfl : r = 0 := by omega
    obtain ⟨a1, c1, w1, a2, c2, w2, a3, c3, w3, e1, e2, e3, e4, e5, e6, FF⟩ := CH.out (none) (0) ⟨fun _ => rfl, fun _ q => (by cases q)⟩ (fun _ => rfl)
    have R1 := e1 46
    have R2 := e2 46
    have R3 := e4 46
    clear e1 e2 e4 CH AB
    go_enter Tryd.func56, Tryd.ntmps56
    go_wp2_with fail
    refine (C.out ()).mono ?_
    rintro e w' ⟨rfl, rfl⟩
    go_wp2_with fail
    go_loopw [7] (fun i wr => wr = w' ∧ i = .int .i64 0) (fun _ _ => 0)
    case atStart => exact ⟨rfl, rfl⟩
    case round =>
      obtain ⟨rfl, rfl⟩ := hrel
      go_wp2_with (first | (at_builtin; guard_target =~ wpList _ _ _ (Oper.mk (some 71) _ _ _ _ _ :: _) _ _; refine wpList_run rfl (.tmp 64) (.tmp 70) 46 rfl rfl rfl R1 ?_) | (at_builtin; guard_target =~ wpList _ _ _ (Oper.mk (some 77) _ _ _ _ _ :: _) _ _; refine wpList_run rfl (.tmp 72) (.tmp 76) 46 rfl rfl rfl R2 ?_) | (at_builtin; guard_target =~ wpList _ _ _ (Oper.mk (some 86) _ _ _ _ _ :: _) _ _; refine wpList_run rfl (.tmp 79) (.tmp 85) 46 rfl rfl rfl R3 ?_))
      go_ret
      exact ⟨rfl, FF.out⟩
  · have hcp1 : (n : Int) ≤ cap := by omega
    have hrc : (r : Int) ≤ cap := by omega
    have hrn : r ≤ n := by omega
    go_enter Tryd.func56, Tryd.ntmps56
    go_wp2_with fail
    refine (C.out ()).mono ?_
    rintro e w' ⟨rfl, rfl⟩
    go_wp2_with fail
    go_loopw [7] (fun i wr => wr = w' ∧ ∃ k : Nat, (k : Int) ≤ r ∧ i = .int .i64 k) (fun i _ => r - (intOf i).toNat)
    case atStart => exact ⟨rfl, 0, by omega, rfl⟩
    case round =>
      obtain ⟨rfl, k, hk, rfl⟩ := hrel
      by_cases e : (k : Int) < r
      · obtain ⟨g2, y, eg, d1, d2, q1, q2⟩ := AB.out k (by omega)
        cases eg
        have hlt := q1 (by omega)
        unfold Wm.lt at hlt
        dsimp only at hlt
        have kn : (k : Int) < n := by omega
        have kd : decide ((k : Int) < (n : Int)) = true := decide_eq_true kn
        clear q1 q2
        generalize y.1 = y1 at *
        generalize y.2 = y2 at *
        by_cases c1 : y1 < d
        · have d3 : decide (y1 < d) = true := decide_eq_true c1
          clear hlt
          go_wp2
          go_roundw
          case rel => exact ⟨trivial, k + 1, by omega, by go_num⟩
          case measure => simp [intOf]; omega
        · obtain rfl : y1 = d := by omega
          have c2 : y2 < id := by omega
          have d3 : decide (y2 < id) = true := decide_eq_true c2
          clear hlt c1
          go_wp2
          go_roundw
          case rel => exact ⟨trivial, k + 1, by omega, by go_num⟩
          case measure => simp [intOf]; omega
      · obtain rfl : k = r := by omega
        by_cases hn : k = n
        · subst hn
          have kd : decide ((k : Int) < (k : Int)) = false := decide_eq_false (by omega)
          by_cases hcap : cap = k
          · subst hcap
            obtain ⟨a1, c1, w1, a2, c2, w2, a3, c3, w3, e1, e2, e3, e4, e5, e6, FF⟩ := CH.out (some ⟨g, 0, none⟩) (0) ⟨fun q => (by cases q), fun _ q => (by cases q; rw [if_pos rfl])⟩ (fun q => (by cases q))
            have R1 := e1 46
            have R2 := e2 46
            have R3 := e4 46
            clear e1 e2 e4 CH AB
            rw [Nat.sub_self] at R3
            go_wp2_with (first | (at_builtin; guard_target =~ wpList _ _ _ (Oper.mk (some 71) _ _ _ _ _ :: _) _ _; refine wpList_run rfl (.tmp 64) (.tmp 70) 46 rfl rfl rfl R1 ?_) | (at_builtin; guard_target =~ wpList _ _ _ (Oper.mk (some 77) _ _ _ _ _ :: _) _ _; refine wpList_run rfl (.tmp 72) (.tmp 76) 46 rfl rfl rfl R2 ?_) | (at_builtin; guard_target =~ wpList _ _ _ (Oper.mk (some 86) _ _ _ _ _ :: _) _ _; refine wpList_run rfl (.tmp 79) (.tmp 85) 46 rfl rfl rfl R3 ?_))
            go_ret
            exact ⟨rfl, FF.out⟩
          · obtain ⟨a1, c1, w1, a2, c2, w2, a3, c3, w3, e1, e2, e3, e4, e5, e6, FF⟩ := CH.out (some ⟨g, k * 2, none⟩) (cap - k) ⟨fun q => (by cases q), fun _ q => (by cases q; rw [if_neg hcap])⟩ (fun q => (by cases q))
            have R1 := e1 46
            have R2 := e2 46
            have R3 := e4 46
            clear e1 e2 e4 CH AB
            rw [Nat.sub_self] at R3
            go_wp2_with (first | (at_builtin; guard_target =~ wpList _ _ _ (Oper.mk (some 71) _ _ _ _ _ :: _) _ _; refine wpList_run rfl (.tmp 64) (.tmp 70) 46 rfl rfl rfl R1 ?_) | (at_builtin; guard_target =~ wpList _ _ _ (Oper.mk (some 77) _ _ _ _ _ :: _) _ _; refine wpList_run rfl (.tmp 72) (.tmp 76) 46 rfl rfl rfl R2 ?_) | (at_builtin; guard_target =~ wpList _ _ _ (Oper.mk (some 86) _ _ _ _ _ :: _) _ _; refine wpList_run rfl (.tmp 79) (.tmp 85) 46 rfl rfl rfl R3 ?_))
            go_ret
            exact ⟨rfl, FF.out⟩
        · have hkn : k < n := by omega
          have hcap : ¬ cap = k := by omega
          obtain ⟨g2, y, eg, d1, d2, q1, q2⟩ := AB.out k hkn
          cases eg
          have hlt := q2 rfl
          unfold Wm.lt at hlt
          dsimp only at hlt
          have kn : (k : Int) < n := by omega
          have kd : decide ((k : Int) < (n : Int)) = true := decide_eq_true kn
          clear q1 q2
          generalize y.1 = y1 at *
          generalize y.2 = y2 at *
          obtain ⟨a1, c1, w1, a2, c2, w2, a3, c3, w3, e1, e2, e3, e4, e5, e6, FF⟩ := CH.out (some ⟨g, k * 2, none⟩) (cap - k) ⟨fun q => (by cases q), fun _ q => (by cases q; rw [if_neg hcap])⟩ (fun q => (by cases q))
          have R1 := e1 46
          have R2 := e2 46
          have R3 := e4 46
          clear e1 e2 e4 CH AB
          have c1 : ¬ y1 < d := by omega
          have d3 : decide (y1 < d) = false := decide_eq_false c1
          by_cases c2 : y1 = d
          · subst c2
            have c3 : ¬ y2 < id := by omega
            have d4 : decide (y2 < id) = false := decide_eq_false c3
            clear hlt
            go_wp2_with (first | (at_builtin; guard_target =~ wpList _ _ _ (Oper.mk (some 71) _ _ _ _ _ :: _) _ _; refine wpList_run rfl (.tmp 64) (.tmp 70) 46 rfl rfl rfl R1 ?_) | (at_builtin; guard_target =~ wpList _ _ _ (Oper.mk (some 77) _ _ _ _ _ :: _) _ _; refine wpList_run rfl (.tmp 72) (.tmp 76) 46 rfl rfl rfl R2 ?_) | (at_builtin; guard_target =~ wpList _ _ _ (Oper.mk (some 86) _ _ _ _ _ :: _) _ _; refine wpList_run rfl (.tmp 79) (.tmp 85) 46 rfl rfl rfl R3 ?_))
            go_ret
            exact ⟨rfl, FF.out⟩
          · have d4 : (y1 == d) = false := by simpa using c2
            clear hlt
            go_wp2_with (first | (at_builtin; guard_target =~ wpList _ _ _ (Oper.mk (some 71) _ _ _ _ _ :: _) _ _; refine wpList_run rfl (.tmp 64) (.tmp 70) 46 rfl rfl rfl R1 ?_) | (at_builtin; guard_target =~ wpList _ _ _ (Oper.mk (some 77) _ _ _ _ _ :: _) _ _; refine wpList_run rfl (.tmp 72) (.tmp 76) 46 rfl rfl rfl R2 ?_) | (at_builtin; guard_target =~ wpList _ _ _ (Oper.mk (some 86) _ _ _ _ _ :: _) _ _; refine wpList_run rfl (.tmp 79) (.tmp 85) 46 rfl rfl rfl R3 ?_))
            go_ret
            exact ⟨rfl, FF.out⟩

theorem radd_any {w : World} {s : Nat} {now : Int} {L : List It} {F : List Nat} (id d : Int) (h : DD w s now L F) (hl : L.length ≤ 1000) :
    Calls Tryd.prog 56 #[.pointer (some ⟨s, 0, none⟩), .int .i64 id, .int .i64 d] w fun e w' => e = .returned (.int .i64 (adE L id d)) ∧ ∃ F', DD w' s now (adL L id d) F' ∧ Mv w w' F F' := by
  unfold adE adL
  by_cases hd : isT d
  · rw [if_pos hd, if_pos hd]
    cases hs : (wn L id).isSome with
    | true =>
      rw [if_pos rfl, if_pos rfl]
      refine (radd_in id d hd h hl hs).mono ?_
      rintro e w' ⟨rfl, rfl⟩
      exact ⟨rfl, F, h, Mv.refl _ _⟩
    | false =>
      rw [if_neg (by decide), if_neg (by decide)]
      exact radd_new id d hd h hl (by simpa using hs)
  · rw [if_neg hd, if_neg hd]
    refine (radd_arg id d hd).mono ?_
    rintro e w' ⟨rfl, rfl⟩
    exact ⟨rfl, F, h, Mv.refl _ _⟩
end Go.Proofs.YtadaghhgmflfdaaDoor
