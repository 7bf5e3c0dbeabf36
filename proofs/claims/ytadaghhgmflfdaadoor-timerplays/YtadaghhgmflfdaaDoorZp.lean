/- The document's timers as they lie in memory; what its Is, Where, When, Next, List and Ready answer. -/
import Derived.Test.YtadaghhgmflfdaaDoorRows
import Derived.Test.YtadaghhgmflfdaaDoorZg
import Derived.Test.YtadaghhgmflfdaaDoorYd
import Derived.Test.YtadaghhgmflfdaaDoorYc
import Derived.Test.YtadaghhgmflfdaaDoorYb
import Derived.WalkKit
import Derived.ProofKit
import Derived.OpenShut
import Derived.BigQuiet
namespace Go.Proofs.YtadaghhgmflfdaaDoor
open Go.ChangeShapes Go.WideShapes Go.ChangeAt Go.RowKit
open Wm Zm Sl

structure RB (w : World) (r lb cap n : Nat) (N : Nat → Int) (S : Nat → Nat) (K : Ks) (G : Nat → List Nat) : Prop where
  st : Blk w r [.slice (some ⟨lb, 0, none⟩) n cap] 52
  tab : ∃ cs, Blk w lb cs 49 ∧ ∀ c, c < n → cs[c]? = some (.pointer (some ⟨S c, 0, none⟩))
  ws : ∀ c, c < n → DD w (S c) (N c) (K c) (G c)
  dis : ∀ c d, c < n → d < n → c ≠ d → ∀ g ∈ G c, g ∉ G d
  nb : ∀ c, c < n → ∀ g ∈ G c, g ∉ [r, lb]
  n1 : 1 ≤ n
  n2 : n ≤ 64

def footR (r lb n : Nat) (G : Nat → List Nat) : List Nat := [r, lb] ++ (List.range n).flatMap G
theorem mem_footR {r lb n : Nat} {G : Nat → List Nat} {g : Nat} : g ∈ footR r lb n G ↔ g ∈ [r, lb] ∨ ∃ c, c < n ∧ g ∈ G c := by
  unfold footR
  rw [List.mem_append, List.mem_flatMap]
  simp

section
variable {w : World} {r lb cap n : Nat} {N : Nat → Int} {S : Nat → Nat} {K : Ks} {G : Nat → List Nat}

theorem RB.c0 (h : RB w r lb cap n N S K G) : w.cell? ⟨r, 0, none⟩ = some (.slice (some ⟨lb, 0, none⟩) n cap) := h.st.cell 0
theorem RB.cw (h : RB w r lb cap n N S K G) {c : Nat} (hc : c < n) : w.cell? ⟨lb, c, none⟩ = some (.pointer (some ⟨S c, 0, none⟩)) := by
  obtain ⟨cs, k, e⟩ := h.tab
  rw [k.cell c, e c hc]
theorem RB.lt (h : RB w r lb cap n N S K G) {g : Nat} (hg : g ∈ [r, lb]) : g < w.heap.size := by
  obtain ⟨cs, k, _⟩ := h.tab
  simp only [List.mem_cons, List.not_mem_nil, or_false] at hg
  rcases hg with rfl | rfl
  · exact h.st.lt
  · exact k.lt
theorem RB.hi (h : RB w r lb cap n N S K G) {g : Nat} (hg : g ∈ footR r lb n G) : g < w.heap.size := by
  rcases mem_footR.1 hg with q | ⟨c, hc, q⟩
  · exact h.lt q
  · exact (h.ws c hc).lt q
theorem RB.keep {B : Nat} {Z : List Nat} {w' : World} (h : RB w r lb cap n N S K G) (k : Fr B Z w w') (hB : w.heap.size ≤ B) (hZ : ∀ g ∈ footR r lb n G, g ∉ Z) : RB w' r lb cap n N S K G := by
  have z : ∀ g ∈ [r, lb], g < B ∧ g ∉ Z := fun g hg => ⟨Nat.lt_of_lt_of_le (h.lt hg) hB, hZ g (mem_footR.2 (Or.inl hg))⟩
  obtain ⟨cs, t, e⟩ := h.tab
  exact ⟨h.st.keep k (z r (by simp)).1 (z r (by simp)).2, ⟨cs, t.keep k (z lb (by simp)).1 (z lb (by simp)).2, e⟩, fun c hc => (h.ws c hc).keep k hB fun g hg => hZ g (mem_footR.2 (Or.inr ⟨c, hc, hg⟩)), h.dis, h.nb, h.n1, h.n2⟩
theorem RB.ticks {N' : Nat → Int} (h : RB w r lb cap n N S K G) (e : ∀ c, c < n → N' c = N c) : RB w r lb cap n N' S K G :=
  ⟨h.st, h.tab, fun c hc => by rw [e c hc]; exact h.ws c hc, h.dis, h.nb, h.n1, h.n2⟩
/-- One wheel is another one now. -/
theorem RB.wheel {w' : World} (h : RB w r lb cap n N S K G) {c : Nat} (hc : c < n) {now : Int} {X : List It} {F' : List Nat} (q : DD w' (S c) now X F') (v : Mv w w' (G c) F') :
    RB w' r lb cap n (upd N c now) S (up K c X) (upd G c F') ∧ Mv w w' (footR r lb n G) (footR r lb n (upd G c F')) := by
  have z : ∀ g ∈ [r, lb], g < w.heap.size ∧ g ∉ G c := fun g hg => ⟨h.lt hg, fun e => h.nb c hc g e hg⟩
  obtain ⟨cs, t, e⟩ := h.tab
  refine ⟨⟨h.st.keep v.fr (z r (by simp)).1 (z r (by simp)).2, ⟨cs, t.keep v.fr (z lb (by simp)).1 (z lb (by simp)).2, e⟩, fun d hd => ?_, fun d e hd he hn g hg => ?_, fun d hd g hg => ?_, h.n1, h.n2⟩, ?_, fun g hg => ?_⟩
  · by_cases e : d = c
    · subst e
      rw [upd_same, upd_same, up_same]
      exact q
    · rw [upd_other _ e, upd_other _ e, up_other _ e]
      exact (h.ws d hd).keep v.fr (Nat.le_refl _) fun g hg hg2 => h.dis d c hd hc e g hg hg2
  · have key : ∀ d, d < n → d ≠ c → ∀ g ∈ G d, g ∉ F' := fun d hd hn g hg hg2 => by
      rcases v.sub g hg2 with r | r
      · exact h.dis d c hd hc hn g hg r
      · have := (h.ws d hd).lt hg; omega
    by_cases e1 : d = c
    · subst e1
      rw [upd_same] at hg
      rw [upd_other _ (fun r => hn r.symm)]
      exact fun hg2 => key e he (fun r => hn r.symm) g hg2 hg
    · rw [upd_other _ e1] at hg
      by_cases e2 : e = c
      · subst e2
        rw [upd_same]
        exact key d hd e1 g hg
      · rw [upd_other _ e2]
        exact h.dis d e hd he hn g hg
  · by_cases e : d = c
    · subst e
      rw [upd_same] at hg
      rcases v.sub g hg with r | r
      · exact h.nb d hd g r
      · exact fun hg2 => by have := h.lt hg2; omega
    · rw [upd_other _ e] at hg
      exact h.nb d hd g hg
  · exact v.fr.mono (Nat.le_refl _) fun k _ hk hk2 => hk (mem_footR.2 (Or.inr ⟨c, hc, hk2⟩))
  · rcases mem_footR.1 hg with r | ⟨d, hd, r⟩
    · exact Or.inl (mem_footR.2 (Or.inl r))
    · by_cases e : d = c
      · subst e
        rw [upd_same] at r
        rcases v.sub g r with r | r
        · exact Or.inl (mem_footR.2 (Or.inr ⟨d, hd, r⟩))
        · exact Or.inr r
      · rw [upd_other _ e] at r
        exact Or.inl (mem_footR.2 (Or.inr ⟨d, hd, r⟩))
end

/-- The document's timers of n cores at the tick now. -/
def RX (w : World) (r n : Nat) (now : Int) (K : Ks) (F : List Nat) : Prop := ∃ lb cap S G, RB w r lb cap n (fun _ => now) S K G ∧ F = footR r lb n G
theorem RX.keep {B : Nat} {Z : List Nat} {w w' : World} {r n : Nat} {now : Int} {K : Ks} {F : List Nat} (h : RX w r n now K F) (k : Fr B Z w w') (hB : w.heap.size ≤ B) (hZ : ∀ g ∈ F, g ∉ Z) : RX w' r n now K F := by
  obtain ⟨lb, cap, S, G, b, rfl⟩ := h
  exact ⟨lb, cap, S, G, b.keep k hB hZ, rfl⟩
theorem RX.below {w w' : World} {r n : Nat} {now : Int} {K : Ks} {F : List Nat} (h : RX w r n now K F) (k : Below w.heap.size w w') : RX w' r n now K F := h.keep (Fr.of_below k) (Nat.le_refl _) (by simp)
theorem RX.lt {w : World} {r n : Nat} {now : Int} {K : Ks} {F : List Nat} (h : RX w r n now K F) {g : Nat} (hg : g ∈ F) : g < w.heap.size := by
  obtain ⟨lb, cap, S, G, b, rfl⟩ := h
  exact b.hi hg

theorem is_any {w : World} {r lb n cap : Nat} (c : Int) (c0 : w.cell? ⟨r, 0, none⟩ = some (.slice (some ⟨lb, 0, none⟩) n cap)) :
    Calls Tryd.prog 39 #[.pointer (some ⟨r, 0, none⟩), .int .i64 c] w fun e w' => e = .returned (.bool (decide (isC n c))) ∧ w' = w := by
  obtain ⟨rb, hrb⟩ : ∃ rb, rb = decide (isC n c) := ⟨_, rfl⟩
  rw [← hrb]
  unfold isC at hrb
  by_cases q : 0 ≤ c
  · have e : rb = decide (c < n) := by rw [hrb]; apply decide_eq_decide.2; exact ⟨fun h => h.2, fun h => ⟨q, h⟩⟩
    subst e
    clear hrb
    go_enter Tryd.func39, Tryd.ntmps39
    go_wp2
    go_ret
    exact ⟨rfl, rfl⟩
  · have e : rb = false := by rw [hrb]; apply decide_eq_false; omega
    subst e
    clear hrb
    go_enter Tryd.func39, Tryd.ntmps39
    go_wp2
    go_ret
    exact ⟨rfl, rfl⟩

theorem ix_has (L : List It) (id : Int) : (0 ≤ ixI L id) = (has L id = true) := by
  unfold ixI has
  cases wn L id with
  | none => simp
  | some d => simp
set_option maxRecDepth 100000 in
set_option maxHeartbeats 1000000 in
theorem rwhere_any {w : World} {r n : Nat} {now : Int} {K : Ks} {F : List Nat} (id : Int) (h : RX w r n now K F) (a : Al n K) :
    Calls Tryd.prog 13 #[.pointer (some ⟨r, 0, none⟩), .int .i64 id] w fun e w' => e = .returned (.tuple #[.int .i64 (twN n K id), .bool (twB n K id)]) ∧ w' = w := by
  obtain ⟨lb, cap, S, G, b, rfl⟩ := h
  have c0 := b.c0
  have h2 : (n : Int) ≤ 64 := by have := b.n2; omega
  obtain ⟨rn, hrn⟩ : ∃ rn, rn = twN n K id := ⟨_, rfl⟩
  obtain ⟨rb, hrb⟩ : ∃ rb, rb = twB n K id := ⟨_, rfl⟩
  rw [← hrn, ← hrb]
  have YES : Hid (∀ k, k < n → has (K k) id = true → rn = k ∧ rb = true) := fun k hk hh => by
    have := (onc_iff a).2 ⟨hk, hh⟩
    rw [hrn, hrb]
    unfold twN twB cq
    rw [this]
    exact ⟨rfl, rfl⟩
  have NO : Hid ((∀ k, k < n → has (K k) id = false) → rn = 0 ∧ rb = false) := fun hh => by
    have := onc_none.2 hh
    rw [hrn, hrb]
    unfold twN twB cq
    rw [this]
    exact ⟨rfl, rfl⟩
  have FI : Hid (∀ k, k < n → w.cell? ⟨lb, k, none⟩ = some (.pointer (some ⟨S k, 0, none⟩)) ∧ Hid (Calls Tryd.prog 41 #[.pointer (some ⟨S k, 0, none⟩), .int .i64 id] w fun e w' => e = .returned (.int .i64 (ixI (K k) id)) ∧ w' = w)) := fun k hk => ⟨b.cw hk, rfind_any id (b.ws k hk) (Nat.le_trans (a.len hk) (by omega))⟩
  clear b a hrn hrb
  go_enter Tryd.func13, Tryd.ntmps13
  go_wp2
  go_loopw [6] (fun i wr => wr = w ∧ ∃ k : Nat, (k : Int) ≤ n ∧ i = .int .i64 (k : Int) ∧ Hid (∀ j, j < k → has (K j) id = false)) (fun i _ => n - (intOf i).toNat)
  case atStart => exact ⟨rfl, 0, by omega, rfl, fun j hj => absurd hj (Nat.not_lt_zero _)⟩
  case round =>
    obtain ⟨rfl, k, hk, rfl, hb⟩ := hrel
    by_cases c : (k : Int) < n
    · obtain ⟨cw, CF⟩ := FI.out k (by omega)
      have hx := ix_has (K k) id
      generalize ixI (K k) id = x at *
      generalize S k = s at *
      by_cases e : has (K k) id = true
      · obtain ⟨rfl, rfl⟩ := YES.out k (by omega) e
        have q : 0 ≤ x := by rw [hx]; exact e
        clear hx e
        go_wp2_with fail
        refine CF.out.mono ?_
        rintro e w' ⟨rfl, rfl⟩
        go_wp2
        go_ret2
        exact ⟨rfl, rfl⟩
      · have q : x < 0 := by
          have : ¬ 0 ≤ x := by rw [hx]; exact e
          omega
        have HB : Hid (∀ j, j < k + 1 → has (K j) id = false) := fun j hj => by
          by_cases z : j = k
          · rw [z]; simpa using e
          · exact hb.out j (by omega)
        clear hx e hb
        go_wp2_with fail
        refine CF.out.mono ?_
        rintro e w' ⟨rfl, rfl⟩
        go_wp2
        go_roundw
        case rel => exact ⟨trivial, k + 1, by omega, by go_num, HB⟩
        case measure => simp [intOf]; omega
    · obtain rfl : k = n := by omega
      obtain ⟨rfl, rfl⟩ := NO.out hb.out
      go_wp2
      go_ret2
      exact ⟨rfl, rfl⟩

theorem rwhen2_any {w : World} {r n : Nat} {now : Int} {K : Ks} {F : List Nat} (id : Int) (h : RX w r n now K F) (a : Al n K) :
    Calls Tryd.prog 15 #[.pointer (some ⟨r, 0, none⟩), .int .i64 id] w fun e w' => e = .returned (.tuple #[.int .i64 (thN n K id), .bool (twB n K id)]) ∧ w' = w := by
  have WE : Hid (∀ _ : Unit, _) := fun _ => rwhere_any id h a
  obtain ⟨lb, cap, S, G, b, rfl⟩ := h
  unfold twN twB cq at WE
  unfold thN twB cq
  cases hn : onc n K id with
  | none =>
    rw [hn] at WE
    dsimp only [Option.map_none, Option.getD_none, Option.isSome_none] at WE ⊢
    clear b a hn
    go_enter Tryd.func15, Tryd.ntmps15
    go_wp2_with fail
    refine (WE.out ()).mono ?_
    rintro e w' ⟨rfl, rfl⟩
    go_wp2
    go_ret2
    exact ⟨rfl, rfl⟩
  | some c =>
    rw [hn] at WE
    dsimp only [Option.map_some, Option.getD_some, Option.isSome_some] at WE ⊢
    obtain ⟨hc, hh⟩ := (onc_iff a).1 hn
    have WN : Hid (∀ _ : Unit, _) := fun _ => rwhen_any id (b.ws c hc) (Nat.le_trans (a.len hc) (by omega))
    rw [show whB (K c) id = true from hh] at WN
    have c1 := b.c0
    have cw := b.cw hc
    have hc2 : (c : Int) < n := by omega
    generalize S c = s at *
    generalize whN (K c) id = r1 at *
    clear b a hn hc hh
    go_enter Tryd.func15, Tryd.ntmps15
    go_wp2_with fail
    refine (WE.out ()).mono ?_
    rintro e w' ⟨rfl, rfl⟩
    go_wp2_with fail
    refine (WN.out ()).mono ?_
    rintro e w' ⟨rfl, rfl⟩
    go_wp2
    go_ret2
    exact ⟨rfl, rfl⟩

theorem rtnext_any {w : World} {r n : Nat} {now : Int} {K : Ks} {F : List Nat} (c : Int) (h : RX w r n now K F) :
    Calls Tryd.prog 11 #[.pointer (some ⟨r, 0, none⟩), .int .i64 c] w fun e w' => e = .returned (.tuple #[.int .i64 (txN n K c), .int .i64 (txE n K c)]) ∧ w' = w := by
  obtain ⟨lb, cap, S, G, b, rfl⟩ := h
  unfold txN txE
  have IS : Hid (∀ _ : Unit, _) := fun _ => is_any c b.c0
  by_cases hc : isC n c
  · rw [if_pos hc, if_pos hc]
    rw [decide_eq_true hc] at IS
    obtain ⟨k, rfl, hk⟩ := core_of hc
    rw [Int.toNat_natCast]
    have NX : Hid (∀ _ : Unit, _) := fun _ => rnext_any (b.ws k hk)
    have c0 := b.c0
    have cw := b.cw hk
    have hk2 : (k : Int) < n := by omega
    generalize S k = s at *
    generalize nxN (K k) = r1 at *
    generalize nxE (K k) = r2 at *
    clear b hc hk
    go_enter Tryd.func11, Tryd.ntmps11
    go_wp2_with fail
    refine (IS.out ()).mono ?_
    rintro e w' ⟨rfl, rfl⟩
    go_wp2_with fail
    refine (NX.out ()).mono ?_
    rintro e w' ⟨rfl, rfl⟩
    go_wp2
    go_ret2
    exact ⟨rfl, rfl⟩
  · rw [if_neg hc, if_neg hc]
    rw [decide_eq_false hc] at IS
    clear b hc
    go_enter Tryd.func11, Tryd.ntmps11
    go_wp2_with fail
    refine (IS.out ()).mono ?_
    rintro e w' ⟨rfl, rfl⟩
    go_wp2
    go_ret2
    exact ⟨rfl, rfl⟩

theorem rtlist_any {w : World} {r n : Nat} {now : Int} {K : Ks} {F : List Nat} (c : Int) (h : RX w r n now K F) (a : Al n K) :
    Calls Tryd.prog 16 #[.pointer (some ⟨r, 0, none⟩), .int .i64 c] w fun e w' => ∃ v, e = .returned v ∧ Gt w w' v (txL n K c) := by
  obtain ⟨lb, cap, S, G, b, rfl⟩ := h
  unfold txL
  have IS : Hid (∀ _ : Unit, _) := fun _ => is_any c b.c0
  by_cases hc : isC n c
  · rw [if_pos hc]
    rw [decide_eq_true hc] at IS
    obtain ⟨k, rfl, hk⟩ := core_of hc
    rw [Int.toNat_natCast]
    have NX : Hid (∀ _ : Unit, _) := fun _ => rlist_any (b.ws k hk) (Nat.le_trans (a.len hk) (by omega))
    have c0 := b.c0
    have cw := b.cw hk
    have hk2 : (k : Int) < n := by omega
    generalize S k = s at *
    generalize ids (K k) = D at *
    clear b hc hk a
    go_enter Tryd.func16, Tryd.ntmps16
    go_wp2_with fail
    refine (IS.out ()).mono ?_
    rintro e w' ⟨rfl, rfl⟩
    go_wp2_with fail
    refine (NX.out ()).mono ?_
    rintro e w1 ⟨v, rfl, g⟩
    obtain ⟨p, c', rfl⟩ := own_shape g.own
    have GG : Hid (Gt w' w1 _ _) := g
    clear g
    go_wp2
    go_ret
    exact ⟨_, rfl, GG.out⟩
  · rw [if_neg hc]
    rw [decide_eq_false hc] at IS
    clear b hc a
    go_enter Tryd.func16, Tryd.ntmps16
    go_wp2_with fail
    refine (IS.out ()).mono ?_
    rintro e w' ⟨rfl, rfl⟩
    go_wp2
    go_ret
    exact ⟨_, rfl, gt_start _⟩

theorem rtready_any {w : World} {r n : Nat} {now : Int} {K : Ks} {F : List Nat} (c : Int) (h : RX w r n now K F) (a : Al n K) :
    Calls Tryd.prog 18 #[.pointer (some ⟨r, 0, none⟩), .int .i64 c] w fun e w' => e = .returned (.bool (txR n now K c)) ∧ Below w.heap.size w w' := by
  obtain ⟨lb, cap, S, G, b, rfl⟩ := h
  unfold txR
  have IS : Hid (∀ _ : Unit, _) := fun _ => is_any c b.c0
  by_cases hc : isC n c
  · rw [if_pos hc]
    rw [decide_eq_true hc] at IS
    obtain ⟨k, rfl, hk⟩ := core_of hc
    rw [Int.toNat_natCast]
    have NX : Hid (∀ _ : Unit, _) := fun _ => rdue_any (b.ws k hk) (Nat.le_trans (a.len hk) (by omega))
    have c0 := b.c0
    have cw := b.cw hk
    have hk2 : (k : Int) < n := by omega
    have e : decide (duL now (K k) ≠ []) = decide (0 < (ids (duL now (K k))).length) := by
      apply decide_eq_decide.2
      unfold ids
      rw [List.length_map]
      cases duL now (K k) with
      | nil => simp
      | cons x R => simp
    rw [e]
    generalize S k = s at *
    generalize ids (duL now (K k)) = D at *
    clear b hc hk a e
    go_enter Tryd.func18, Tryd.ntmps18
    go_wp2_with fail
    refine (IS.out ()).mono ?_
    rintro e w' ⟨rfl, rfl⟩
    go_wp2_with fail
    refine (NX.out ()).mono ?_
    rintro e w1 ⟨v, rfl, g⟩
    have GG : Hid _ := g.bel
    obtain ⟨p, c', rfl⟩ := own_shape g.own
    clear g
    go_wp2
    go_ret
    exact ⟨rfl, GG.out⟩
  · rw [if_neg hc]
    rw [decide_eq_false hc] at IS
    clear b hc a
    go_enter Tryd.func18, Tryd.ntmps18
    go_wp2_with fail
    refine (IS.out ()).mono ?_
    rintro e w' ⟨rfl, rfl⟩
    go_wp2
    go_ret
    exact ⟨rfl, Below.refl _ _⟩
end Go.Proofs.YtadaghhgmflfdaaDoor
