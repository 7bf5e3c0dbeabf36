/- What timer's Next, Ready, Load, List, Where, When and Move answer and leave. -/
import Derived.Test.YtadaghhgmflfdaaDoorRows
import Derived.Test.YtadaghhgmflfdaaDoorZe
import Derived.WalkKit
import Derived.ProofKit
import Derived.OpenShut
import Derived.BigQuiet
namespace Go.Proofs.YtadaghhgmflfdaaDoor
open Go.ChangeShapes Go.WideShapes Go.ChangeAt Go.RowKit
open Wm Zm Sl

def txN (n : Nat) (K : Ks) (c : Int) : Int := if isC n c then nxN (K c.toNat) else 0
def txE (n : Nat) (K : Ks) (c : Int) : Int := if isC n c then nxE (K c.toNat) else 3
def txR (n : Nat) (now : Int) (K : Ks) (c : Int) : Bool := if isC n c then decide (duL now (K c.toNat) ≠ []) else false
def txL (n : Nat) (K : Ks) (c : Int) : List Int := if isC n c then ids (K c.toNat) else []

theorem core_of {n : Nat} {c : Int} (h : isC n c) : ∃ k : Nat, c = k ∧ k < n := ⟨c.toNat, by have := h.1; omega, by have := h.1; have := h.2; omega⟩

/-- Sorted by when they are due: one is due, if the first is. -/
theorem du_nil {now : Int} {L : List It} (s : Srt L) : duL now L = [] ↔ nxE L = 12 ∨ now < nxN L := by
  cases L with
  | nil => simp [duL, nxE]
  | cons x R =>
    unfold duL nxE nxN
    rw [List.filter_eq_nil_iff]
    simp only [decide_eq_true_eq]
    constructor
    · intro h
      have := h x (by simp)
      exact Or.inr (by omega)
    · intro h y hy hle
      have hx : now < x.1 := by rcases h with h | h; omega; exact h
      rcases List.mem_cons.1 hy with e | hm
      · rw [e] at hle; omega
      · have := List.rel_of_pairwise_cons s hm
        unfold lt at this
        omega

theorem tnext_any {w : World} {t n : Nat} {now : Int} {K : Ks} {F : List Nat} (c : Int) (h : TX w t n now K F) :
    Calls Tryd.prog 10 #[.pointer (some ⟨t, 0, none⟩), .int .i64 c] w fun e w' => e = .returned (.tuple #[.int .i64 (txN n K c), .int .i64 (txE n K c)]) ∧ w' = w := by
  obtain ⟨sb, sg, tb, mb, S, G, W, O, b, a, o, rfl⟩ := h
  unfold txN txE
  by_cases hc : isC n c
  · rw [if_pos hc, if_pos hc]
    obtain ⟨k, rfl, hk⟩ := core_of hc
    rw [Int.toNat_natCast]
    have ON : Hid (∀ _ : Unit, _) := fun _ => on_yes (S := S) k (by omega) b.c1 (b.cw hk)
    have NX : Hid (∀ _ : Unit, _) := fun _ => next_any (b.ws k hk) (Nat.le_trans (a.len hk) (by omega))
    generalize S k = s at *
    generalize nxN (K k) = r1 at *
    generalize nxE (K k) = r2 at *
    clear b a o hc hk
    go_enter Tryd.func10, Tryd.ntmps10
    go_wp2_with fail
    refine (ON.out ()).mono ?_
    rintro e w' ⟨rfl, rfl⟩
    go_wp2_with fail
    refine (NX.out ()).mono ?_
    rintro e w' ⟨rfl, rfl⟩
    go_wp2
    go_ret2
    exact ⟨rfl, rfl⟩
  · rw [if_neg hc, if_neg hc]
    have ON : Hid (∀ _ : Unit, _) := fun _ => on_no c hc b.c1
    clear b a o hc
    go_enter Tryd.func10, Tryd.ntmps10
    go_wp2_with fail
    refine (ON.out ()).mono ?_
    rintro e w' ⟨rfl, rfl⟩
    go_wp2
    go_ret2
    exact ⟨rfl, rfl⟩

theorem tready_any {w : World} {t n : Nat} {now : Int} {K : Ks} {F : List Nat} (c : Int) (h : TX w t n now K F) :
    Calls Tryd.prog 17 #[.pointer (some ⟨t, 0, none⟩), .int .i64 c] w fun e w' => e = .returned (.bool (txR n now K c)) ∧ w' = w := by
  obtain ⟨sb, sg, tb, mb, S, G, W, O, b, a, o, rfl⟩ := h
  unfold txR
  by_cases hc : isC n c
  · rw [if_pos hc]
    obtain ⟨k, rfl, hk⟩ := core_of hc
    rw [Int.toNat_natCast]
    have ON : Hid (∀ _ : Unit, _) := fun _ => on_yes (S := S) k (by omega) b.c1 (b.cw hk)
    have NX : Hid (∀ _ : Unit, _) := fun _ => next_any (b.ws k hk) (Nat.le_trans (a.len hk) (by omega))
    have NW : Hid (∀ _ : Unit, _) := fun _ => now_any (b.ws k hk)
    have D := du_nil (now := now) (a.srt k hk)
    have r12 : nxE (K k) = 12 ∨ nxE (K k) = 0 := by unfold nxE; split; exact Or.inl rfl; exact Or.inr rfl
    generalize S k = s at *
    generalize nxN (K k) = r1 at *
    generalize nxE (K k) = r2 at *
    obtain ⟨rb, hrb⟩ : ∃ rb, rb = decide (duL now (K k) ≠ []) := ⟨_, rfl⟩
    rw [← hrb]
    rcases r12 with rfl | rfl
    · have e : rb = false := by rw [hrb]; simp; exact D.2 (Or.inl rfl)
      subst e
      clear b a o hc hk D hrb NW
      go_enter Tryd.func17, Tryd.ntmps17
      go_wp2_with fail
      refine (ON.out ()).mono ?_
      rintro e w' ⟨rfl, rfl⟩
      go_wp2_with fail
      refine (NX.out ()).mono ?_
      rintro e w' ⟨rfl, rfl⟩
      go_wp2
      go_ret
      exact ⟨rfl, rfl⟩
    · have e : rb = decide (r1 ≤ now) := by
        rw [hrb]
        apply decide_eq_decide.2
        rw [ne_eq, D]
        omega
      subst e
      clear b a o hc hk D hrb
      go_enter Tryd.func17, Tryd.ntmps17
      go_wp2_with fail
      refine (ON.out ()).mono ?_
      rintro e w' ⟨rfl, rfl⟩
      go_wp2_with fail
      refine (NX.out ()).mono ?_
      rintro e w' ⟨rfl, rfl⟩
      go_wp2_with fail
      refine (NW.out ()).mono ?_
      rintro e w' ⟨rfl, rfl⟩
      go_wp2
      go_ret
      exact ⟨rfl, rfl⟩
  · rw [if_neg hc]
    have ON : Hid (∀ _ : Unit, _) := fun _ => on_no c hc b.c1
    have NX : Hid (∀ w, _) := fun w => wnil_next w
    clear b a o hc
    go_enter Tryd.func17, Tryd.ntmps17
    go_wp2_with fail
    refine (ON.out ()).mono ?_
    rintro e w' ⟨rfl, rfl⟩
    go_wp2_with fail
    refine (NX.out _).mono ?_
    rintro e w' ⟨rfl, rfl⟩
    go_wp2
    go_ret
    exact ⟨rfl, rfl⟩

theorem tload_any {w : World} {t n : Nat} {now : Int} {K : Ks} {F : List Nat} (c : Int) (h : TX w t n now K F) :
    Calls Tryd.prog 19 #[.pointer (some ⟨t, 0, none⟩), .int .i64 c] w fun e w' => e = .returned (.int .i64 ((txL n K c).length : Nat)) ∧ w' = w := by
  obtain ⟨sb, sg, tb, mb, S, G, W, O, b, a, o, rfl⟩ := h
  unfold txL
  by_cases hc : isC n c
  · rw [if_pos hc]
    obtain ⟨k, rfl, hk⟩ := core_of hc
    rw [Int.toNat_natCast]
    unfold ids
    rw [List.length_map]
    have ON : Hid (∀ _ : Unit, _) := fun _ => on_yes (S := S) k (by omega) b.c1 (b.cw hk)
    have NX : Hid (∀ _ : Unit, _) := fun _ => len_any (b.ws k hk)
    generalize S k = s at *
    generalize (K k).length = r1 at *
    clear b a o hc hk
    go_enter Tryd.func19, Tryd.ntmps19
    go_wp2_with fail
    refine (ON.out ()).mono ?_
    rintro e w' ⟨rfl, rfl⟩
    go_wp2_with fail
    refine (NX.out ()).mono ?_
    rintro e w' ⟨rfl, rfl⟩
    go_wp2
    go_ret
    exact ⟨rfl, rfl⟩
  · rw [if_neg hc]
    have ON : Hid (∀ _ : Unit, _) := fun _ => on_no c hc b.c1
    have NX : Hid (∀ w, _) := fun w => wnil_len w
    clear b a o hc
    go_enter Tryd.func19, Tryd.ntmps19
    go_wp2_with fail
    refine (ON.out ()).mono ?_
    rintro e w' ⟨rfl, rfl⟩
    go_wp2_with fail
    refine (NX.out _).mono ?_
    rintro e w' ⟨rfl, rfl⟩
    go_wp2
    go_ret
    exact ⟨rfl, rfl⟩

theorem tlist_any {w : World} {t n : Nat} {now : Int} {K : Ks} {F : List Nat} (c : Int) (h : TX w t n now K F) :
    Calls Tryd.prog 21 #[.pointer (some ⟨t, 0, none⟩), .int .i64 c] w fun e w' => ∃ v, e = .returned v ∧ Gt w w' v (txL n K c) := by
  obtain ⟨sb, sg, tb, mb, S, G, W, O, b, a, o, rfl⟩ := h
  unfold txL
  by_cases hc : isC n c
  · rw [if_pos hc]
    obtain ⟨k, rfl, hk⟩ := core_of hc
    rw [Int.toNat_natCast]
    have ON : Hid (∀ _ : Unit, _) := fun _ => on_yes (S := S) k (by omega) b.c1 (b.cw hk)
    have NX : Hid (∀ _ : Unit, _) := fun _ => list_any (b.ws k hk) (Nat.le_trans (a.len hk) (by omega))
    generalize S k = s at *
    generalize ids (K k) = D at *
    clear b a o hc hk
    go_enter Tryd.func21, Tryd.ntmps21
    go_wp2_with fail
    refine (ON.out ()).mono ?_
    rintro e w' ⟨rfl, rfl⟩
    go_wp2_with fail
    refine (NX.out ()).mono ?_
    rintro e w1 ⟨v, rfl, g⟩
    obtain ⟨p, c', rfl⟩ := own_shape g.own
    have GG : Hid (Gt w' w1 _ _) := g
    clear g
    go_wp2
    go_ret
    exact ⟨_, rfl, GG.out⟩
  · rw [if_neg hc]
    have ON : Hid (∀ _ : Unit, _) := fun _ => on_no c hc b.c1
    have NX : Hid (∀ w, _) := fun w => wnil_list w
    clear b a o hc
    go_enter Tryd.func21, Tryd.ntmps21
    go_wp2_with fail
    refine (ON.out ()).mono ?_
    rintro e w' ⟨rfl, rfl⟩
    go_wp2_with fail
    refine (NX.out _).mono ?_
    rintro e w' ⟨rfl, rfl⟩
    go_wp2
    go_ret
    exact ⟨_, rfl, gt_start _⟩

def twN (n : Nat) (K : Ks) (id : Int) : Int := (cq n K id).getD 0
def twB (n : Nat) (K : Ks) (id : Int) : Bool := (cq n K id).isSome
def thN (n : Nat) (K : Ks) (id : Int) : Int := match onc n K id with | some c => whN (K c) id | none => 0
theorem twhere_any {w : World} {t n : Nat} {now : Int} {K : Ks} {F : List Nat} (id : Int) (hi : (Lit.int .i64 id).wf = true) (h : TX w t n now K F) :
    Calls Tryd.prog 12 #[.pointer (some ⟨t, 0, none⟩), .int .i64 id] w fun e w' => e = .returned (.tuple #[.int .i64 (twN n K id), .bool (twB n K id)]) ∧ w' = w := by
  obtain ⟨sb, sg, tb, mb, S, G, W, O, b, a, o, rfl⟩ := h
  have l := look3 b.mp hi
  have c2 := b.c2
  unfold twN twB
  generalize (cq n K id).getD 0 = r1 at *
  generalize (cq n K id).isSome = r2 at *
  clear b a o hi
  go_enter Tryd.func12, Tryd.ntmps12
  go_wp2
  go_ret2
  exact ⟨rfl, rfl⟩

theorem twhen_any {w : World} {t n : Nat} {now : Int} {K : Ks} {F : List Nat} (id : Int) (hi : (Lit.int .i64 id).wf = true) (h : TX w t n now K F) :
    Calls Tryd.prog 14 #[.pointer (some ⟨t, 0, none⟩), .int .i64 id] w fun e w' => e = .returned (.tuple #[.int .i64 (thN n K id), .bool (twB n K id)]) ∧ w' = w := by
  have WE : Hid (∀ _ : Unit, _) := fun _ => twhere_any id hi h
  obtain ⟨sb, sg, tb, mb, S, G, W, O, b, a, o, rfl⟩ := h
  unfold twN twB cq at WE
  unfold thN twB cq
  cases hn : onc n K id with
  | none =>
    rw [hn] at WE
    dsimp only [Option.map_none, Option.getD_none, Option.isSome_none] at WE ⊢
    clear b a o hi hn
    go_enter Tryd.func14, Tryd.ntmps14
    go_wp2_with fail
    refine (WE.out ()).mono ?_
    rintro e w' ⟨rfl, rfl⟩
    go_wp2
    go_ret2
    exact ⟨rfl, rfl⟩
  | some c =>
    rw [hn] at WE
    dsimp only [Option.map_some, Option.getD_some, Option.isSome_some] at WE ⊢
    obtain ⟨hc, hh⟩ := (onc_iff a).1 hn
    have WN : Hid (∀ _ : Unit, _) := fun _ => when_any id hi (b.ws c hc)
    rw [show whB (K c) id = true from hh] at WN
    have c1 := b.c1
    have cw := b.cw hc
    have hc2 : (c : Int) < n := by omega
    generalize S c = s at *
    generalize whN (K c) id = r1 at *
    clear b a o hi hn hc hh
    go_enter Tryd.func14, Tryd.ntmps14
    go_wp2_with fail
    refine (WE.out ()).mono ?_
    rintro e w' ⟨rfl, rfl⟩
    go_wp2_with fail
    refine (WN.out ()).mono ?_
    rintro e w' ⟨rfl, rfl⟩
    go_wp2
    go_ret2
    exact ⟨rfl, rfl⟩
end Go.Proofs.YtadaghhgmflfdaaDoor
