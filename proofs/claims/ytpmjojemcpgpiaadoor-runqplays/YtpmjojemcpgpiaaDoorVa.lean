/- The document's queues of cores as they lie in memory; what its Is, Where, List, Load and Prio answer. -/
import Derived.Test.YtpmjojemcpgpiaaDoorRows
import Derived.Test.YtpmjojemcpgpiaaDoorXc
import Derived.Test.YtpmjojemcpgpiaaDoorUm
import Derived.WalkKit
import Derived.ProofKit
import Derived.OpenShut
import Derived.BigQuiet
namespace Go.Proofs.YtpmjojemcpgpiaaDoor
open Go.ChangeShapes Go.WideShapes Go.ChangeAt Go.RowKit
open Fm Qm

def ptr (A : Nat → Nat) (c : Nat) : Value := .pointer (some ⟨A c, 0, none⟩)

/-- The struct at block b, its table at block g, core c's queue at block A c with the list V c; all from lo on, no two lists in one block. -/
structure RY (w : World) (lo b g cap n : Nat) (A : Nat → Nat) (V : Nat → Value) (K : Ks) : Prop where
  st : Blk w b [.slice (some ⟨g, 0, none⟩) n cap] 55
  tb : ∃ cs, Blk w g cs 56 ∧ ∀ c, c < n → cs[c]? = some (ptr A c)
  qs : ∀ c, c < n → RQ w (A c) (V c) 32 (K c)
  inj : ∀ c d, c < n → d < n → A c = A d → c = d
  oin : ∀ c d, c < n → d < n → ∀ x, (V c).ownBlock = some x → (V d).ownBlock = some x → c = d
  lob : lo ≤ b ∧ lo ≤ g ∧ (∀ c, c < n → lo ≤ A c) ∧ ∀ c, c < n → ∀ x, (V c).ownBlock = some x → lo ≤ x
  n1 : 1 ≤ n
  n2 : n ≤ 64
  nc : n ≤ cap
structure RX (w : World) (lo b g cap n : Nat) (A : Nat → Nat) (V : Nat → Value) (K : Ks) : Prop extends RY w lo b g cap n A V K where
  al : Al n K

/-- What a call of them leaves: all below lo, and whatever is no queue and no list. -/
structure XC (lo : Nat) (w w' : World) : Prop where
  bel : Below lo w w'
  box : ∀ (k : Nat) (cs : List Value) (t : TypeId), Blk w k cs t → t ≠ 77 → t ≠ 82 → Blk w' k cs t

theorem XC.refl (lo : Nat) (w : World) : XC lo w w := ⟨Below.refl _ _, fun _ _ _ h _ _ => h⟩
theorem XC.trans {lo : Nat} {a b c : World} (h : XC lo a b) (k : XC lo b c) : XC lo a c := ⟨h.bel.trans k.bel, fun i cs t x y z => k.box i cs t (h.box i cs t x y z) y z⟩
theorem XC.of {lo : Nat} {w w' : World} (h : Below w.heap.size w w') (hl : lo ≤ w.heap.size) : XC lo w w' := ⟨h.mono hl, fun _ _ _ x _ _ => x.keep (Fr.of_below h) x.lt (by simp)⟩

theorem RY.hi {w : World} {lo b g cap n : Nat} {A : Nat → Nat} {V : Nat → Value} {K : Ks} (h : RY w lo b g cap n A V K) : lo ≤ w.heap.size := by have := h.st.lt; have := h.lob.1; omega
theorem RY.c0 {w : World} {lo b g cap n : Nat} {A : Nat → Nat} {V : Nat → Value} {K : Ks} (h : RY w lo b g cap n A V K) : w.cell? ⟨b, 0, none⟩ = some (.slice (some ⟨g, 0, none⟩) n cap) := h.st.cell 0
theorem RY.cq {w : World} {lo b g cap n : Nat} {A : Nat → Nat} {V : Nat → Value} {K : Ks} (h : RY w lo b g cap n A V K) {c : Nat} (hc : c < n) : w.cell? ⟨g, c, none⟩ = some (.pointer (some ⟨A c, 0, none⟩)) := by
  obtain ⟨cs, k, e⟩ := h.tb
  rw [k.cell c, e c hc]
  rfl
theorem RQ.item {w : World} {b : Nat} {v : Value} {m : Nat} {X : Its} (h : RQ w b v m X) {x : Nat} (e : v.ownBlock = some x) : ∃ cs : List Value, Blk w x cs 82 := by
  rcases h.own.2 with ⟨rfl, _⟩ | ⟨g', cap, cur, rfl, _, hg, _⟩
  · cases e
  · simp [Value.ownBlock] at e
    subst e
    exact ⟨cur.toList, by unfold Blk; rw [hg]⟩
theorem RY.below {w w' : World} {lo b g cap n : Nat} {A : Nat → Nat} {V : Nat → Value} {K : Ks} (h : RY w lo b g cap n A V K) (f : Below w.heap.size w w') : RY w' lo b g cap n A V K :=
  ⟨h.st.keep (Fr.of_below f) h.st.lt (by simp), by obtain ⟨cs, k, e⟩ := h.tb; exact ⟨cs, k.keep (Fr.of_below f) k.lt (by simp), e⟩, fun c hc => (h.qs c hc).below f, h.inj, h.oin, h.lob, h.n1, h.n2, h.nc⟩
theorem RY.heap {w w1 : World} {lo b g cap n : Nat} {A : Nat → Nat} {V : Nat → Value} {K : Ks} (h : RY w lo b g cap n A V K) (e : w1.heap = w.heap) : RY w1 lo b g cap n A V K :=
  ⟨h.st.heap e, by obtain ⟨cs, k, q⟩ := h.tb; exact ⟨cs, k.heap e, q⟩, fun c hc => (h.qs c hc).heap e, h.inj, h.oin, h.lob, h.n1, h.n2, h.nc⟩
/-- Others have turned blocks below lo alone. -/
theorem RY.far {S : List Nat} {w w' : World} {lo b g cap n : Nat} {A : Nat → Nat} {V : Nat → Value} {K : Ks} (h : RY w lo b g cap n A V K) (f : Fr w.heap.size S w w') (hS : ∀ k ∈ S, k < lo) : RY w' lo b g cap n A V K := by
  have no : ∀ k, lo ≤ k → k ∉ S := fun k hk e => by have := hS k e; omega
  obtain ⟨l1, l2, l3, l4⟩ := h.lob
  refine ⟨h.st.keep f h.st.lt (no _ l1), ?_, fun c hc => (h.qs c hc).keep f ⟨(h.qs c hc).sb.lt, no _ (l3 c hc)⟩ fun x e => ⟨((h.qs c hc).ob e).2, no _ (l4 c hc x e)⟩, h.inj, h.oin, h.lob, h.n1, h.n2, h.nc⟩
  obtain ⟨cs, k, e⟩ := h.tb
  exact ⟨cs, k.keep f k.lt (no _ l2), e⟩

def upV (V : Nat → Value) (c : Nat) (v : Value) : Nat → Value := fun j => if j = c then v else V j

/-- One core's queue has turned. -/
theorem RY.put {w w' : World} {lo b g cap n c : Nat} {A : Nat → Nat} {V : Nat → Value} {K : Ks} {X : Its} {v' : Value} (h : RY w lo b g cap n A V K) (hc : c < n) (q : RQ w' (A c) v' 32 X) (f : RC w w' (A c) (V c) v') :
    RY w' lo b g cap n A (upV V c v') (up K c X) ∧ XC lo w w' := by
  obtain ⟨l1, l2, l3, l4⟩ := h.lob
  have other : ∀ (k : Nat) (cs : List Value) (t : TypeId), Blk w k cs t → t ≠ 77 → t ≠ 82 → k ∉ A c :: (V c).ownBlock.toList := fun k cs t hk t1 t2 e => by
    rcases List.mem_cons.1 e with e | e
    · subst e
      exact hk.ne (h.qs c hc).sb t1 rfl
    · obtain ⟨ds, hd⟩ := (h.qs c hc).item (x := k) (by simpa using e)
      exact hk.ne hd t2 rfl
  have keep : ∀ (k : Nat) (cs : List Value) (t : TypeId), Blk w k cs t → t ≠ 77 → t ≠ 82 → Blk w' k cs t := fun k cs t hk t1 t2 => hk.keep f.fr hk.lt (other k cs t hk t1 t2)
  have qd : ∀ d, d < n → d ≠ c → RQ w' (A d) (V d) 32 (K d) := fun d hd e => by
    refine (h.qs d hd).keep f.fr ⟨(h.qs d hd).sb.lt, fun q => ?_⟩ fun x ex => ⟨((h.qs d hd).ob ex).2, fun q => ?_⟩
    · rcases List.mem_cons.1 q with q | q
      · exact e (h.inj d c hd hc q)
      · obtain ⟨ds, hd2⟩ := (h.qs c hc).item (x := A d) (by simpa using q)
        exact (h.qs d hd).sb.ne hd2 (by decide) rfl
    · obtain ⟨es, he⟩ := (h.qs d hd).item ex
      rcases List.mem_cons.1 q with q | q
      · subst q
        exact he.ne (h.qs c hc).sb (by decide) rfl
      · exact e (h.oin d c hd hc x ex (by simpa using q))
  refine ⟨⟨keep b _ _ h.st (by decide) (by decide), ?_, fun d hd => ?_, h.inj, fun d e hd he x h1 h2 => ?_, ⟨l1, l2, l3, fun d hd x hx => ?_⟩, h.n1, h.n2, h.nc⟩, ⟨(f.fr.less h.hi).below fun k hk => ?_, keep⟩⟩
  · obtain ⟨cs, k, e⟩ := h.tb
    exact ⟨cs, keep g _ _ k (by decide) (by decide), e⟩
  · unfold upV up
    by_cases e : d = c
    · rw [if_pos e, if_pos e, e]; exact q
    · rw [if_neg e, if_neg e]; exact qd d hd e
  · unfold upV at h1 h2
    by_cases e1 : d = c
    · by_cases e2 : e = c
      · rw [e1, e2]
      · rw [if_pos e1] at h1
        rw [if_neg e2] at h2
        rcases f.nw x h1 with y | y
        · exact e1.trans (h.oin c e hc he x y h2)
        · have := ((h.qs e he).ob h2).2; omega
    · by_cases e2 : e = c
      · rw [if_neg e1] at h1
        rw [if_pos e2] at h2
        rcases f.nw x h2 with y | y
        · exact (h.oin d c hd hc x h1 y).trans e2.symm
        · have := ((h.qs d hd).ob h1).2; omega
      · rw [if_neg e1] at h1
        rw [if_neg e2] at h2
        exact h.oin d e hd he x h1 h2
  · unfold upV at hx
    by_cases e1 : d = c
    · rw [if_pos e1] at hx
      rcases f.nw x hx with y | y
      · exact l4 c hc x y
      · have := h.hi; omega
    · rw [if_neg e1] at hx
      exact l4 d hd x hx
  · rcases List.mem_cons.1 hk with e | e
    · rw [e]; exact l3 c hc
    · exact l4 c hc k (by simpa using e)

theorem RX.below {w w' : World} {lo b g cap n : Nat} {A : Nat → Nat} {V : Nat → Value} {K : Ks} (h : RX w lo b g cap n A V K) (f : Below w.heap.size w w') : RX w' lo b g cap n A V K := ⟨h.toRY.below f, h.al⟩
theorem RX.heap {w w1 : World} {lo b g cap n : Nat} {A : Nat → Nat} {V : Nat → Value} {K : Ks} (h : RX w lo b g cap n A V K) (e : w1.heap = w.heap) : RX w1 lo b g cap n A V K := ⟨h.toRY.heap e, h.al⟩
theorem RX.far {S : List Nat} {w w' : World} {lo b g cap n : Nat} {A : Nat → Nat} {V : Nat → Value} {K : Ks} (h : RX w lo b g cap n A V K) (f : Fr w.heap.size S w w') (hS : ∀ k ∈ S, k < lo) : RX w' lo b g cap n A V K := ⟨h.toRY.far f hS, h.al⟩
theorem RX.put {w w' : World} {lo b g cap n c : Nat} {A : Nat → Nat} {V : Nat → Value} {K : Ks} {X : Its} {v' : Value} (h : RX w lo b g cap n A V K) (hc : c < n) (q : RQ w' (A c) v' 32 X) (f : RC w w' (A c) (V c) v') (al : Al n (up K c X)) :
    RX w' lo b g cap n A (upV V c v') (up K c X) ∧ XC lo w w' := ⟨⟨(h.toRY.put hc q f).1, al⟩, (h.toRY.put hc q f).2⟩

theorem xis_yes {w : World} {lo b g cap n : Nat} {A : Nat → Nat} {V : Nat → Value} {K : Ks} (c : Nat) (hc : (c : Int) < n) (h : RX w lo b g cap n A V K) :
    Calls Tryd.prog 38 #[.pointer (some ⟨b, 0, none⟩), .int .i64 (c : Int)] w fun e w' => e = .returned (.bool true) ∧ w' = w := by
  have c0 := h.c0
  clear h
  go_enter Tryd.func38, Tryd.ntmps38
  go_wp2
  go_ret
  exact ⟨rfl, rfl⟩
theorem xis_no {w : World} {lo b g cap n : Nat} {A : Nat → Nat} {V : Nat → Value} {K : Ks} (c : Int) (hc : ¬ isC n c) (h : RX w lo b g cap n A V K) :
    Calls Tryd.prog 38 #[.pointer (some ⟨b, 0, none⟩), .int .i64 c] w fun e w' => e = .returned (.bool false) ∧ w' = w := by
  have c0 := h.c0
  clear h
  unfold isC at hc
  by_cases c1 : c < 0
  · clear hc
    go_enter Tryd.func38, Tryd.ntmps38
    go_wp2
    go_ret
    exact ⟨rfl, rfl⟩
  · have c2 : (n : Int) ≤ c := by omega
    have c3 : decide (c < (n : Int)) = false := decide_eq_false (by omega)
    clear hc
    go_enter Tryd.func38, Tryd.ntmps38
    go_wp2
    go_ret
    exact ⟨rfl, rfl⟩

theorem wh_hit {n : Nat} {K : Ks} (h : Al n K) {c : Nat} (hc : c < n) {id : Int} (hi : id ∈ ids (K c)) : whN n K id = c ∧ whB n K id = true := by
  unfold whN whB
  rw [onc_some h hc hi]
  exact ⟨rfl, rfl⟩
theorem wh_miss {n : Nat} {K : Ks} {id : Int} (h : ∀ c, c < n → id ∉ ids (K c)) : whN n K id = 0 ∧ whB n K id = false := by
  unfold whN whB
  rw [onc_none.2 h]
  exact ⟨rfl, rfl⟩

set_option maxRecDepth 100000 in
set_option maxHeartbeats 1000000 in
theorem xwhere_any {w : World} {lo b g cap n : Nat} {A : Nat → Nat} {V : Nat → Value} {K : Ks} (id : Int) (h : RX w lo b g cap n A V K) :
    Calls Tryd.prog 9 #[.pointer (some ⟨b, 0, none⟩), .int .i64 id] w fun e w' => e = .returned (.tuple #[.int .i64 (whN n K id), .bool (whB n K id)]) ∧ w' = w := by
  have c0 := h.c0
  have CQ : Hid (∀ c, c < n → w.cell? ⟨g, c, none⟩ = some (.pointer (some ⟨A c, 0, none⟩))) := fun c hc => h.cq hc
  have PR : Hid (∀ c, c < n → Calls Tryd.prog 33 #[.pointer (some ⟨A c, 0, none⟩), .int .i64 id] w fun e w' => e = .returned (.tuple #[.int .i64 (prP (K c) id), .bool (decide (id ∈ ids (K c)))]) ∧ w' = w) := fun c hc => rprio_any id w (h.qs c hc)
  have AL : Hid (Al n K) := h.al
  have hn : (n : Int) ≤ cap := by have := h.nc; omega
  have n64 : (n : Int) ≤ 64 := by have := h.n2; omega
  obtain ⟨a, ha⟩ : ∃ a, whN n K id = a := ⟨_, rfl⟩
  obtain ⟨bb, hbb⟩ : ∃ bb, whB n K id = bb := ⟨_, rfl⟩
  have HA : Hid (whN n K id = a ∧ whB n K id = bb) := ⟨ha, hbb⟩
  rw [ha, hbb]
  clear h ha hbb
  go_enter Tryd.func9, Tryd.ntmps9
  go_wp2
  go_loop [6] (fun i => ∃ k : Nat, (k : Int) ≤ n ∧ Hid (∀ j, j < k → id ∉ ids (K j)) ∧ i = .int .i64 k) (fun i => n - (intOf i).toNat)
  case atStart => exact ⟨0, by omega, fun j hj => by omega, rfl⟩
  case round =>
    obtain ⟨k, hk, hM, rfl⟩ := hrel
    by_cases c : (k : Int) < n
    · have cq := CQ.out k (by omega)
      have P : Hid (∀ _ : Unit, _) := fun _ => PR.out k (by omega)
      by_cases e : id ∈ ids (K k)
      · rw [decide_eq_true e] at P
        obtain ⟨e1, e2⟩ := wh_hit AL.out (c := k) (by omega) e
        obtain ⟨h1, h2⟩ := HA.out
        obtain rfl : a = k := by rw [← h1, e1]
        obtain rfl : bb = true := by rw [← h2, e2]
        generalize prP (K k) id = p at *
        clear e e1 e2 h1 h2
        go_wp2_with fail
        refine (P.out ()).mono ?_
        rintro e w' ⟨rfl, rfl⟩
        go_wp2
        go_ret2
        exact ⟨rfl, rfl⟩
      · rw [decide_eq_false e] at P
        have s : Hid (∀ j, j < k + 1 → id ∉ ids (K j)) := fun j hj => by
          by_cases d : j = k
          · subst d; exact e
          · exact hM.out j (by omega)
        generalize prP (K k) id = p at *
        clear e
        go_wp2_with fail
        refine (P.out ()).mono ?_
        rintro e w' ⟨rfl, rfl⟩
        go_wp2
        go_round
        case rel => exact ⟨k + 1, by omega, s, by go_num⟩
        case measure => simp [intOf]; omega
    · obtain ⟨e1, e2⟩ := wh_miss (n := n) (K := K) (id := id) fun c hc => hM.out c (by omega)
      obtain ⟨h1, h2⟩ := HA.out
      obtain rfl : a = 0 := by rw [← h1, e1]
      obtain rfl : bb = false := by rw [← h2, e2]
      clear e1 e2 h1 h2
      go_wp2
      go_ret2
      exact ⟨rfl, rfl⟩
end Go.Proofs.YtpmjojemcpgpiaaDoor
