/- What a wheel's Now, When, Len, Due and List answer. -/
import Derived.Test.YtadaghhgmflfdaaDoorRows
import Derived.Test.YtadaghhgmflfdaaDoorWi
import Derived.Test.YtadaghhgmflfdaaDoorFj
import Derived.WalkKit
import Derived.ProofKit
import Derived.OpenShut
import Derived.BigQuiet
namespace Go.Proofs.YtadaghhgmflfdaaDoor
open Go.ChangeShapes Go.WideShapes Go.ChangeAt Go.RowKit
open Wm

/-- The numbers of things. -/
def ids (L : List It) : List Int := L.map (·.2)
/-- Those that are due. -/
def duL (now : Int) (L : List It) : List It := L.filter fun x => decide (x.1 ≤ now)

theorem now_any {w : World} {s : Nat} {now : Int} {L : List It} {F : List Nat} (h : WW w s now L F) :
    Calls Tryd.prog 45 #[.pointer (some ⟨s, 0, none⟩)] w fun e w' => e = .returned (.int .i64 now) ∧ w' = w := by
  obtain ⟨mp, V, h, rfl⟩ := h
  have c0 := h.wr.c0
  clear h
  go_enter Tryd.func45, Tryd.ntmps45
  go_wp2
  go_ret
  exact ⟨rfl, rfl⟩

/-- What When answers. -/
def whN (L : List It) (id : Int) : Int := (wn L id).getD 0
def whB (L : List It) (id : Int) : Bool := (wn L id).isSome
theorem when_any {w : World} {s : Nat} {now : Int} {L : List It} {F : List Nat} (id : Int) (hi : (Lit.int .i64 id).wf = true) (h : WW w s now L F) :
    Calls Tryd.prog 42 #[.pointer (some ⟨s, 0, none⟩), .int .i64 id] w fun e w' => e = .returned (.tuple #[.int .i64 (whN L id), .bool (whB L id)]) ∧ w' = w := by
  obtain ⟨mp, V, h, rfl⟩ := h
  have c1 := h.wr.c1
  have l : (Instr.lookup 86 (.map mp) (.int .i64 id) true).run Tryd.prog w = .ok (.tuple #[.int .i64 (whN L id), .bool (whB L id)]) w := by
    rcases h.mq with ⟨e, e2⟩ | ⟨mb, e, m⟩
    · rw [e, e2]
      exact mq_none (tm := 86) Tryd.underlying86 zero2 w hi
    · rw [e]
      exact mq_look (tm := 86) Tryd.underlying2 Tryd.underlying86 zero2 m hi
  generalize whN L id = a at *
  generalize whB L id = b at *
  clear h hi
  go_enter Tryd.func42, Tryd.ntmps42
  go_wp2
  go_ret2
  exact ⟨rfl, rfl⟩

theorem len_any {w : World} {s : Nat} {now : Int} {L : List It} {F : List Nat} (h : WW w s now L F) :
    Calls Tryd.prog 47 #[.pointer (some ⟨s, 0, none⟩)] w fun e w' => e = .returned (.int .i64 (L.length : Nat)) ∧ w' = w := by
  obtain ⟨mp, V, h, rfl⟩ := h
  have c1 := h.wr.c1
  have l : ∀ ty, (Builtin.len_ #[86] ty #[.map mp]).run Tryd.prog w = .ok (.int .i64 (L.length : Nat)) w := fun ty => by
    rcases h.mq with ⟨e, e2⟩ | ⟨mb, e, m⟩
    · rw [e, e2]
      exact Maps.len_nil Tryd.underlying86 ty
    · rw [e]
      exact mq_len Tryd.underlying86 m ty
  generalize L.length = a at *
  clear h
  go_enter Tryd.func47, Tryd.ntmps47
  go_wp2
  go_ret
  exact ⟨rfl, rfl⟩

theorem ids_take (L : List It) {i : Nat} {x : It} (h : L[i]? = some x) : ids (L.take (i + 1)) = ids (L.take i) ++ [x.2] := by
  obtain ⟨hl, e⟩ := List.getElem?_eq_some_iff.1 h
  unfold ids
  rw [List.take_succ_eq_append_getElem hl, e, List.map_append]
  rfl

set_option maxRecDepth 100000 in
set_option maxHeartbeats 2000000 in
theorem numbers_any {w0 w : World} {v : Value} {G : List Int} {a : Option Addr} {cap : Nat} {L : List It} (ho : Own 95 w0 (.slice a L.length cap) L) (g : Gt w0 w v G) (hl : G.length + L.length ≤ 2900) :
    Calls Tryd.prog 59 #[v, .slice a L.length cap] w fun e w' => ∃ v', e = .returned v' ∧ Gt w0 w' v' (G ++ ids L) := by
  obtain ⟨i0, hi, hz0, hz1, hz2⟩ := info_parts Tryd.info3
  obtain ⟨p, c, rfl⟩ := own_shape g.own
  have ST : Hid (∀ (wr : World) (i : Nat), Below w0.heap.size w0 wr → i < L.length → ∃ (q : Nat) (x : It), a = some ⟨q, 0, none⟩ ∧ wr.cell? ⟨q, i * 2, none⟩ = some (.int .i64 x.2) ∧ wr.cell? ⟨q, i * 2 + 1, none⟩ = some (.int .i64 x.1) ∧ Hid (G ++ ids (L.take (i + 1)) = (G ++ ids (L.take i)) ++ [x.2])) := fun wr i hb hi => by
    obtain ⟨q, x, e, hq, hx, h1, h2⟩ := own_at ho hi
    refine ⟨q, x, e, ?_, ?_, ?_⟩
    · rw [hb.cell (p := ⟨q, i * 2, none⟩) hq]; exact h1
    · rw [hb.cell (p := ⟨q, i * 2 + 1, none⟩) hq]; exact h2
    · show G ++ ids (L.take (i + 1)) = (G ++ ids (L.take i)) ++ [x.2]
      rw [ids_take L hx, List.append_assoc]
  have HE : Hid (G ++ ids (L.take L.length) = G ++ ids L) := by
    show G ++ ids (L.take L.length) = G ++ ids L
    rw [List.take_length]
  have HL : Hid (∀ i, (G ++ ids (L.take i)).length ≤ 2900) := fun i => by
    unfold ids
    simp
    omega
  obtain ⟨H, hH⟩ : ∃ H : Nat → List Int, ∀ i, H i = G ++ ids (L.take i) := ⟨_, fun _ => rfl⟩
  have H0 : Gt w0 w (.slice p G.length c) (H 0) := by
    rw [hH]
    simpa [ids] using g
  simp only [← hH] at ST HE HL
  obtain ⟨E, hE⟩ : ∃ E, E = G ++ ids L := ⟨_, rfl⟩
  rw [← hE] at HE ⊢
  have gl : (G.length : Int) ≤ 2900 := by omega
  generalize G.length = m at *
  generalize L.length = n at *
  have nl : (n : Int) ≤ 2900 := by omega
  clear ho g hl hH hE
  go_enter Tryd.func59, Tryd.ntmps59
  go_wp2
  go_loopw [0, 9] (fun v i wr => ∃ k : Nat, (k : Int) ≤ n ∧ i = .int .i64 k ∧ Gt w0 wr v (H k)) (fun _ i _ => n - (intOf i).toNat)
  case atStart => exact ⟨0, by omega, rfl, H0⟩
  case round =>
    clear H0
    obtain ⟨k, hk, rfl, gt⟩ := hrel
    by_cases h : (k : Int) < n
    · obtain ⟨q, x, rfl, k1, k2, HS⟩ := ST.out wr k gt.bel (by omega)
      have s : Hid (H k ++ [x.2] = H (k + 1)) := HS.out.symm
      have hgl : (((H k).length : Nat) : Int) ≤ 2900 := by have := HL.out k; omega
      have hsz := gt.bel.size
      have gb : Gt w0 (wr.alloc (.cells #[.int .i64 x.2, .int .i64 x.1] 95)) u0 (H k) := ⟨gt.own.alloc _, gt.bel.alloc hsz _⟩
      have hsz2 : w0.heap.size ≤ (wr.alloc (.cells #[.int .i64 x.2, .int .i64 x.1] 95)).heap.size := gb.bel.size
      clear HS gt
      go_wp2_with (at_builtin; refine wpList_append_own _ rfl _ _ 40 rfl w0.heap.size 3 i0 (.int .i64 0) 1 8 Tryd.underlying40 hi hz0 hz1 hz2 rfl (by decide) _ _ _ rfl (gb.own.alloc _) ⟨_, 0, none⟩ 1 1 [.int .i64 x.2] rfl rfl ?c1 ?c2 ?c3 ?c4 ?c5 ?_)
      case c1 =>
        intro j u hj
        match j, hj with
        | 0, hj => simp at hj; subst hj; simp [Addr.add]
      case c2 => intro u hu; simp at hu; subst hu; rfl
      case c3 => unfold maxLen; omega
      case c4 => omega
      case c5 => simp; omega
      intro v' w2 hown' hgrow _
      have G3 := gt_app gb hown' hgrow
      rw [s.out] at G3
      clear hown' hgrow gb
      go_wp2
      go_roundw
      case rel => exact ⟨k + 1, by omega, by go_num, G3⟩
      case measure => simp [intOf]; omega
    · obtain rfl : k = n := by omega
      rw [HE.out] at gt
      go_wp2
      go_ret
      exact ⟨_, rfl, gt⟩

theorem gt_row {w0 wr : World} {v : Value} {G : List Int} (h : Gt w0 wr v G) : Row wr v G := row_of_owns h.own

set_option maxRecDepth 100000 in
set_option maxHeartbeats 1000000 in
theorem due_any {w : World} {s : Nat} {now : Int} {L : List It} {F : List Nat} (h : WW w s now L F) (hl : L.length ≤ 1000) :
    Calls Tryd.prog 53 #[.pointer (some ⟨s, 0, none⟩)] w fun e w' => ∃ v, e = .returned v ∧ Gt w w' v (ids (duL now L)) := by
  obtain ⟨mp, V, h, rfl⟩ := h
  have c2 := h.wr.cr (r := 0) (by decide)
  obtain ⟨a, cap, ev⟩ := h.wr.shape (r := 0) (by decide)
  have o := h.wr.own 0 (by decide)
  rw [ev] at c2 o
  rw [due_is h.tks h.now.1] at c2 o
  have C : Hid (∀ _ : Unit, _) := fun _ => numbers_any o (gt_start w) (by have := List.length_filter_le (fun x : It => decide (x.1 ≤ now)) L; simp only [List.length_nil]; omega)
  rw [List.nil_append] at C
  unfold duL
  generalize L.filter (fun x : It => decide (x.1 ≤ now)) = D at *
  generalize D.length = n at *
  clear h o ev hl
  go_enter Tryd.func53, Tryd.ntmps53
  go_wp2_with fail
  refine (C.out ()).mono ?_
  rintro e w' ⟨v, rfl, g⟩
  obtain ⟨p, c, rfl⟩ := own_shape g.own
  have GG : Hid (Gt w w' _ _) := g
  clear g
  go_wp2
  go_ret
  exact ⟨_, rfl, GG.out⟩

/-- The things of the first rooms. -/
def fst (now : Int) (L : List It) (j : Nat) : List It := (List.range j).flatMap (rl (rm now) L)
theorem fst_succ (now : Int) (L : List It) (j : Nat) : fst now L (j + 1) = fst now L j ++ rl (rm now) L j := by
  unfold fst
  rw [List.range_succ, List.flatMap_append]
  simp
theorem fst_len {now : Int} {L : List It} (h : Srt L) (t : Tks L) (hn : isT now) (j : Nat) : (fst now L j).length ≤ L.length := by
  unfold fst
  rw [cat_rooms _ _ _ (mono_rm h t hn.1 hn.2)]
  exact List.length_filter_le _ _
theorem fst_all {now : Int} {L : List It} (h : Srt L) (t : Tks L) (hn : isT now) : fst now L 169 = L := cat_all h t hn.1 hn.2

set_option maxRecDepth 100000 in
set_option maxHeartbeats 4000000 in
theorem list_any {w : World} {s : Nat} {now : Int} {L : List It} {F : List Nat} (h : WW w s now L F) (hl : L.length ≤ 1000) :
    Calls Tryd.prog 48 #[.pointer (some ⟨s, 0, none⟩)] w fun e w' => ∃ v, e = .returned v ∧ Gt w w' v (ids L) := by
  obtain ⟨mp, V, h, rfl⟩ := h
  obtain ⟨G, hG⟩ : ∃ G : Nat → List Int, ∀ j, G j = ids (fst now L j) := ⟨_, fun _ => rfl⟩
  have G0 : Hid (Gt w w (.slice none 0 0) (G 0)) := by
    rw [hG]
    exact gt_start w
  have GE : Hid (G 169 = ids L) := by
    rw [hG, fst_all h.srt h.tks h.now]
    exact rfl
  have CN : Hid (∀ (wr : World) (v : Value) (j : Nat), j < 169 → Gt w wr v (G j) → ∃ a n cap, wr.cell? ⟨s, 2 + j, none⟩ = some (.slice a n cap) ∧ Calls Tryd.prog 59 #[v, .slice a n cap] wr fun e w' => ∃ v', e = .returned v' ∧ Gt w w' v' (G (j + 1))) := fun wr v j hj g => by
    obtain ⟨a, cap, ev⟩ := h.wr.shape hj
    have o := h.wr.own j hj
    have c := (h.wr.below g.bel).cr hj
    rw [ev] at o c
    refine ⟨a, _, cap, c, ?_⟩
    have := numbers_any (v := v) o g (by have := fst_len h.srt h.tks h.now j; have := rl_len (rm now) L j; rw [hG]; unfold ids; rw [List.length_map]; omega)
    rw [show G (j + 1) = G j ++ ids (rl (rm now) L j) by rw [hG, hG, fst_succ]; unfold ids; rw [List.map_append]]
    exact this
  rw [← GE.out]
  clear h hl hG GE
  obtain ⟨a0, n0, p0, c0, C0⟩ := CN.out w _ 0 (by decide) G0.out
  have D0 : Hid (∀ _ : Unit, _) := fun _ => C0
  clear C0 G0
  go_enter Tryd.func48, Tryd.ntmps48
  go_wp2_with fail
  refine (D0.out ()).mono ?_
  rintro e w1 ⟨v, rfl, g⟩
  obtain ⟨p, c, ev⟩ := own_shape g.own
  have G1 : Hid (Gt w w1 v (G 1)) := g
  clear g
  subst ev
  go_wp2_with fail
  go_loopw [3, 13] (fun v i wr => ∃ l : Nat, (l : Int) ≤ 21 ∧ i = .int .i64 l ∧ Hid (Gt w wr v (G (1 + 8 * l)))) (fun _ i _ => 21 - (intOf i).toNat)
  case atStart => exact ⟨0, by omega, rfl, G1⟩
  case round =>
    obtain ⟨l, hl, rfl, S⟩ := hrel
    obtain ⟨q, cq, e3⟩ := own_shape S.out.own
    by_cases h : (l : Int) < 21
    · go_wp2_with fail
      obtain ⟨wo, rfl⟩ : ∃ wo, wo = wr := ⟨_, rfl⟩
      go_loopw [3, 16] (fun v i wr => ∃ k : Nat, (k : Int) ≤ 8 ∧ i = .int .i64 k ∧ Hid (Gt w wr v (G (1 + 8 * l + k)))) (fun _ i _ => 8 - (intOf i).toNat)
      case atStart => exact ⟨0, by omega, rfl, S⟩
      case round =>
        clear e3
        obtain ⟨k, hk, rfl, S2⟩ := hrel
        by_cases h5 : (k : Int) < 8
        · obtain ⟨a5, n5, p5, c5, C5⟩ := CN.out wr _ (1 + 8 * l + k) (by omega) S2.out
          rw [show 2 + (1 + 8 * l + k) = 3 + l * 8 + k by omega] at c5
          obtain ⟨q5, cq5, e5⟩ := own_shape S2.out.own
          have D5 : Hid (∀ _ : Unit, _) := fun _ => C5
          clear C5 S2 S
          subst e5
          go_wp2_with fail
          refine (D5.out ()).mono ?_
          rintro e w5 ⟨v5, rfl, g5⟩
          obtain ⟨p6, c6, e6⟩ := own_shape g5.own
          have G6 : Hid (Gt w w5 v5 (G (1 + 8 * l + (k + 1)))) := g5
          clear g5
          subst e6
          go_wp2
          go_roundw
          case rel => exact ⟨k + 1, by omega, by go_num, G6⟩
          case measure => simp [intOf]; omega
        · obtain rfl : k = 8 := by omega
          have G6 : Hid (Gt w wr _ (G (1 + 8 * (l + 1)))) := S2.out
          clear S2 S
          go_wp2
          go_roundw
          case rel => exact ⟨l + 1, by omega, by go_num, G6⟩
          case measure => simp [intOf]; omega
    · obtain rfl : l = 21 := by omega
      have G6 : Hid (Gt w wr _ (G 169)) := S.out
      clear S
      subst e3
      go_wp2
      go_ret
      exact ⟨_, rfl, G6.out⟩
end Go.Proofs.YtadaghhgmflfdaaDoor
