/- What the document's Spawn (davitref11) answers and leaves. -/
import Derived.Test.YtghnpmkibnggeaaDoorRows
import Derived.Test.YtghnpmkibnggeaaDoorDb
import Derived.WalkKit
import Derived.ProofKit
import Derived.OpenShut
import Derived.BigQuiet
namespace Go.Proofs.YtghnpmkibnggeaaDoor
open Go.ChangeShapes Go.WideShapes Go.ChangeAt Go.RowKit
open Mm Sl Tm

theorem lo_le_dn (O : Nat → Bool) {i : Nat} (h : i < 32) : (lo O i).length ≤ (dn O).length := by
  rw [dn_at O h, List.length_append]
  omega

/-- A new thread behind k others: the second append. -/
theorem app_new {w : World} {a1 : Option Addr} {i c1 : Nat} {xs : List Value} (p : Int) (m : Nat) (hi : i < 32) (ty : TypeId) (o1 : w.ownsRow 0 46 7 (.slice a1 i c1) i xs) :
    ∃ a2 c2 w2, (Builtin.append_ #[47, 47] ty #[.slice a1 i c1, .slice (some ⟨w.heap.size, 0, none⟩) 1 1]).run Tryd.prog (w.alloc (.cells #[.int .i64 ((i : Int) + 1), .int .i64 p, .int .u64 (m : Int), .int .i64 0, .bool false, .bool false, .int .i64 0] 46)) = .ok (.slice a2 (i + 1) c2) w2 ∧
      w2.ownsRow 0 46 7 (.slice a2 (i + 1) c2) (i + 1) (xs ++ sv (i, nw p m)) ∧ Fr w.heap.size (Value.slice a1 i c1).ownBlock.toList w w2 ∧ ∀ g, (Value.slice a2 (i + 1) c2).ownBlock = some g → (Value.slice a1 i c1).ownBlock = some g ∨ w.heap.size ≤ g := by
  have hb := (Below.refl w.heap.size w).alloc (Nat.le_refl _) (.cells #[.int .i64 ((i : Int) + 1), .int .i64 p, .int .u64 (m : Int), .int .i64 0, .bool false, .bool false, .int .i64 0] 46)
  have nb : Blk (w.alloc (.cells #[.int .i64 ((i : Int) + 1), .int .i64 p, .int .u64 (m : Int), .int .i64 0, .bool false, .bool false, .int .i64 0] 46)) w.heap.size (sv (i, nw p m)) 46 := Blk.new w _ _
  have o2 := owng_keep o1 (Fr.of_below hb) fun g e => ⟨owng_lt o1 e, by simp⟩
  obtain ⟨v', w2, hrun, r1, r2, r3⟩ := run_appt _ ty o2 ⟨w.heap.size, 0, none⟩ 1 1 (sv (i, nw p m)) rfl (fun j u hj => by
    rw [Addr.add_lit, Nat.zero_add, nb.cell]
    exact hj) (fun u hu => fy_one [(i, nw p m)] u (by simpa [fy] using hu)) (by omega)
  obtain ⟨a2, c2, rfl⟩ := owng_shape r1
  exact ⟨a2, c2, w2, hrun, r1, ((Fr.of_below hb).mono (Nat.le_refl _) (fun _ _ _ => by simp)).grown r2 (by simp) (fun k e => Or.inr (by simp [e])), fun g hg => (r3 g hg).imp id (fun q => by simp at q; omega)⟩

/-- With a new one: what the three appends and the store make of it. -/
theorem rd_spawn {w : World} {b c n' i g cap : Nat} {O : Nat → Bool} {X : Nat → Th} (h : RD w b (.slice (some ⟨g, 0, none⟩) n' cap) c O X) (hi : i < 32) (ho : O (i + 1) = false) (hlo : lo O i = List.range i) (hn : (dn O).length < 32) (p : Int) (m : Nat) (ty ty' ty'' : TypeId) :
    n' = (dn O).length ∧ i ≤ n' ∧ n' ≤ cap ∧ ∃ a1 c1 w1, (Builtin.append_ #[47, 47] ty #[.slice none 0 0, .slice (some ⟨g, 0, none⟩) i cap]).run Tryd.prog w = .ok (.slice a1 i c1) w1 ∧
      ∃ a2 c2 w2, (Builtin.append_ #[47, 47] ty' #[.slice a1 i c1, .slice (some ⟨w1.heap.size, 0, none⟩) 1 1]).run Tryd.prog (w1.alloc (.cells #[.int .i64 ((i : Int) + 1), .int .i64 p, .int .u64 (m : Int), .int .i64 0, .bool false, .bool false, .int .i64 0] 46)) = .ok (.slice a2 (i + 1) c2) w2 ∧ w2.cell? ⟨b, 1, none⟩ = some (.slice (some ⟨g, 0, none⟩) n' cap) ∧
      ∀ ad c', (i < cap → ad = ⟨g, i * 7, none⟩) → ∃ a3 c3 w3, (Builtin.append_ #[47, 47] ty'' #[.slice a2 (i + 1) c2, .slice (some ad) (n' - i) c']).run Tryd.prog w2 = .ok (.slice a3 (n' + 1) c3) w3 ∧
        RD (w3.setCell ⟨b, 1, none⟩ (.slice a3 (n' + 1) c3)) b (.slice a3 (n' + 1) c3) c (st O (i + 1) true) (sx X i (nw p m)) ∧ DC w (w3.setCell ⟨b, 1, none⟩ (.slice a3 (n' + 1) c3)) b (.slice (some ⟨g, 0, none⟩) n' cap) (.slice a3 (n' + 1) c3) ∧ w3.cell? ⟨b, 1, none⟩ = some (.slice (some ⟨g, 0, none⟩) n' cap) ∧ w3.frozen? ⟨b, 1, none⟩ = false := by
  obtain ⟨rfl, hcp⟩ : n' = (dn O).length ∧ n' ≤ cap := by
    rcases h.own.2 with ⟨e, e2⟩ | ⟨g', cap', cur, e, _, _, hc, _⟩
    · simp at e
    · simp only [Value.slice.injEq] at e
      obtain ⟨_, rfl, rfl⟩ := e
      exact ⟨rfl, hc⟩
  have hy := yl_none O X hi ho
  have hyn := yl_new O X hi (nw p m)
  have ly := yl_len O X
  have ld := yl_len (st O (i + 1) true) (sx X i (nw p m))
  have lA : ((lo O i).map fun j => (j, X j)).length = i := by simp [hlo]
  generalize (lo O i).map (fun j => (j, X j)) = A at *
  generalize (Tm.hi O i).map (fun j => (j, X j)) = B at *
  have lB : i + B.length = (dn O).length := by rw [hy] at ly; simp at ly; omega
  have ln : (dn (st O (i + 1) true)).length = (dn O).length + 1 := by rw [hyn] at ld; simp at ld; omega
  have glt := (h.ob (g := g) rfl).2
  have cell : ∀ j, j < (dn O).length * 7 → w.cell? ⟨g, j, none⟩ = (fy (A ++ B))[j]? := fun j hj => by rw [← hy]; exact h.own.cellAt j hj
  have l1 : (fy A).length = i * 7 := by rw [fy_len, lA]
  have l2 : (fy B).length = ((dn O).length - i) * 7 := by rw [fy_len, ← lB, Nat.add_sub_cancel_left]
  obtain ⟨v1, w1, run1, o1, g1, n1⟩ := run_appt w ty (World.ownsRow_nil w 0 46 7) ⟨g, 0, none⟩ i cap (fy A) l1 (fun j u hj => by
    have hj2 := (List.getElem?_eq_some_iff.1 hj).1
    rw [Addr.add_lit, Nat.zero_add, cell j (by omega), ← hj]
    exact fy_front A _ j (by omega)) (fy_one _) (by omega)
  rw [Nat.zero_add, List.nil_append] at o1
  obtain ⟨a1, c1, rfl⟩ := owng_shape o1
  have b1 : Below w.heap.size w w1 := ⟨g1.os, g1.tape, g1.output, g1.size, fun i hi => g1.block i hi (by simp [Value.ownBlock])⟩
  have new1 : ∀ i', (Value.slice a1 i c1).ownBlock = some i' → w.heap.size ≤ i' := fun i' hi => by
    rcases n1 i' hi with q | q
    · cases q
    · exact q
  obtain ⟨a2, c2, w2, run2, o2, f2, n2⟩ := app_new p m hi ty' o1
  have b2 : Below w.heap.size w w2 := b1.trans ((f2.less b1.size).below fun k hk => new1 k (by simpa using hk))
  have new2 : ∀ i', (Value.slice a2 (i + 1) c2).ownBlock = some i' → w.heap.size ≤ i' := fun i' hi => by
    rcases n2 i' hi with q | q
    · exact new1 i' q
    · exact Nat.le_trans b1.size q
  refine ⟨rfl, by omega, hcp, a1, c1, w1, run1, a2, c2, w2, run2, (h.below b2).k1, fun ad c' had => ?_⟩
  obtain ⟨v3, w3, run3, o3, g3, n3⟩ := run_appt w2 ty'' o2 ad ((dn O).length - i) c' (fy B) l2 (fun j u hj => by
    have hj2 := (List.getElem?_eq_some_iff.1 hj).1
    rw [had (by omega), Addr.add_lit]
    rw [b2.cell (p := ⟨g, i * 7 + j, none⟩) glt, cell _ (by omega), ← hj]
    exact fy_back A B i j lA) (fy_one _) (by omega)
  rw [List.append_assoc, ← fy_cons, ← fy_app, ← hyn, show i + 1 + ((dn O).length - i) = (dn O).length + 1 by omega, ← ln] at o3
  obtain ⟨a3, c3, rfl⟩ := owng_shape o3
  have b3 : Below w.heap.size w w3 := b2.grown g3 b2.size (fun i hi => new2 i hi)
  have := rd_store h ((Fr.of_below b3).mono (Nat.le_refl _) (fun _ _ _ => by simp)) o3 (fun i hi => by
    rcases n3 i hi with q | q
    · exact Or.inr (new2 i q)
    · exact Or.inr (by have := b2.size; omega))
  rw [ln] at this run3
  exact ⟨a3, c3, w3, run3, this.1, this.2.1, this.2.2.1, this.2.2.2⟩

/-- The first one. -/
theorem rd_spawn0 {w : World} {b c : Nat} {O : Nat → Bool} {X : Nat → Th} (h : RD w b (.slice none 0 0) c O X) (h0 : (dn O).length = 0) (p : Int) (m : Nat) (ty ty' ty'' : TypeId) :
    (Builtin.append_ #[47, 47] ty #[.slice none 0 0, .slice none 0 0]).run Tryd.prog w = .ok (.slice none 0 0) w ∧
      ∃ a2 c2 w2, (Builtin.append_ #[47, 47] ty' #[.slice none 0 0, .slice (some ⟨w.heap.size, 0, none⟩) 1 1]).run Tryd.prog (w.alloc (.cells #[.int .i64 1, .int .i64 p, .int .u64 (m : Int), .int .i64 0, .bool false, .bool false, .int .i64 0] 46)) = .ok (.slice a2 1 c2) w2 ∧ w2.cell? ⟨b, 1, none⟩ = some (.slice none 0 0) ∧
      (Builtin.append_ #[47, 47] ty'' #[.slice a2 1 c2, .slice none 0 0]).run Tryd.prog w2 = .ok (.slice a2 1 c2) w2 ∧
        RD (w2.setCell ⟨b, 1, none⟩ (.slice a2 1 c2)) b (.slice a2 1 c2) c (st O 1 true) (sx X 0 (nw p m)) ∧ DC w (w2.setCell ⟨b, 1, none⟩ (.slice a2 1 c2)) b (.slice none 0 0) (.slice a2 1 c2) ∧ w2.frozen? ⟨b, 1, none⟩ = false := by
  obtain ⟨i0, hi0, _⟩ := info_parts Tryd.infoTh
  have hno := World.ownsRow_nil w 0 46 7
  have ho : O 1 = false := by
    cases e : O 1 with
    | false => rfl
    | true => have := lo_lt (O := O) (i := 0) (by omega) e; omega
  have ly := yl_len O X
  have hy := yl_none O X (i := 0) (by omega) ho
  have hyn := yl_new O X (i := 0) (by omega) (nw p m)
  have ld := yl_len (st O 1 true) (sx X 0 (nw p m))
  rw [Nat.zero_add] at hyn
  have eA : (lo O 0).map (fun j => (j, X j)) = [] := rfl
  rw [eA] at hy hyn
  have eB : (Tm.hi O 0).map (fun j => (j, X j)) = [] := by
    rw [hy, h0, List.nil_append] at ly
    exact List.eq_nil_of_length_eq_zero ly
  rw [eB, List.nil_append] at hyn
  have ln : (dn (st O 1 true)).length = 1 := by rw [← ld, hyn]; rfl
  obtain ⟨a2, c2, w2, run2, o2, f2, n2⟩ := app_new (i := 0) p m (by omega) ty' hno
  have b2 : Below w.heap.size w w2 := f2.below (by simp [Value.ownBlock])
  have o3 : w2.ownsRow 0 46 7 (.slice a2 1 c2) (dn (st O 1 true)).length (fy (yl (st O 1 true) (sx X 0 (nw p m)))) := by
    rw [ln, hyn]
    exact o2
  have := rd_store h ((Fr.of_below b2).mono (Nat.le_refl _) (fun _ _ _ => by simp)) o3 (fun i hi => by
    rcases n2 i hi with q | q
    · cases q
    · exact Or.inr q)
  exact ⟨run_append_owned_none (P := Tryd.prog) w 0 47 ty 46 i0 7 Tryd.underlying47 hi0 _ 0 [] hno, a2, c2, w2, run2, this.2.2.1, run_append_owned_none (P := Tryd.prog) w2 0 47 ty'' 46 i0 7 Tryd.underlying47 hi0 _ _ _ o2, this.1, this.2.1, this.2.2.2⟩

set_option maxRecDepth 100000 in
set_option maxHeartbeats 1000000 in
theorem rdspawn_any {b c : Nat} {v : Value} {O : Nat → Bool} {X : Nat → Th} (p : Int) (m : Nat) (w : World) (hm : m < 18446744073709551616) (h : RD w b v c O X) :
    Calls Tryd.prog 39 #[.pointer (some ⟨b, 0, none⟩), .int .i64 p, .int .u64 (m : Int)] w fun e w' => e = .returned (.tuple #[.int .i64 (spN c O p m), .int .i64 (spE c O p m)]) ∧ ∃ v', RD w' b v' c (spO c O p m) (spX c O X p m) ∧ DC w w' b v v' := by
  have HQ : Hid (RD w b v c O X) := h
  have C1 : Hid (∀ _ : Unit, _) := fun _ => right_any c m w hm
  have k0 := h.k0
  by_cases hb : spB c p m = true
  · rw [show spN c O p m = tN (ff 32 O) from if_pos hb, show spE c O p m = tE (ff 32 O) from if_pos hb, show spO c O p m = tO O (ff 32 O) from if_pos hb, show spX c O X p m = tX X (nw p m) (ff 32 O) from if_pos hb]
    unfold spB at hb
    rw [Bool.and_eq_true] at hb
    obtain ⟨hp, hc⟩ := hb
    have hp := of_decide_eq_true hp
    obtain ⟨p0, p1⟩ := hp
    rw [hc] at C1
    obtain ⟨a, cap, rfl⟩ := h.shape
    have K1 : Hid (∀ w2 : World, Below w.heap.size w w2 → w2.cell? ⟨b, 1, none⟩ = some (.slice a (dn O).length cap)) := fun w2 b2 => (h.below b2).k1
    rcases ff_is (O := O) with ⟨e, e2⟩ | ⟨i, e, hi, ho, hlo, hn⟩
    · rw [e]
      rw [show tN none = 0 from rfl, show tE none = 5 from rfl, show tO O none = O from rfl, show tX X (nw p m) none = X from rfl]
      rw [e2] at K1 HQ ⊢
      clear h hm hc e e2
      go_enter Tryd.func39, Tryd.ntmps39
      go_wp2_with fail
      refine (C1.out ()).mono ?_
      rintro e w2 ⟨rfl, b2⟩
      have k1 := K1.out w2 b2
      have B2 : Hid (Below w.heap.size w w2) := b2
      clear b2
      go_wp2
      go_ret2
      exact ⟨rfl, _, HQ.out.below B2.out, DC.of_below B2.out⟩
    · rw [e]
      rw [show tN (some i) = (i : Int) + 1 from rfl, show tE (some i) = 0 from rfl, show tO O (some i) = st O (i + 1) true from rfl, show tX X (nw p m) (some i) = sx X i (nw p m) from rfl]
      rcases h.own.2 with ⟨e3, e4⟩ | ⟨g, cap', cur, e3, -, -, -, -⟩
      · simp only [Value.slice.injEq] at e3
        obtain ⟨rfl, -, rfl⟩ := e3
        obtain rfl : i = 0 := by
          have := lo_le_dn O hi
          rw [hlo, List.length_range] at this
          omega
        rw [e4] at K1 HQ ⊢
        have T : Hid (∀ w2 : World, Below w.heap.size w w2 → _) := fun w2 b2 => rd_spawn0 (by have := h.below b2; rwa [e4] at this) e4 p m 47 47 47
        have HD : Hid (∀ (w2 w3 : World) (v' : Value), Below w.heap.size w w2 → DC w2 w3 b (.slice none 0 0) v' → DC w w3 b (.slice none 0 0) v') := fun w2 w3 v' b2 k => DC.from b2 k
        clear h hm hc e hi ho hlo hn e4
        go_enter Tryd.func39, Tryd.ntmps39
        go_wp2_with fail
        refine (C1.out ()).mono ?_
        rintro e w2 ⟨rfl, b2⟩
        have k1 := K1.out w2 b2
        obtain ⟨run1, a2, c2, w3, run2, d2, run3, q3, r3, f3⟩ := T.out w2 b2
        have Q3 : Hid (RD _ b _ c _ _ ∧ DC w _ b _ _) := ⟨q3, HD.out _ _ _ b2 r3⟩
        clear b2 q3 r3 T
        go_wp2
        go_loop [8, 9] (fun x y => x = .int .i64 1 ∧ y = .int .i64 0) (fun _ _ => 0)
        case atStart => exact ⟨rfl, rfl⟩
        case round =>
          obtain ⟨rfl, rfl⟩ := hrel
          go_wp2_with (first | (at_builtin; refine wpList_rung rfl (.tmp 55) (.tmp 61) 47 rfl rfl rfl run1 ?_) | (at_builtin; refine wpList_rung rfl (.tmp 63) (.tmp 68) 47 rfl rfl rfl run2 ?_) | (at_builtin; refine wpList_rung rfl (.tmp 71) (.tmp 77) 47 rfl rfl rfl run3 ?_))
          go_ret2
          exact ⟨rfl, _, Q3.out.1, Q3.out.2⟩
      · simp only [Value.slice.injEq] at e3
        obtain ⟨rfl, -, rfl⟩ := e3
        have hil : i ≤ (dn O).length := by
          have := lo_le_dn O hi
          rwa [hlo, List.length_range] at this
        have hcp : (dn O).length ≤ cap := (rd_spawn h hi ho hlo hn p m 0 0 0).2.2.1
        have T : Hid (∀ w2 : World, Below w.heap.size w w2 → _) := fun w2 b2 => rd_spawn (h.below b2) hi ho hlo hn p m 47 47 47
        have HD : Hid (∀ (w2 w3 : World) (v' : Value), Below w.heap.size w w2 → DC w2 w3 b (.slice (some ⟨g, 0, none⟩) (dn O).length cap) v' → DC w w3 b (.slice (some ⟨g, 0, none⟩) (dn O).length cap) v') := fun w2 w3 v' b2 k => DC.from b2 k
        have CL : Hid (∀ w2 : World, Below w.heap.size w w2 → ∀ k, k < (dn O).length → w2.cell? ⟨g, k * 7, none⟩ = some (.int .i64 ((((dn O).getD k 0 : Nat) : Int) + 1))) := fun w2 b2 k hk => by
          obtain ⟨g2, e5, _, _, _, hc2⟩ := (h.below b2).at hk
          simp only [Option.some.injEq, Addr.mk.injEq, and_true] at e5
          subst e5
          exact hc2 0 (by omega)
        have FA : Hid (∀ k, k < (dn O).length → _) := fun k hk => full_at hi ho hlo hk
        obtain ⟨l, hl2⟩ : ∃ l, (dn O).length = l := ⟨_, rfl⟩
        rw [hl2] at T HD CL FA K1 HQ hil hcp hn ⊢
        have i1 : (i : Int) < 32 := by omega
        have i2 : (i : Int) ≤ l := by omega
        have i3 : (l : Int) < 32 := by omega
        have i4 : (l : Int) ≤ cap := by omega
        have tail : ((i : Int) < l ∧ cap ≠ i) ∨ (¬ (i : Int) < l ∧ cap = i) ∨ (¬ (i : Int) < l ∧ cap ≠ i) := by omega
        clear h hm hc e hi ho hlo hn hil hcp hl2
        rcases tail with ⟨t1, t2⟩ | ⟨t1, t2⟩ | ⟨t1, t2⟩
        · go_enter Tryd.func39, Tryd.ntmps39
          go_wp2_with fail
          refine (C1.out ()).mono ?_
          rintro e w2 ⟨rfl, b2⟩
          have k1 := K1.out w2 b2
          obtain ⟨-, -, -, a1, c1, w3, run1, a2, c2, w4, run2, d4, T3⟩ := T.out w2 b2
          obtain ⟨a3, c3, w5, run3, q5, r5, d5, f5⟩ := T3 ⟨g, i * 7, none⟩ (cap - i) (fun _ => rfl)
          have Q5 : Hid (RD _ b _ c _ _ ∧ DC w _ b _ _) := ⟨q5, HD.out _ _ _ b2 r5⟩
          have CL2 : Hid (∀ k, k < l → w2.cell? ⟨g, k * 7, none⟩ = some (.int .i64 ((((dn O).getD k 0 : Nat) : Int) + 1))) := CL.out w2 b2
          clear b2 q5 r5 T T3 CL HD K1 C1
          go_wp2
          go_loop [8, 9] (fun x y => ∃ k : Nat, (k : Int) ≤ i ∧ x = .int .i64 ((k : Int) + 1) ∧ y = .int .i64 (k : Int)) (fun _ y => i - (intOf y).toNat)
          case atStart => exact ⟨0, by omega, rfl, rfl⟩
          case round =>
            obtain ⟨k, hk, rfl, rfl⟩ := hrel
            by_cases c5 : (k : Int) < i
            · have x0 := CL2.out k (by omega)
              rw [(FA.out k (by omega)).1 (by omega)] at x0
              have e6 : (((k : Nat) : Int) + 1 == (k : Int) + 1) = true := by simp
              have kl : (k : Int) < l := by omega
              clear run1 run2 run3
              go_wp2
              go_round
              case rel => exact ⟨k + 1, by omega, by go_num, by go_num⟩
              case measure => simp [intOf]; omega
            · obtain rfl : k = i := by omega
              have x0 := CL2.out k (by omega)
              have x1 := (FA.out k (by omega)).2 (Nat.le_refl _)
              have e6 : ((((dn O).getD k 0 : Nat) : Int) + 1 == (k : Int) + 1) = false := by rw [beq_eq_false_iff_ne]; omega
              generalize (((dn O).getD k 0 : Nat) : Int) + 1 = x at *
              clear x1
              go_wp2_with (first | (at_builtin; refine wpList_rung rfl (.tmp 55) (.tmp 61) 47 rfl rfl rfl run1 ?_) | (at_builtin; refine wpList_rung rfl (.tmp 63) (.tmp 68) 47 rfl rfl rfl run2 ?_) | (at_builtin; refine wpList_rung rfl (.tmp 71) (.tmp 77) 47 rfl rfl rfl run3 ?_))
              go_ret2
              exact ⟨rfl, _, Q5.out.1, Q5.out.2⟩
        · go_enter Tryd.func39, Tryd.ntmps39
          go_wp2_with fail
          refine (C1.out ()).mono ?_
          rintro e w2 ⟨rfl, b2⟩
          have k1 := K1.out w2 b2
          obtain ⟨-, -, -, a1, c1, w3, run1, a2, c2, w4, run2, d4, T3⟩ := T.out w2 b2
          obtain ⟨a3, c3, w5, run3, q5, r5, d5, f5⟩ := T3 ⟨g, 0, none⟩ (cap - i) (fun q => absurd q (by omega))
          have Q5 : Hid (RD _ b _ c _ _ ∧ DC w _ b _ _) := ⟨q5, HD.out _ _ _ b2 r5⟩
          have CL2 : Hid (∀ k, k < l → w2.cell? ⟨g, k * 7, none⟩ = some (.int .i64 ((((dn O).getD k 0 : Nat) : Int) + 1))) := CL.out w2 b2
          clear b2 q5 r5 T T3 CL HD K1 C1
          go_wp2
          go_loop [8, 9] (fun x y => ∃ k : Nat, (k : Int) ≤ i ∧ x = .int .i64 ((k : Int) + 1) ∧ y = .int .i64 (k : Int)) (fun _ y => i - (intOf y).toNat)
          case atStart => exact ⟨0, by omega, rfl, rfl⟩
          case round =>
            obtain ⟨k, hk, rfl, rfl⟩ := hrel
            by_cases c5 : (k : Int) < i
            · have x0 := CL2.out k (by omega)
              rw [(FA.out k (by omega)).1 (by omega)] at x0
              have e6 : (((k : Nat) : Int) + 1 == (k : Int) + 1) = true := by simp
              have kl : (k : Int) < l := by omega
              clear run1 run2 run3
              go_wp2
              go_round
              case rel => exact ⟨k + 1, by omega, by go_num, by go_num⟩
              case measure => simp [intOf]; omega
            · obtain rfl : k = i := by omega
              go_wp2_with (first | (at_builtin; refine wpList_rung rfl (.tmp 55) (.tmp 61) 47 rfl rfl rfl run1 ?_) | (at_builtin; refine wpList_rung rfl (.tmp 63) (.tmp 68) 47 rfl rfl rfl run2 ?_) | (at_builtin; refine wpList_rung rfl (.tmp 71) (.tmp 77) 47 rfl rfl rfl run3 ?_))
              go_ret2
              have q := Q5.out; rw [t2] at q; exact ⟨rfl, _, q.1, q.2⟩
        · go_enter Tryd.func39, Tryd.ntmps39
          go_wp2_with fail
          refine (C1.out ()).mono ?_
          rintro e w2 ⟨rfl, b2⟩
          have k1 := K1.out w2 b2
          obtain ⟨-, -, -, a1, c1, w3, run1, a2, c2, w4, run2, d4, T3⟩ := T.out w2 b2
          obtain ⟨a3, c3, w5, run3, q5, r5, d5, f5⟩ := T3 ⟨g, i * 7, none⟩ (cap - i) (fun _ => rfl)
          have Q5 : Hid (RD _ b _ c _ _ ∧ DC w _ b _ _) := ⟨q5, HD.out _ _ _ b2 r5⟩
          have CL2 : Hid (∀ k, k < l → w2.cell? ⟨g, k * 7, none⟩ = some (.int .i64 ((((dn O).getD k 0 : Nat) : Int) + 1))) := CL.out w2 b2
          clear b2 q5 r5 T T3 CL HD K1 C1
          go_wp2
          go_loop [8, 9] (fun x y => ∃ k : Nat, (k : Int) ≤ i ∧ x = .int .i64 ((k : Int) + 1) ∧ y = .int .i64 (k : Int)) (fun _ y => i - (intOf y).toNat)
          case atStart => exact ⟨0, by omega, rfl, rfl⟩
          case round =>
            obtain ⟨k, hk, rfl, rfl⟩ := hrel
            by_cases c5 : (k : Int) < i
            · have x0 := CL2.out k (by omega)
              rw [(FA.out k (by omega)).1 (by omega)] at x0
              have e6 : (((k : Nat) : Int) + 1 == (k : Int) + 1) = true := by simp
              have kl : (k : Int) < l := by omega
              clear run1 run2 run3
              go_wp2
              go_round
              case rel => exact ⟨k + 1, by omega, by go_num, by go_num⟩
              case measure => simp [intOf]; omega
            · obtain rfl : k = i := by omega
              go_wp2_with (first | (at_builtin; refine wpList_rung rfl (.tmp 55) (.tmp 61) 47 rfl rfl rfl run1 ?_) | (at_builtin; refine wpList_rung rfl (.tmp 63) (.tmp 68) 47 rfl rfl rfl run2 ?_) | (at_builtin; refine wpList_rung rfl (.tmp 71) (.tmp 77) 47 rfl rfl rfl run3 ?_))
              go_ret2
              exact ⟨rfl, _, Q5.out.1, Q5.out.2⟩
  · rw [show spN c O p m = 0 from if_neg hb, show spE c O p m = 2 from if_neg hb, show spO c O p m = O from if_neg hb, show spX c O X p m = X from if_neg hb]
    by_cases h1 : p < 0
    · clear h hm hb
      go_enter Tryd.func39, Tryd.ntmps39
      go_wp2
      go_ret2
      exact ⟨rfl, _, HQ.out, DC.refl _ _ _⟩
    · by_cases h2 : 8 ≤ p
      · clear h hm hb
        go_enter Tryd.func39, Tryd.ntmps39
        go_wp2
        go_ret2
        exact ⟨rfl, _, HQ.out, DC.refl _ _ _⟩
      · have hc : can c m = false := by
          cases e : can c m with
          | false => rfl
          | true => exact absurd (by unfold spB; rw [e, decide_eq_true (by omega)]; rfl) hb
        rw [hc] at C1
        clear h hm hb hc
        go_enter Tryd.func39, Tryd.ntmps39
        go_wp2_with fail
        refine (C1.out ()).mono ?_
        rintro e w2 ⟨rfl, b2⟩
        have B2 : Hid (Below w.heap.size w w2) := b2
        clear b2
        go_wp2
        go_ret2
        exact ⟨rfl, _, HQ.out.below B2.out, DC.of_below B2.out⟩
end Go.Proofs.YtghnpmkibnggeaaDoor
