/- What prio's List answers, for every queue: all things as they go ahead of each other. -/
import Derived.Test.YtpmjojemcpgpiaaDoorQb
import Derived.WalkKit
import Derived.ProofKit
import Derived.OpenShut
import Derived.BigQuiet
import Derived.Shelf.Abstract
import Derived.Shelf.RegionOpen
namespace Go.Proofs.YtpmjojemcpgpiaaDoor
open Go.ChangeShapes Go.WideShapes Go.ChangeAt Go.RowKit
open Fm Qm

attribute [local go_sem] Oper.semAt_some

/-- A list that is gathered, its header in a box at block b. -/
structure LG (w : World) (b : Nat) (W : World) (g cap : Nat) (G : List Int) : Prop where
  bel : Below w.heap.size w W
  box : Blk W b [.slice (some ⟨g, 0, none⟩) G.length cap] 39
  own : W.ownsRow w.heap.size 3 1 (.slice (some ⟨g, 0, none⟩) G.length cap) G.length (G.map (Value.int .i64))

theorem LG.blk {w : World} {b : Nat} {W : World} {g cap : Nat} {G : List Int} (h : LG w b W g cap G) : ∃ cur : Array Value, w.heap.size ≤ g ∧ W.heap[g]? = some (.cells cur 3 (0, 0)) := by
  rcases h.own.2 with ⟨e, _⟩ | ⟨g', c', cur, e, hb, hg, _⟩
  · cases e
  · simp only [Value.slice.injEq, Option.some.injEq, Addr.mk.injEq] at e
    obtain ⟨⟨rfl, _⟩, _⟩ := e
    exact ⟨cur, hb, hg⟩

theorem own_other {W W' : World} {base g n cap : Nat} {xs : List Value} (h : W.ownsRow base 3 1 (.slice (some ⟨g, 0, none⟩) n cap) n xs) (e : W'.heap[g]? = W.heap[g]?) : W'.ownsRow base 3 1 (.slice (some ⟨g, 0, none⟩) n cap) n xs := by
  refine ⟨h.1, ?_⟩
  rcases h.2 with hn | ⟨g', c', cur, hv, hb, hg, rest⟩
  · exact Or.inl hn
  · have e2 := hv
    simp only [Value.slice.injEq, Option.some.injEq, Addr.mk.injEq] at e2
    obtain ⟨⟨rfl, _⟩, _⟩ := e2
    exact Or.inr ⟨g, c', cur, hv, hb, e.trans hg, rest⟩

theorem abd_lg {w : World} {b B : Nat} {G : List Int} (hB : w.heap.size ≤ B) : Abd B fun W => ∃ g cap, LG w b W g cap G :=
  ⟨fun W o ⟨g, cap, h⟩ => ⟨g, cap, (abd_below (Nat.le_refl _) hB).new W o h.bel, h.box.alloc o, by
    obtain ⟨cur, _, hg⟩ := h.blk
    exact own_other h.own (Below.heap_alloc _ _ _ (lt_of_block hg))⟩,
   fun W l o o' a b c ⟨g, cap, h⟩ => ⟨g, cap, (abd_below (Nat.le_refl _) hB).turn W l o o' a b c h.bel, (abd_blk B _ _ _).turn W l o o' a b c h.box, by
    obtain ⟨cur, _, hg⟩ := h.blk
    refine own_other h.own (World.putObj_heap_other ?_)
    intro e
    subst e
    rw [hg] at b
    cases b
    cases c⟩⟩

/-- One more level is gathered. -/
theorem lg_app {w W w3 : World} {b g cap : Nat} {G L : List Int} (h : LG w b W g cap G) (hb : Below W.heap.size W w3) {g2 : Nat} (o2 : w3.ownsRow W.heap.size 3 1 (.slice (some ⟨g2, 0, none⟩) L.length L.length) L.length (L.map (Value.int .i64))) (hl : G.length + L.length ≤ 2000) (hwb : w.heap.size ≤ b) (ty : TypeId) :
    ∃ g' cap' w4, (Builtin.append_ #[39, 39] ty #[.slice (some ⟨g, 0, none⟩) G.length cap, .slice (some ⟨g2, 0, none⟩) L.length L.length]).run Tryd.prog w3 = .ok (.slice (some ⟨g', 0, none⟩) (G.length + L.length) cap') w4 ∧
      w4.cell? ⟨b, 0, none⟩ = some (.slice (some ⟨g, 0, none⟩) G.length cap) ∧ w4.frozen? ⟨b, 0, none⟩ = false ∧ LG w b (w4.setCell ⟨b, 0, none⟩ (.slice (some ⟨g', 0, none⟩) (G.length + L.length) cap')) g' cap' (G ++ L) ∧
      ∀ (k : Nat) (o : Obj), o.isCells = false → W.heap[k]? = some o → (w4.setCell ⟨b, 0, none⟩ (.slice (some ⟨g', 0, none⟩) (G.length + L.length) cap')).heap[k]? = some o := by
  obtain ⟨cur, hg1, hg⟩ := h.blk
  have glt := lt_of_block hg
  obtain ⟨i0, hi, hz0, hz1, hz2⟩ := info_parts Tryd.info3
  have s0 := h.bel.size
  have s3 := hb.size
  have own3 : w3.ownsRow w.heap.size 3 1 (.slice (some ⟨g, 0, none⟩) G.length cap) G.length (G.map (Value.int .i64)) := own_other h.own (hb.block g glt)
  have box3 : Blk w3 b [.slice (some ⟨g, 0, none⟩) G.length cap] 39 := h.box.keep (Fr.of_below hb) h.box.lt (by simp)
  have hc : ∀ j u, (L.map (Value.int .i64))[j]? = some u → w3.cell? ((⟨g2, 0, none⟩ : Addr).add j) = some u := fun j u hj => by
    have := o2.cellAt j (by have := (List.getElem?_eq_some_iff.1 hj).1; simpa using this)
    rw [hj] at this
    have e : (⟨g2, 0, none⟩ : Addr).add j = ⟨g2, j, none⟩ := by unfold Addr.add; split <;> simp_all
    rw [e]
    exact this
  obtain ⟨v', w4, hrun, r1, r2, r3⟩ := run_append_own (P := Tryd.prog) w3 w.heap.size 39 ty 3 i0 (.int .i64 0) 1 8 Tryd.underlying39 hi hz0 hz1 hz2 rfl (by decide) _ G.length _ own3 ⟨g2, 0, none⟩ L.length L.length (L.map (Value.int .i64)) (by simp) hc (ints_one L) (by unfold maxLen; omega) (by omega) (by omega)
  have bne : b ≠ g := by
    intro e
    subst e
    have := (show W.heap[b]? = _ from h.box).symm.trans hg
    simp at this
  rcases r1.2 with ⟨e, _⟩ | ⟨g', cap', cur', rfl, hb', hg', rest⟩
  · exact absurd (r3.1 e).1 (by simp)
  have box4 : Blk w4 b [.slice (some ⟨g, 0, none⟩) G.length cap] 39 := (r2.block b box3.lt (by simp [Value.ownBlock]; exact bne)).trans box3
  have bne' : b ≠ g' := by
    intro e
    subst e
    have := (show w4.heap[b]? = _ from box4).symm.trans hg'
    simp at this
  refine ⟨g', cap', w4, hrun, box4.cell 0, box4.free 0, ⟨?_, ?_, ?_⟩, ?_⟩
  · exact ((h.bel.trans (hb.mono s0)).grown r2 (by omega) (fun k e => by simp [Value.ownBlock] at e; omega)).setCell (p := ⟨b, 0, none⟩) hwb _
  · rw [List.length_append]
    exact box4.set 0 _
  · rw [List.length_append, List.map_append]
    exact own_other r1 (Below.heap_setCell _ _ _ _ (Ne.symm bne'))
  · intro k o ho hk
    have klt := lt_of_block hk
    have kb : k ≠ b := by
      intro e
      subst e
      rw [show W.heap[k]? = _ from h.box] at hk
      cases hk
      cases ho
    have kg : k ≠ g := by
      intro e
      subst e
      rw [hg] at hk
      cases hk
      cases ho
    rw [Below.heap_setCell _ _ _ _ kb, r2.block k (by omega) (by simp [Value.ownBlock]; exact kg), hb.block k klt]
    exact hk

/-- An append of known outcome as one step of a region that draws its order, inside a fence. -/
theorem step_append_in {F : Fence} {n : Nat} {P : Program} {ops : Array Oper} {o : Oper} {a : Act} {w w' : World} {K : Act → World → Prop} {Q : Exit → Act → World → Prop} {E : Prop} {v u v' : Value}
    (hg : o.guard = none) (s x : Operand) (t : TypeId) (hop : o.op = Op.call { callee := Callee.builtin Builtin.append, args := #[s, x], argTypes := #[t, t] }) (hs : a.eval s = v) (hx : a.eval x = u)
    (hrun : (Builtin.append_ #[t, t] o.type #[v, u]).run P w = .ok v' w') (hK : K (a.put o.dst v') w') :
    if Region.wanted o (yielded ops a.tmps) = true then Oper.wpIn F n P o a w K Q else E := by
  rw [if_pos (by simp [Region.wanted, hg])]
  unfold Oper.wpIn
  refine ⟨?_, ?_⟩
  · simp [Oper.about, hop, resolve, Target.leads, Sem.run_pure]
  · rw [Oper.semAt_plain F _ _ (by rw [hop]; intro c hc'; cases hc')]
    simp [execOp, hop, resolve, invoke, builtin, hs, hx, hrun, Result.andThen]
    exact hK

set_option maxHeartbeats 2000000 in
theorem plist_any {s m : Nat} {X : Its} (w : World) (h : PQ w s m X) :
    Calls Tryd.prog 37 #[.pointer (some ⟨s, 0, none⟩)] w fun e w' => ∃ v, e = .returned v ∧ w'.ownsRow w.heap.size 3 1 v (cat X).length ((cat X).map (Value.int .i64)) ∧ Below w.heap.size w w' := by
  have HP : Hid (PQ w s m X) := h
  have CN : Hid (∀ _ : Unit, _) := fun _ => plen_any w h
  have hl : (X.length : Int) ≤ 1024 := by have := h.ok.le; have := h.m1; omega
  obtain ⟨Z, hZ, hmk⟩ : ∃ Z : Array Value, Hid (Z.size = X.length) ∧ ∀ w : World, (Instr.makeSlice 39 (.int .i64 0) (.int .i64 (X.length : Int))).run Tryd.prog w = .ok (.slice (some ⟨w.heap.size, 0, none⟩) 0 X.length) (w.alloc (.cells Z 3)) := by
    obtain ⟨i0, hi, hz0, hz1, hz2⟩ := info_parts Tryd.info3
    refine ⟨madeCells (Value.int .i64 0).cells (X.length * i0.size), by rw [size_madeCells, hz1, Nat.mul_one]; exact rfl, fun w => ?_⟩
    have := run_make (P := Tryd.prog) w 39 3 i0 (.int .i64 0) Tryd.underlying39 hi hz0 .i64 .i64 0 X.length (Int.le_refl _) (by omega) (by rw [hz2]; omega) (by omega)
    simpa using this
  have hmx : Tryd.prog.follows .mixedOrders = true := by kernel_rfl
  generalize hn : X.length = N at *
  have HN : Hid (X.length = N) := hn
  clear h hn
  refine (callsIn_wide (n := 4)).1 ?_
  refine callsIn_of_wp_marks Tryd.func37 rfl trivial ?_ rfl
  simp only [Tryd.ntmps37, List.size_toArray, List.length_cons, List.length_nil, Nat.reduceAdd, Nat.reduceSub, Array.replicate_succ, Array.replicate_zero, List.push_toArray, List.append_toArray, List.nil_append, List.cons_append]
  gi_wp2_with fail
  refine ⟨trivial, (callsIn_wide.2 (CN.out ())).mono ?_⟩
  rintro e w' ⟨rfl, rfl⟩
  gi_wp2
  obtain ⟨w, rfl⟩ : ∃ w, w = w' := ⟨_, rfl⟩
  have G0 : ∃ g cap, LG w (w.heap.size + 1) ((w.alloc (.cells Z 3)).alloc (.cells #[.slice (some ⟨w.heap.size, 0, none⟩) 0 N] 39)) g cap (gth X 0) := by
    refine ⟨w.heap.size, N, ((Below.refl _ w).alloc (Nat.le_refl _) _).alloc (by simp) _, ?_, ?_⟩
    · have := Blk.new (w.alloc (.cells Z 3)) [.slice (some ⟨w.heap.size, 0, none⟩) 0 N] 39
      rwa [World.size_alloc] at this
    · refine ⟨rfl, Or.inr ⟨w.heap.size, N, Z, rfl, Nat.le_refl _, ?_, Nat.zero_le _, by unfold maxLen; omega, by rw [hZ.out, Nat.mul_one], by simp [gth]⟩⟩
      exact (Below.heap_alloc _ _ _ (by simp)).trans (World.alloc_heap_new w _)
  refine range_bound (gf := 56) (fs := #[.pointer (some ⟨s, 0, none⟩)]) rfl (enters_of Tryd.func56 (by kernel_rfl) rfl) 8 (dx s) (fun _ => rfl)
    (fun k W => ∃ g cap, LG w (w.heap.size + 1) W g cap (gth X k)) (fun _ => False) (fun _ => abd_lg (by simp; omega)) (Abd.pure _ _) G0
    (fun k => { tmps := #[.pointer (some ⟨s, 0, none⟩), undef, .slice none 0 0, .pointer (some ⟨w.heap.size + 1, 0, none⟩), undef, pt s (7 - k), .pointer (some ⟨s, 0, none⟩), .bool false, .pointer (some ⟨s, 0, none⟩), .int .i64 (N : Int), .slice (some ⟨w.heap.size, 0, none⟩) 0 N, .pointer (some ⟨s, 0, none⟩), .func (.func 56) #[.pointer (some ⟨s, 0, none⟩)] #[], .int .i64 ((7 - k : Nat) : Int), pt s (7 - k), undef, undef, undef, undef, undef], defers := [] })
    (fun l J Jx W hJ h0 hY => down_it l J Jx W (fun k W hj j hj8 => by obtain ⟨g, cap, q⟩ := hJ k W hj; exact (HP.out.below q.bel).cell j hj8) h0 hY) ?assign ?body ?done ?stop
  case assign =>
    intro l k W K hk hK
    unfold dx
    gi_wp2
    exact hK
  case body =>
    intro l k W hk hsz hI
    obtain ⟨g, cap, hI⟩ := hI
    obtain ⟨f, r, q⟩ := (HP.out.below hI.bel).lv (7 - k) (by omega)
    have hle : (gth X k).length + (lv X (7 - k)).length ≤ 2000 := by
      have := gth_le HP.out.ok.rg (k := k + 1) (by omega)
      have := HN.out
      rw [show gth X (k + 1) = gth X k ++ lv X (7 - k) from rfl, List.length_append] at *
      omega
    have C : Hid (∀ _ : Unit, _) := fun _ => list_at W.drew (q.heap (w1 := W.drew) rfl)
    have AP : Hid (∀ (w3 : World) (g2 : Nat), Below W.heap.size W.drew w3 → w3.ownsRow W.heap.size 3 1 (.slice (some ⟨g2, 0, none⟩) (lv X (7 - k)).length (lv X (7 - k)).length) (lv X (7 - k)).length ((lv X (7 - k)).map (Value.int .i64)) → _) := fun w3 g2 hb o2 => lg_app hI (w3 := w3) ⟨hb.os, hb.tape, hb.output, hb.size, hb.block⟩ o2 hle (by omega) 39
    have c0 := hI.box.cell 0
    rw [World.size_alloc, World.size_alloc] at hsz ⊢
    have HW : Hid (w.heap.size + 1 + 1 + 1 < W.heap.size) := hsz.lt
    have HT : Hid (Tws (w.heap.size + 1 + 1) W) := hsz
    unfold pt
    rw [show gth X (k + 1) = gth X k ++ lv X (7 - k) from rfl]
    clear q hI hle hsz G0
    obtain ⟨G, hG⟩ : ∃ G, gth X k = G := ⟨_, rfl⟩
    obtain ⟨L, hL⟩ : ∃ L, lv X (7 - k) = L := ⟨_, rfl⟩
    rw [hG, hL] at AP
    rw [hL] at C
    rw [hG] at c0
    rw [hG, hL]
    clear hG hL
    generalize G.length = gl at *
    generalize L.length = ll at *
    gi_wp2
    refine wpIn_region_any (by assumption) ?_
    try (change wpAnyIn _ _ _ _ _ _ _ _ _ (World.drew _))
    refine wpAnyIn_ready (rs := [0, 1]) (by kernel_rfl) (by simp) (AllReadyIn.cons rfl (fun K hK => ?_) (AllReadyIn.cons rfl (fun K hK => ?_) AllReadyIn.nil))
    · go_simp
      refine hK _ _ ?_
      clear hK K
      refine wpAnyIn_ready (rs := [1]) (by kernel_rfl) (by simp) (AllReadyIn.cons rfl (fun K hK => ?_) AllReadyIn.nil)
      go_simp
      refine hK _ _ ?_
      clear hK K
      refine wpAnyIn_ready (rs := [2]) (by kernel_rfl) (by simp) (AllReadyIn.cons rfl (fun K hK => ?_) AllReadyIn.nil)
      go_simp
      refine ⟨trivial, ?_⟩
      refine (CallsIn.inRound l (callsIn_wide.2 (C.out ()))).mono ?_
      rintro e w3 ⟨v, g2, rfl, rfl, o3, b3⟩
      obtain ⟨g', cap', w4, hrun, hc4, hf4, L4, T4⟩ := AP.out w3 g2 b3 o3
      have c03 := (b3.cell (p := ⟨w.heap.size + 1, 0, none⟩) (by have := HW.out; show w.heap.size + 1 < W.heap.size; omega)).trans c0
      refine hK _ _ ?_
      clear hK K
      refine wpAnyIn_ready (rs := [3]) (by kernel_rfl) (by simp) (AllReadyIn.cons rfl (fun K hK => ?_) AllReadyIn.nil)
      refine step_append_in rfl (.tmp 15) (.tmp 17) 39 rfl (by simp [Act.eval]) (by simp [Act.eval]) hrun ?_
      refine hK _ _ ?_
      clear hK K
      refine wpAnyIn_ready (rs := [4]) (by kernel_rfl) (by simp) (AllReadyIn.cons rfl (fun K hK => ?_) AllReadyIn.nil)
      go_simp
      refine hK _ _ ?_
      clear hK K
      refine wpAnyIn_done (by kernel_rfl) ?_ _
      gi_wp2
      exact ⟨HT.out.keep T4, _, _, L4⟩
    · go_simp
      refine hK _ _ ?_
      clear hK K
      refine wpAnyIn_ready (rs := [0, 2]) (by kernel_rfl) (by simp) (AllReadyIn.cons rfl (fun K hK => ?_) (AllReadyIn.cons rfl (fun K hK => ?_) AllReadyIn.nil))
      · go_simp
        refine hK _ _ ?_
        clear hK K
        refine wpAnyIn_ready (rs := [2]) (by kernel_rfl) (by simp) (AllReadyIn.cons rfl (fun K hK => ?_) AllReadyIn.nil)
        go_simp
        refine ⟨trivial, ?_⟩
        refine (CallsIn.inRound l (callsIn_wide.2 (C.out ()))).mono ?_
        rintro e w3 ⟨v, g2, rfl, rfl, o3, b3⟩
        obtain ⟨g', cap', w4, hrun, hc4, hf4, L4, T4⟩ := AP.out w3 g2 b3 o3
        have c03 := (b3.cell (p := ⟨w.heap.size + 1, 0, none⟩) (by have := HW.out; show w.heap.size + 1 < W.heap.size; omega)).trans c0
        refine hK _ _ ?_
        clear hK K
        refine wpAnyIn_ready (rs := [3]) (by kernel_rfl) (by simp) (AllReadyIn.cons rfl (fun K hK => ?_) AllReadyIn.nil)
        refine step_append_in rfl (.tmp 15) (.tmp 17) 39 rfl (by simp [Act.eval]) (by simp [Act.eval]) hrun ?_
        refine hK _ _ ?_
        clear hK K
        refine wpAnyIn_ready (rs := [4]) (by kernel_rfl) (by simp) (AllReadyIn.cons rfl (fun K hK => ?_) AllReadyIn.nil)
        go_simp
        refine hK _ _ ?_
        clear hK K
        refine wpAnyIn_done (by kernel_rfl) ?_ _
        gi_wp2
        exact ⟨HT.out.keep T4, _, _, L4⟩
      · go_simp
        refine ⟨trivial, ?_⟩
        refine (CallsIn.inRound l (callsIn_wide.2 (C.out ()))).mono ?_
        rintro e w3 ⟨v, g2, rfl, rfl, o3, b3⟩
        obtain ⟨g', cap', w4, hrun, hc4, hf4, L4, T4⟩ := AP.out w3 g2 b3 o3
        have c03 := (b3.cell (p := ⟨w.heap.size + 1, 0, none⟩) (by have := HW.out; show w.heap.size + 1 < W.heap.size; omega)).trans c0
        refine hK _ _ ?_
        clear hK K
        refine wpAnyIn_ready (rs := [0]) (by kernel_rfl) (by simp) (AllReadyIn.cons rfl (fun K hK => ?_) AllReadyIn.nil)
        go_simp
        refine hK _ _ ?_
        clear hK K
        refine wpAnyIn_ready (rs := [3]) (by kernel_rfl) (by simp) (AllReadyIn.cons rfl (fun K hK => ?_) AllReadyIn.nil)
        refine step_append_in rfl (.tmp 15) (.tmp 17) 39 rfl (by simp [Act.eval]) (by simp [Act.eval]) hrun ?_
        refine hK _ _ ?_
        clear hK K
        refine wpAnyIn_ready (rs := [4]) (by kernel_rfl) (by simp) (AllReadyIn.cons rfl (fun K hK => ?_) AllReadyIn.nil)
        go_simp
        refine hK _ _ ?_
        clear hK K
        refine wpAnyIn_done (by kernel_rfl) ?_ _
        gi_wp2
        exact ⟨HT.out.keep T4, _, _, L4⟩
  case done =>
    rintro W ⟨g, cap, hI⟩ hK
    rw [World.size_alloc, World.size_alloc] at hK ⊢
    have c0 := hI.box.cell 0
    obtain ⟨g5, cap5, L5⟩ : ∃ g5 cap5, LG w (w.heap.size + 1) (W.putObj (w.heap.size + 1 + 1) (.deferred none)) g5 cap5 (gth X 8) := (abd_lg (B := w.heap.size + 1 + 1) (by omega)).turn W _ _ _ (Nat.le_refl _) hK rfl ⟨g, cap, hI⟩
    have E5 : g5 = g ∧ cap5 = cap := by
      have a := L5.box.cell 0
      have b := (blk_put hI.box hK (.deferred none)).cell 0
      rw [a] at b
      simp at b
      exact b
    obtain ⟨rfl, rfl⟩ := E5
    have O5 := L5.own
    have B5 := L5.bel
    rw [show gth X 8 = cat X from rfl] at O5 c0
    clear hI L5 G0
    gi_wp2
    refine ⟨by simp, .inl ⟨_, _, rfl, run_takeDeferred hK, ?_⟩⟩
    exact ⟨_, results_tmp rfl _ _ _, .slice (some ⟨g5, 0, none⟩) (cat X).length cap5, rfl, O5, B5⟩
  case stop =>
    intro W h _
    exact h.elim
end Go.Proofs.YtpmjojemcpgpiaaDoor
