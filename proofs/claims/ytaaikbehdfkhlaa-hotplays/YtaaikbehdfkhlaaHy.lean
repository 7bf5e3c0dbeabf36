/- What Next of the document's desk answers and leaves, for every desk. -/
import Derived.Test.YtaaikbehdfkhlaaHv
import Derived.Test.YtaaikbehdfkhlaaHt
namespace Go.Proofs.Ytaaikbehdfkhlaa
open Go.ChangeShapes Go.WideShapes Go.ChangeAt Go.RowKit
open Rm Hp

theorem rnext_ret {w : World} {z : Nat} {k e : Int} {u f : Bool} {tmps : Array Value} (h : Blk w z [.int .i64 k, .bool u, .bool f] 56) (h2 : tmps.getD 2 undef = .pointer (some ⟨z, 0, none⟩)) (h3 : tmps.getD 3 undef = .int .i64 e) :
    (results Try.f27 tmps).run Try.prog w = .ok (.tuple #[stv k u f, .int .i64 e]) w := by
  have q0 : w.cell? ⟨z, 0, none⟩ = some (.int .i64 k) := h.cell 0
  have q1 : w.cell? ⟨z, 1, none⟩ = some (.bool u) := h.cell 1
  have q2 : w.cell? ⟨z, 2, none⟩ = some (.bool f) := h.cell 2
  rw [results_cell_tmp (p := 2) (u := 3) (ty := 56) rfl, h2, h3]
  simp [go_sem, q0, q1, q2, stv]
theorem rnext_fin {w X : World} {r z N : Nat} {Y Y' : List Nat} {R : Option Rq} {P : Int → Bool} (e : w.heap.size = z) (h : DD X r Y' R P N) (m : My w X Y Y') (hz : z ∉ Y') (v0 v1 v2 : Value) :
    ∃ Y'', DD (((X.setCell ⟨z, 0, none⟩ v0).setCell ⟨z, 1, none⟩ v1).setCell ⟨z, 2, none⟩ v2) r Y'' R P N ∧ My w (((X.setCell ⟨z, 0, none⟩ v0).setCell ⟨z, 1, none⟩ v1).setCell ⟨z, 2, none⟩ v2) Y Y'' :=
  ⟨Y', h.keep (fr_3 (Fr.refl X.heap.size [z] X) (Or.inr (by simp)) v0 v1 v2) (Nat.le_refl _) (fun k hk => by simp; exact fun e => hz (e ▸ hk)), fr_3 m.1 (Or.inl (by omega)) v0 v1 v2, m.2⟩

/-- What the walk meets where the stage does not fail: the world behind the store of told. -/
theorem rn_tell {w wa : World} {r z N x l : Nat} {Y : List Nat} {nv v : Value} {t : Bool} {L : List Int} {q q' : Rq} {P : Int → Bool} {kk : Int} {bb : Bool} (_ : w.heap.size = z) (h1 : DD1 wa r Y nv t v L (some q) P N) (fa : Fr w.heap.size Y w wa) (kz : Blk wa z zs3 56) (hl : ∀ k ∈ Y, k < z)
    (en : nv = .pointer (some ⟨x, 0, none⟩)) (k : RD wa x l (nn q.up) q.d q.bk) (hx : x ∈ Y) (hy : l ∈ Y) (e : q'.up = q.up ∧ q'.cpu = q.cpu ∧ q'.co = q.co ∧ q'.d = q.d ∧ q'.bk = q.bk) (tel : Tel q' true) :
    (wa.alloc (.cells #[.int .i64 (kk : Int), .bool bb, .bool false] 56)).cell? ⟨r, 4, none⟩ = some (.bool t) ∧ (wa.alloc (.cells #[.int .i64 (kk : Int), .bool bb, .bool false] 56)).frozen? ⟨r, 4, none⟩ = false ∧ (wa.alloc (.cells #[.int .i64 (kk : Int), .bool bb, .bool false] 56)).cell? ⟨r, 5, none⟩ = some v ∧ Lv (wa.alloc (.cells #[.int .i64 (kk : Int), .bool bb, .bool false] 56)) v L ∧
    Blk ((wa.alloc (.cells #[.int .i64 (kk : Int), .bool bb, .bool false] 56)).setCell ⟨r, 4, none⟩ (.bool true)) z zs3 56 ∧ Blk ((wa.alloc (.cells #[.int .i64 (kk : Int), .bool bb, .bool false] 56)).setCell ⟨r, 4, none⟩ (.bool true)) wa.heap.size [.int .i64 kk, .bool bb, .bool false] 56 ∧
    DD ((wa.alloc (.cells #[.int .i64 (kk : Int), .bool bb, .bool false] 56)).setCell ⟨r, 4, none⟩ (.bool true)) r Y (some q') P N ∧ My w ((wa.alloc (.cells #[.int .i64 (kk : Int), .bool bb, .bool false] 56)).setCell ⟨r, 4, none⟩ (.bool true)) Y Y := by
  have fb : Fr wa.heap.size [] wa (wa.alloc (.cells #[.int .i64 (kk : Int), .bool bb, .bool false] 56)) := (Fr.refl _ _ _).alloc (Nat.le_refl _) _
  have h2 := h1.keep fb (Nat.le_refl _) (by simp)
  have kb : Blk (wa.alloc (.cells #[.int .i64 (kk : Int), .bool bb, .bool false] 56)) wa.heap.size [.int .i64 kk, .bool bb, .bool false] 56 := Blk.new wa _ _
  have kz2 := kz.keep fb kz.lt (by simp)
  have k2 := k.keep fb k.sb.lt (by simp) k.sl.lt (by simp)
  have n1 : r ≠ x := h2.sb.ne k2.sb (by decide)
  have n2 : r ≠ l := h2.sb.ne k2.sl (by decide)
  have n3 : z ≠ r := by have := hl r h1.ry; omega
  have n4 : wa.heap.size ≠ r := by have := h1.sb.lt; omega
  have fs : Fr (wa.alloc (.cells #[.int .i64 (kk : Int), .bool bb, .bool false] 56)).heap.size [r] (wa.alloc (.cells #[.int .i64 (kk : Int), .bool bb, .bool false] 56)) ((wa.alloc (.cells #[.int .i64 (kk : Int), .bool bb, .bool false] 56)).setCell ⟨r, 4, none⟩ (.bool true)) := (Fr.refl _ _ _).setCell (Or.inr (by simp)) _
  have k3 := k2.keep fs k2.sb.lt (by simp; exact fun e => n1 e.symm) k2.sl.lt (by simp; exact fun e => n2 e.symm)
  obtain ⟨e1, e2, e3, e4, e5⟩ := e
  obtain ⟨h3, f3⟩ := dd_told (x := true) (R' := some q') h2 ⟨x, l, en, by rw [e1, e4, e5]; exact k3, hx, hy, tel⟩ ⟨e1, e2, e3⟩
  have hw : w.heap.size ≤ wa.heap.size := fa.size
  exact ⟨h2.c4, h2.f 4, h2.c5, h2.lv, kz2.keep fs kz2.lt (by simp; exact n3), kb.keep fs kb.lt (by simp; exact n4), ⟨_, _, _, _, h3⟩, (fa.trans (fb.mono hw (by simp))).trans (f3.less (Nat.le_trans hw fb.size)), fun _ h => Or.inl h⟩

set_option maxRecDepth 100000 in
set_option maxHeartbeats 4000000 in
theorem rnext_any {r : Nat} {Y : List Nat} {R : Option Rq} {P : Int → Bool} {N : Nat} (w : World) (h : DD w r Y R P N) (hn : N ≤ 900) :
    Calls Try.prog 27 #[.pointer (some ⟨r, 0, none⟩)] w fun e w' => e = .returned (.tuple #[stv ((nxK R : Nat) : Int) (nxU R) (nxF P R), .int .i64 (nxE R)]) ∧ ∃ Y', DD w' r Y' (nxR P R) (nxP P R) N ∧ My w w' Y Y' := by
  obtain ⟨nv, t, v, L, h⟩ := h
  obtain ⟨wa, hwa⟩ : ∃ wa, w.alloc (.cells #[.int .i64 0, .bool false, .bool false] 56) = wa := ⟨_, rfl⟩
  have HWA : Hid (w.alloc (.cells #[.int .i64 0, .bool false, .bool false] 56) = wa) := hwa
  have bl : Below w.heap.size w wa := hwa ▸ (Below.refl _ _).alloc (Nat.le_refl _) _
  have kz : Blk wa w.heap.size zs3 56 := hwa ▸ Blk.new w zs3 _
  have h1 := h.keep (Fr.of_below bl) (Nat.le_refl _) (by simp)
  have HL : Hid (∀ k ∈ Y, k < w.heap.size) := h.lt
  have ZL : Hid (∀ (X : World) (Y' : List Nat) (R : Option Rq) (P : Int → Bool), DD X r Y' R P N → My w X Y Y' → w.heap.size ∉ Y' → ∀ v0 v1 v2, ∃ Y'', DD (((X.setCell ⟨w.heap.size, 0, none⟩ v0).setCell ⟨w.heap.size, 1, none⟩ v1).setCell ⟨w.heap.size, 2, none⟩ v2) r Y'' R P N ∧ My w (((X.setCell ⟨w.heap.size, 0, none⟩ v0).setCell ⟨w.heap.size, 1, none⟩ v1).setCell ⟨w.heap.size, 2, none⟩ v2) Y Y'') := fun X Y' R P h m hz => rnext_fin rfl h m hz
  have FA : Hid (Fr w.heap.size Y w wa ∧ w.heap.size ≤ wa.heap.size) := ⟨(Fr.of_below bl).mono (Nat.le_refl _) (by simp), bl.size⟩
  have V : Hid (∀ _ : Unit, _) := fun _ => rmay_any wa ⟨_, _, _, _, h1⟩
  obtain ⟨z, hz⟩ : ∃ z, w.heap.size = z := ⟨_, rfl⟩
  have HZ : Hid (w.heap.size = z) := hz
  rw [hz] at kz ZL HL
  have NZ : Hid (z ∉ Y) := fun e => Nat.lt_irrefl _ (HL.out z e)
  have KZ : Hid (Blk wa z zs3 56) := kz
  have KB : Hid (∀ v0 v1 v2 : Value, _) := blk_three kz
  have z0 : wa.cell? ⟨z, 0, none⟩ = some (.int .i64 0) := kz.cell 0
  have z1 : wa.cell? ⟨z, 1, none⟩ = some (.bool false) := kz.cell 1
  have z2 : wa.cell? ⟨z, 2, none⟩ = some (.bool false) := kz.cell 2
  have f0 := kz.free 0
  have f1 := kz.free 1
  have f2 := kz.free 2
  have c0 := h1.c0
  have dn := h1.dn
  have MA : Hid (My w wa Y Y) := ⟨FA.out.1, fun _ h => Or.inl h⟩
  clear hwa bl hz kz h
  cases R with
  | none =>
    obtain rfl : nv = .pointer none := dn
    have G : Hid (∀ v0 v1 v2 : Value, _) := ZL.out wa Y none P ⟨_, _, _, _, h1⟩ MA.out NZ.out
    rw [show nxE none = 12 from rfl] at V
    show Calls _ _ _ _ fun e w' => e = .returned (.tuple #[stv 0 false false, .int .i64 12]) ∧ ∃ Y', DD w' r Y' none P N ∧ My w w' Y Y'
    clear h1 c0 HL ZL FA KZ MA NZ
    go_enter Try.func27, Try.ntmps27
    go_wp2_with fail
    rw [HWA.out, HZ.out]
    refine (V.out ()).mono ?_
    rintro e w1 ⟨rfl, rfl⟩
    go_wp2
    exact bodyPost_ret (rnext_ret (KB.out _ _ _) rfl rfl) rfl ⟨rfl, G.out _ _ _⟩
  | some q =>
    obtain ⟨x, l, rfl, k, hx, hy, tel⟩ := dn
    have A : Hid (∀ _ : Unit, _) := fun _ => dat_any wa k
    unfold nxE at V
    unfold nxK nxU nxF nxE nxR nxP
    dsimp only at V ⊢
    cases eo : ov (nn q.up) q.d q.bk
    · rw [eo, if_neg (by simp)] at V
      clear z0 z1 z2 f0 f1 f2 KB
      cases eb : q.bk
      · -- forward
        have hdn : q.d < nn q.up := by
          have := k.dn
          rw [eb] at eo
          unfold ov at eo
          simp at eo
          omega
        have et : t = q.told := tel eb hdn
        have hn10 := nn_le q.up
        have hd10 : (q.d : Int) ≤ 10 := by omega
        have efl : fls P q = (P q.d && !t) := by
          unfold fls
          rw [eo, eb, et]
          simp
        have enx : nxr P q = ⟨q.up, q.cpu, q.co, q.d, P q.d && !t, true⟩ := by
          unfold nxr
          rw [eo, eb, efl]
          simp
        have hpl : P q.d = decide ((q.d : Int) ∈ L) := h1.pl _
        rw [eo, eb, at_f hdn] at A
        rw [efl, enx, at_f hdn]
        cases t
        · by_cases hm : (q.d : Int) ∈ L
          · -- it fails
            rw [hpl, decide_eq_true hm]
            show Calls _ _ _ _ fun e w' => e = .returned (.tuple #[stv (q.d : Int) false true, .int .i64 0]) ∧ ∃ Y', DD w' r Y' (some ⟨q.up, q.cpu, q.co, q.d, true, true⟩) (fun j => !decide (j = (q.d : Int)) && P j) N ∧ My w w' Y Y'
            have fb : Fr wa.heap.size [] wa (wa.alloc (.cells #[.int .i64 (q.d : Int), .bool false, .bool false] 56)) := (Fr.refl _ _ _).alloc (Nat.le_refl _) _
            have h2 := h1.keep fb (Nat.le_refl _) (by simp)
            have kb : Blk (wa.alloc (.cells #[.int .i64 (q.d : Int), .bool false, .bool false] 56)) wa.heap.size [.int .i64 (q.d : Int), .bool false, .bool false] 56 := Blk.new wa _ _
            have kz2 := KZ.out.keep fb KZ.out.lt (by simp)
            have zb : wa.heap.size < (wa.alloc (.cells #[.int .i64 (q.d : Int), .bool false, .bool false] 56)).heap.size := kb.lt
            have C1 : Hid (∀ _ : Unit, _) := fun _ => rhas_any L v (q.d : Int) (wa.alloc (.cells #[.int .i64 (q.d : Int), .bool false, .bool false] 56)) (by have := h1.ln; omega) h2.lv.row
            rw [decide_eq_true hm] at C1
            have C2 : Hid (∀ _ : Unit, _) := fun _ => without_any L v (q.d : Int) (wa.alloc (.cells #[.int .i64 (q.d : Int), .bool false, .bool false] 56)) (by have := h1.ln; omega) h2.lv.row
            have FL : Hid (∀ w, RD w x l (nn q.up) q.d false → _) := fun w k => dfail_any w k
            rw [show flE (nn q.up) q.d false = 0 by simp [flE, ov_f hdn], show flB (nn q.up) q.d false = true by simp [flB, ov_f hdn]] at FL
            have HB : Hid (q.bk = false) := eb
            have D : Hid (∀ w2 v', Gt (wa.alloc (.cells #[.int .i64 (q.d : Int), .bool false, .bool false] 56)) w2 v' (Fm.wo L (q.d : Int)) → ∃ p n c, v' = .slice p n c ∧ w2.cell? ⟨r, 5, none⟩ = some v ∧ w2.frozen? ⟨r, 5, none⟩ = false ∧ (w2.setCell ⟨r, 5, none⟩ v').cell? ⟨r, 0, none⟩ = some (.pointer (some ⟨x, 0, none⟩)) ∧ RD (w2.setCell ⟨r, 5, none⟩ v') x l (nn q.up) q.d false ∧ ∀ w4, RD w4 x l (nn q.up) q.d true → Fr (w2.setCell ⟨r, 5, none⟩ v').heap.size [x, l] (w2.setCell ⟨r, 5, none⟩ v') w4 → w4.cell? ⟨wa.heap.size, 2, none⟩ = some (.bool false) ∧ w4.frozen? ⟨wa.heap.size, 2, none⟩ = false ∧ (w4.setCell ⟨wa.heap.size, 2, none⟩ (.bool true)).cell? ⟨r, 4, none⟩ = some (.bool false) ∧ (w4.setCell ⟨wa.heap.size, 2, none⟩ (.bool true)).frozen? ⟨r, 4, none⟩ = false ∧ Blk ((w4.setCell ⟨wa.heap.size, 2, none⟩ (.bool true)).setCell ⟨r, 4, none⟩ (.bool true)) wa.heap.size [.int .i64 (q.d : Int), .bool false, .bool true] 56 ∧ Blk ((w4.setCell ⟨wa.heap.size, 2, none⟩ (.bool true)).setCell ⟨r, 4, none⟩ (.bool true)) z zs3 56 ∧ ∃ Y', DD ((w4.setCell ⟨wa.heap.size, 2, none⟩ (.bool true)).setCell ⟨r, 4, none⟩ (.bool true)) r Y' (some ⟨q.up, q.cpu, q.co, q.d, true, true⟩) (fun j => !decide (j = (q.d : Int)) && P j) N ∧ My w ((w4.setCell ⟨wa.heap.size, 2, none⟩ (.bool true)).setCell ⟨r, 4, none⟩ (.bool true)) Y Y' ∧ z ∉ Y') := fun w2 v' g => by
              obtain ⟨p, c, ev⟩ := own_shape g.own
              obtain ⟨lv', new⟩ := lv_own g.own
              obtain ⟨a1, a2, h3, m3⟩ := dd_list (N' := N) h2 (Fr.of_below g.bel) (by simp) lv' (fun j hj => Or.inr (new j hj)) (pl_del (k := (q.d : Int)) h1.pl) (Nat.le_trans (Fm.wo_le _ _) h1.ln)
              have HY : ∀ j ∈ vb v' ++ Y, (j ∈ Y ∧ j < z) ∨ (wa.alloc (.cells #[.int .i64 (q.d : Int), .bool false, .bool false] 56)).heap.size ≤ j := fun j hj => by
                rcases List.mem_append.1 hj with e | e
                · exact Or.inr (new j e)
                · exact Or.inl ⟨e, HL.out j e⟩
              have zw : z < wa.heap.size := KZ.out.lt
              have n0 : r ∉ vb v' := fun e => by have := new r e; have := h1.sb.lt; omega
              obtain ⟨x2, l2, e2, k3, _, _, _⟩ := h3.dn
              cases e2
              have kk : RD (w2.setCell ⟨r, 5, none⟩ v') x l (nn q.up) q.d false := by
                have n1 : r ≠ x := h1.sb.ne k.sb (by decide)
                have n2 : r ≠ l := h1.sb.ne k.sl (by decide)
                have := ((k.keep fb k.sb.lt (by simp) k.sl.lt (by simp)).keep (Fr.of_below g.bel) (Nat.lt_of_lt_of_le k.sb.lt fb.size) (by simp) (Nat.lt_of_lt_of_le k.sl.lt fb.size) (by simp))
                have fs : Fr w2.heap.size [r] w2 (w2.setCell ⟨r, 5, none⟩ v') := (Fr.refl _ _ _).setCell (Or.inr (by simp)) _
                have := this.keep fs this.sb.lt (by simp; exact fun e => n1 e.symm) this.sl.lt (by simp; exact fun e => n2 e.symm)
                rw [HB.out] at this
                exact this
              refine ⟨p, _, c, ev, a1, a2, h3.c0, kk, fun w4 rn f4 => ?_⟩
              have n1 : r ≠ x := h3.sb.ne kk.sb (by decide)
              have n2 : r ≠ l := h3.sb.ne kk.sl (by decide)
              have n3 : x ∉ vb v' := h3.lv.not kk.sb (by decide)
              have n4 : l ∉ vb v' := h3.lv.not kk.sl (by decide)
              obtain ⟨h4, g4⟩ := dd_run (R' := some ⟨q.up, q.cpu, q.co, q.d, true, true⟩) h3 f4 (List.mem_append_right _ hx) (List.mem_append_right _ hy) n1 n2 n3 n4 ⟨x, l, rfl, rn, List.mem_append_right _ hx, List.mem_append_right _ hy, fun e => by cases e⟩ ⟨rfl, rfl, rfl⟩
              have NW : wa.heap.size ∉ vb v' ++ Y := fun e => by
                rcases HY _ e with e | e
                · have := e.2
                  omega
                · omega
              have NZ2 : z ∉ vb v' ++ Y := fun e => by
                rcases HY _ e with e | e
                · have := e.2
                  omega
                · omega
              have s2 := g.bel.size
              have kbw : Blk (w2.setCell ⟨r, 5, none⟩ v') wa.heap.size [.int .i64 (q.d : Int), .bool false, .bool false] 56 := (kb.keep (Fr.of_below g.bel) kb.lt (by simp)).other (p := ⟨r, 5, none⟩) (by have := h1.sb.lt; show wa.heap.size ≠ r; omega) _
              have kzw : Blk (w2.setCell ⟨r, 5, none⟩ v') z zs3 56 := (kz2.keep (Fr.of_below g.bel) kz2.lt (by simp)).other (p := ⟨r, 5, none⟩) (by have := HL.out r h1.ry; show z ≠ r; omega) _
              have kb4 := kbw.keep f4 kbw.lt (by simp; exact ⟨kbw.ne kk.sb (by decide), kbw.ne kk.sl (by decide)⟩)
              have kz4 := kzw.keep f4 kzw.lt (by simp; exact ⟨kzw.ne kk.sb (by decide), kzw.ne kk.sl (by decide)⟩)
              have f5 : Fr w4.heap.size [wa.heap.size] w4 (w4.setCell ⟨wa.heap.size, 2, none⟩ (.bool true)) := (Fr.refl _ _ _).setCell (Or.inr (by simp)) _
              have h5 := h4.keep f5 (Nat.le_refl _) (fun j hj => by simp; exact fun e => NW (e ▸ hj))
              have kb5 := kb4.set 2 (.bool true)
              have kz5 := kz4.other (p := ⟨wa.heap.size, 2, none⟩) (show z ≠ wa.heap.size by omega) (.bool true)
              have fs : Fr (w4.setCell ⟨wa.heap.size, 2, none⟩ (.bool true)).heap.size [r] (w4.setCell ⟨wa.heap.size, 2, none⟩ (.bool true)) ((w4.setCell ⟨wa.heap.size, 2, none⟩ (.bool true)).setCell ⟨r, 4, none⟩ (.bool true)) := (Fr.refl _ _ _).setCell (Or.inr (by simp)) _
              have rn5 : RD (w4.setCell ⟨wa.heap.size, 2, none⟩ (.bool true)) x l (nn q.up) q.d true := rn.keep f5 rn.sb.lt (by simp; exact rn.sb.ne kb4 (by decide)) rn.sl.lt (by simp; exact rn.sl.ne kb4 (by decide))
              have rn6 := rn5.keep fs rn5.sb.lt (by simp; exact fun e => n1 e.symm) rn5.sl.lt (by simp; exact fun e => n2 e.symm)
              obtain ⟨h6, g6⟩ := dd_told (x := true) (R' := some ⟨q.up, q.cpu, q.co, q.d, true, true⟩) h5 ⟨x, l, rfl, rn6, List.mem_append_right _ hx, List.mem_append_right _ hy, fun e => by cases e⟩ ⟨rfl, rfl, rfl⟩
              refine ⟨kb4.cell 2, kb4.free 2, h5.c4, h5.f 4, kb5.other (p := ⟨r, 4, none⟩) (by have := h1.sb.lt; show wa.heap.size ≠ r; omega) _, kz5.other (p := ⟨r, 4, none⟩) (by have := HL.out r h1.ry; show z ≠ r; omega) _, vb v' ++ Y, ⟨_, _, _, _, h6⟩, ⟨?_, fun j hj => ?_⟩, NZ2⟩
              · have s0 := FA.out.2
                have sb := fb.size
                have s3 := m3.1.size
                have s4 := f4.size
                have s5 := f5.size
                have b1 : Fr w.heap.size Y w (wa.alloc (.cells #[.int .i64 (q.d : Int), .bool false, .bool false] 56)) := FA.out.1.trans (fb.mono s0 (by simp))
                have b2 := b1.trans (m3.1.less (Nat.le_trans s0 sb))
                have b3 : Fr w.heap.size Y (w2.setCell ⟨r, 5, none⟩ v') w4 := f4.mono (by omega) fun j hj1 hj2 hm2 => by
                  simp at hm2
                  rcases hm2 with e | e
                  · exact hj2 (e ▸ hx)
                  · exact hj2 (e ▸ hy)
                have b5 : Fr w.heap.size Y w4 (w4.setCell ⟨wa.heap.size, 2, none⟩ (.bool true)) := f5.mono (by omega) fun j hj1 hj2 hm2 => by
                  simp at hm2
                  omega
                have b6 : Fr w.heap.size Y (w4.setCell ⟨wa.heap.size, 2, none⟩ (.bool true)) ((w4.setCell ⟨wa.heap.size, 2, none⟩ (.bool true)).setCell ⟨r, 4, none⟩ (.bool true)) := fs.mono (by omega) fun j hj1 hj2 hm2 => by
                  simp at hm2
                  exact hj2 (hm2 ▸ h1.ry)
                exact ((b2.trans b3).trans b5).trans b6
              · rcases HY j hj with e | e
                · exact Or.inl e.1
                · have := FA.out.2
                  have := fb.size
                  exact Or.inr (by omega)
            have t4 := h2.c4
            have t5 := h2.c5
            obtain ⟨a0, cap0, ev⟩ := h1.lv.shape
            generalize hdd : q.d = dd at *
            clear h1 h2 k kb kz2 fb zb eo eb et efl enx hpl hm hdn hn10 MA FA KZ HL NZ HB
            subst ev
            go_enter Try.func27, Try.ntmps27
            go_wp2_with fail
            rw [HWA.out, HZ.out]
            refine (V.out ()).mono ?_
            rintro e w1 ⟨rfl, rfl⟩
            go_wp2_with fail
            refine (A.out ()).mono ?_
            rintro e w1 ⟨rfl, rfl⟩
            go_wp2_with fail
            refine (C1.out ()).mono ?_
            rintro e w1 ⟨rfl, rfl⟩
            go_wp2_with fail
            refine (C2.out ()).mono ?_
            rintro e w2 ⟨v', rfl, g2⟩
            obtain ⟨p, n', c', rfl, b5, b6, b0, rn2, nx⟩ := D.out _ _ g2
            have FL2 : Hid (∀ _ : Unit, _) := fun _ => FL.out _ rn2
            have NX : Hid _ := nx
            clear g2 D FL rn2 nx C1 C2
            go_wp2_with fail
            refine (FL2.out ()).mono ?_
            rintro e w4 ⟨rfl, rn4, f4⟩
            obtain ⟨i1, i2, i3, i4, kb, kz, Y2, dd2, mm2, nz2⟩ := NX.out w4 rn4 f4
            have G : Hid (∀ v0 v1 v2 : Value, _) := ZL.out _ Y2 _ _ dd2 mm2 nz2
            have KB : Hid (∀ v0 v1 v2 : Value, _) := blk_three kz
            have z0 : ((w4.setCell ⟨w1.heap.size, 2, none⟩ (.bool true)).setCell ⟨r, 4, none⟩ (.bool true)).cell? ⟨z, 0, none⟩ = some (.int .i64 0) := kz.cell 0
            have z1 : ((w4.setCell ⟨w1.heap.size, 2, none⟩ (.bool true)).setCell ⟨r, 4, none⟩ (.bool true)).cell? ⟨z, 1, none⟩ = some (.bool false) := kz.cell 1
            have z2 : ((w4.setCell ⟨w1.heap.size, 2, none⟩ (.bool true)).setCell ⟨r, 4, none⟩ (.bool true)).cell? ⟨z, 2, none⟩ = some (.bool false) := kz.cell 2
            have f0 := kz.free 0
            have f1 := kz.free 1
            have f2 := kz.free 2
            have y0 : ((w4.setCell ⟨w1.heap.size, 2, none⟩ (.bool true)).setCell ⟨r, 4, none⟩ (.bool true)).cell? ⟨w1.heap.size, 0, none⟩ = some (.int .i64 (dd : Int)) := kb.cell 0
            have y1 : ((w4.setCell ⟨w1.heap.size, 2, none⟩ (.bool true)).setCell ⟨r, 4, none⟩ (.bool true)).cell? ⟨w1.heap.size, 1, none⟩ = some (.bool false) := kb.cell 1
            have y2 : ((w4.setCell ⟨w1.heap.size, 2, none⟩ (.bool true)).setCell ⟨r, 4, none⟩ (.bool true)).cell? ⟨w1.heap.size, 2, none⟩ = some (.bool true) := kb.cell 2
            clear kz kb dd2 mm2 nz2 rn4 f4 FL2 NX ZL
            go_wp2
            exact bodyPost_ret (rnext_ret (KB.out _ _ _) rfl rfl) rfl ⟨rfl, G.out _ _ _⟩
          · -- it is not planned
            rw [hpl, decide_eq_false hm]
            show Calls _ _ _ _ fun e w' => e = .returned (.tuple #[stv (q.d : Int) false false, .int .i64 0]) ∧ ∃ Y', DD w' r Y' (some ⟨q.up, q.cpu, q.co, q.d, false, true⟩) P N ∧ My w w' Y Y'
            obtain ⟨t4, e4, t5, lv2, kz, kb, dd, mm⟩ := rn_tell (kk := (q.d : Int)) (bb := false) (q' := ⟨q.up, q.cpu, q.co, q.d, false, true⟩) HZ.out h1 FA.out.1 KZ.out HL.out rfl k hx hy ⟨rfl, rfl, rfl, rfl, eb.symm⟩ (fun _ _ => rfl)
            have G : Hid (∀ v0 v1 v2 : Value, _) := ZL.out _ Y _ P dd mm NZ.out
            have KB : Hid (∀ v0 v1 v2 : Value, _) := blk_three kz
            have z0 : ((wa.alloc (.cells #[.int .i64 (q.d : Int), .bool false, .bool false] 56)).setCell ⟨r, 4, none⟩ (.bool true)).cell? ⟨z, 0, none⟩ = some (.int .i64 0) := kz.cell 0
            have z1 : ((wa.alloc (.cells #[.int .i64 (q.d : Int), .bool false, .bool false] 56)).setCell ⟨r, 4, none⟩ (.bool true)).cell? ⟨z, 1, none⟩ = some (.bool false) := kz.cell 1
            have z2 : ((wa.alloc (.cells #[.int .i64 (q.d : Int), .bool false, .bool false] 56)).setCell ⟨r, 4, none⟩ (.bool true)).cell? ⟨z, 2, none⟩ = some (.bool false) := kz.cell 2
            have f0 := kz.free 0
            have f1 := kz.free 1
            have f2 := kz.free 2
            have y0 : ((wa.alloc (.cells #[.int .i64 (q.d : Int), .bool false, .bool false] 56)).setCell ⟨r, 4, none⟩ (.bool true)).cell? ⟨wa.heap.size, 0, none⟩ = some (.int .i64 (q.d : Int)) := kb.cell 0
            have y1 : ((wa.alloc (.cells #[.int .i64 (q.d : Int), .bool false, .bool false] 56)).setCell ⟨r, 4, none⟩ (.bool true)).cell? ⟨wa.heap.size, 1, none⟩ = some (.bool false) := kb.cell 1
            have y2 : ((wa.alloc (.cells #[.int .i64 (q.d : Int), .bool false, .bool false] 56)).setCell ⟨r, 4, none⟩ (.bool true)).cell? ⟨wa.heap.size, 2, none⟩ = some (.bool false) := kb.cell 2
            have C1 : Hid (∀ _ : Unit, _) := fun _ => rhas_any L v (q.d : Int) (wa.alloc (.cells #[.int .i64 (q.d : Int), .bool false, .bool false] 56)) (by have := h1.ln; omega) lv2.row
            rw [decide_eq_false hm] at C1
            generalize hdd : q.d = dd at *
            clear efl enx hpl hm hdn hn10 et lv2
            clear h1 k eo eb MA HL FA KZ NZ ZL kz kb dd mm
            go_enter Try.func27, Try.ntmps27
            go_wp2_with fail
            rw [HWA.out, HZ.out]
            refine (V.out ()).mono ?_
            rintro e w1 ⟨rfl, rfl⟩
            go_wp2_with fail
            refine (A.out ()).mono ?_
            rintro e w1 ⟨rfl, rfl⟩
            go_wp2_with fail
            refine (C1.out ()).mono ?_
            rintro e w1 ⟨rfl, rfl⟩
            go_wp2
            exact bodyPost_ret (rnext_ret (KB.out _ _ _) rfl rfl) rfl ⟨rfl, G.out _ _ _⟩
        · -- it was told
          rw [show (P q.d && !true) = false by simp]
          show Calls _ _ _ _ fun e w' => e = .returned (.tuple #[stv (q.d : Int) false false, .int .i64 0]) ∧ ∃ Y', DD w' r Y' (some ⟨q.up, q.cpu, q.co, q.d, false, true⟩) P N ∧ My w w' Y Y'
          obtain ⟨t4, e4, t5, lv2, kz, kb, dd, mm⟩ := rn_tell (kk := (q.d : Int)) (bb := false) (q' := ⟨q.up, q.cpu, q.co, q.d, false, true⟩) HZ.out h1 FA.out.1 KZ.out HL.out rfl k hx hy ⟨rfl, rfl, rfl, rfl, eb.symm⟩ (fun _ _ => rfl)
          have G : Hid (∀ v0 v1 v2 : Value, _) := ZL.out _ Y _ P dd mm NZ.out
          have KB : Hid (∀ v0 v1 v2 : Value, _) := blk_three kz
          have z0 : ((wa.alloc (.cells #[.int .i64 (q.d : Int), .bool false, .bool false] 56)).setCell ⟨r, 4, none⟩ (.bool true)).cell? ⟨z, 0, none⟩ = some (.int .i64 0) := kz.cell 0
          have z1 : ((wa.alloc (.cells #[.int .i64 (q.d : Int), .bool false, .bool false] 56)).setCell ⟨r, 4, none⟩ (.bool true)).cell? ⟨z, 1, none⟩ = some (.bool false) := kz.cell 1
          have z2 : ((wa.alloc (.cells #[.int .i64 (q.d : Int), .bool false, .bool false] 56)).setCell ⟨r, 4, none⟩ (.bool true)).cell? ⟨z, 2, none⟩ = some (.bool false) := kz.cell 2
          have f0 := kz.free 0
          have f1 := kz.free 1
          have f2 := kz.free 2
          have y0 : ((wa.alloc (.cells #[.int .i64 (q.d : Int), .bool false, .bool false] 56)).setCell ⟨r, 4, none⟩ (.bool true)).cell? ⟨wa.heap.size, 0, none⟩ = some (.int .i64 (q.d : Int)) := kb.cell 0
          have y1 : ((wa.alloc (.cells #[.int .i64 (q.d : Int), .bool false, .bool false] 56)).setCell ⟨r, 4, none⟩ (.bool true)).cell? ⟨wa.heap.size, 1, none⟩ = some (.bool false) := kb.cell 1
          have y2 : ((wa.alloc (.cells #[.int .i64 (q.d : Int), .bool false, .bool false] 56)).setCell ⟨r, 4, none⟩ (.bool true)).cell? ⟨wa.heap.size, 2, none⟩ = some (.bool false) := kb.cell 2
          generalize hdd : q.d = dd at *
          clear efl enx hpl hdn hn10 et lv2
          clear h1 k eo eb MA HL FA KZ NZ ZL kz kb dd mm
          go_enter Try.func27, Try.ntmps27
          go_wp2_with fail
          rw [HWA.out, HZ.out]
          refine (V.out ()).mono ?_
          rintro e w1 ⟨rfl, rfl⟩
          go_wp2_with fail
          refine (A.out ()).mono ?_
          rintro e w1 ⟨rfl, rfl⟩
          go_wp2
          exact bodyPost_ret (rnext_ret (KB.out _ _ _) rfl rfl) rfl ⟨rfl, G.out _ _ _⟩
      · -- back
        rw [eo, eb] at A
        have efl : fls P q = false := by unfold fls; rw [eb]; simp
        have enx : nxr P q = q := by unfold nxr; rw [eb]; simp
        rw [efl, enx, if_neg (by simp), if_neg (by simp)]
        obtain ⟨kk, hkk⟩ : ∃ kk, atK (nn q.up) q.d true = kk := ⟨_, rfl⟩
        rw [hkk] at A
        rw [hkk]
        show Calls _ _ _ _ fun e w' => e = .returned (.tuple #[stv (kk : Int) true false, .int .i64 0]) ∧ ∃ Y', DD w' r Y' (some q) P N ∧ My w w' Y Y'
        obtain ⟨t4, e4, t5, lv2, kz, kb, dd, mm⟩ := rn_tell (kk := (kk : Int)) (bb := true) (q' := q) HZ.out h1 FA.out.1 KZ.out HL.out rfl k hx hy ⟨rfl, rfl, rfl, rfl, rfl⟩ (fun e _ => by rw [eb] at e; cases e)
        have G : Hid (∀ v0 v1 v2 : Value, _) := ZL.out _ Y _ P dd mm NZ.out
        have KB : Hid (∀ v0 v1 v2 : Value, _) := blk_three kz
        have z0 : ((wa.alloc (.cells #[.int .i64 (kk : Int), .bool true, .bool false] 56)).setCell ⟨r, 4, none⟩ (.bool true)).cell? ⟨z, 0, none⟩ = some (.int .i64 0) := kz.cell 0
        have z1 : ((wa.alloc (.cells #[.int .i64 (kk : Int), .bool true, .bool false] 56)).setCell ⟨r, 4, none⟩ (.bool true)).cell? ⟨z, 1, none⟩ = some (.bool false) := kz.cell 1
        have z2 : ((wa.alloc (.cells #[.int .i64 (kk : Int), .bool true, .bool false] 56)).setCell ⟨r, 4, none⟩ (.bool true)).cell? ⟨z, 2, none⟩ = some (.bool false) := kz.cell 2
        have f0 := kz.free 0
        have f1 := kz.free 1
        have f2 := kz.free 2
        have y0 : ((wa.alloc (.cells #[.int .i64 (kk : Int), .bool true, .bool false] 56)).setCell ⟨r, 4, none⟩ (.bool true)).cell? ⟨wa.heap.size, 0, none⟩ = some (.int .i64 (kk : Int)) := kb.cell 0
        have y1 : ((wa.alloc (.cells #[.int .i64 (kk : Int), .bool true, .bool false] 56)).setCell ⟨r, 4, none⟩ (.bool true)).cell? ⟨wa.heap.size, 1, none⟩ = some (.bool true) := kb.cell 1
        have y2 : ((wa.alloc (.cells #[.int .i64 (kk : Int), .bool true, .bool false] 56)).setCell ⟨r, 4, none⟩ (.bool true)).cell? ⟨wa.heap.size, 2, none⟩ = some (.bool false) := kb.cell 2
        clear efl enx hkk lv2
        clear h1 k eo eb MA HL FA KZ NZ ZL kz kb dd mm
        go_enter Try.func27, Try.ntmps27
        go_wp2_with fail
        rw [HWA.out, HZ.out]
        refine (V.out ()).mono ?_
        rintro e w1 ⟨rfl, rfl⟩
        go_wp2_with fail
        refine (A.out ()).mono ?_
        rintro e w1 ⟨rfl, rfl⟩
        go_wp2
        exact bodyPost_ret (rnext_ret (KB.out _ _ _) rfl rfl) rfl ⟨rfl, G.out _ _ _⟩
    · rw [eo, if_pos rfl] at V
      have efl : fls P q = false := by unfold fls; rw [eo]; simp
      have enx : nxr P q = q := by unfold nxr; rw [eo]; simp
      rw [efl, enx, atK_ov eo, if_pos rfl, if_neg (by simp)]
      have G : Hid (∀ v0 v1 v2 : Value, _) := ZL.out wa Y (some q) P ⟨_, _, _, _, h1⟩ MA.out NZ.out
      show Calls _ _ _ _ fun e w' => e = .returned (.tuple #[stv 0 false false, .int .i64 6]) ∧ ∃ Y', DD w' r Y' (some q) P N ∧ My w w' Y Y'
      clear h1 k c0 eo efl enx HL ZL FA KZ MA NZ A
      go_enter Try.func27, Try.ntmps27
      go_wp2_with fail
      rw [HWA.out, HZ.out]
      refine (V.out ()).mono ?_
      rintro e w1 ⟨rfl, rfl⟩
      go_wp2
      exact bodyPost_ret (rnext_ret (KB.out _ _ _) rfl rfl) rfl ⟨rfl, G.out _ _ _⟩
end Go.Proofs.Ytaaikbehdfkhlaa
