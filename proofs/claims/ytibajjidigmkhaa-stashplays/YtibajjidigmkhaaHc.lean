/- What stash's putBack, Alloc, Give and Drain answer and leave, for every stash. -/
import Derived.Test.YtibajjidigmkhaaRows
import Derived.Test.YtibajjidigmkhaaHb
import Derived.WalkKit
import Derived.ProofKit
import Derived.OpenShut
import Derived.BigQuiet
import Derived.Deep.RegionHeld3
import Derived.Deep.RegionLaw
import Derived.Deep.DeepCutAuto
import Derived.Deep.CutBlock
namespace Go.Proofs.Ytibajjidigmkhaa
open Go.ChangeShapes Go.WideShapes Go.ChangeAt Go.RowKit
open Om Hm

theorem fr_sm {B : Nat} {S : List Nat} {w w2 w3 : World} (f : Fr B S w w2) (e : Sm w3 w2) : Fr B S w w3 :=
  ⟨e.2.1.trans f.os, e.2.2.1.trans f.tape, e.2.2.2.trans f.output, by rw [e.1]; exact f.size, fun k hk hs => by rw [e.1]; exact f.block k hk hs⟩

/-- Behind 'kept[c] = v'', where what was done ahead of it touched the lists' own memory alone. -/
theorem SH.set {w w2 : World} {b pb lb n m : Nat} {A : List Nat} {V : List Value} {K : List (List Int)} (h : SH w b pb lb n m A V K) {c : Nat} (hc : c < n) {S : List Nat} (f : Fr w.heap.size S w w2) (hS : ∀ g ∈ S, g ∈ bl V) {v' : Value} {l' : List Int}
    (ls : Ls w2 (V.set c v') (K.set c l')) (hv : ∀ g ∈ vb v', g ∈ bl V ∨ w.heap.size ≤ g) :
    (w2.cell? ⟨b, 1, none⟩ = some (.slice (some ⟨lb, 0, none⟩) n n) ∧ w2.cell? ⟨lb, c, none⟩ = some (V.getD c nv) ∧ w2.frozen? ⟨lb, c, none⟩ = false) ∧ ∀ w3 : World, Sm w3 w2 → SC w (w3.setCell ⟨lb, c, none⟩ v') b pb lb n m V A (K.set c l') := by
  have nb : b ∉ S := fun e => h.st.not h.st.sb (by decide) (hS b e)
  have nl : lb ∉ S := fun e => h.st.not h.st.sl (by decide) (hS lb e)
  have np : pb ∉ S := fun e => h.st.not h.po.sb (by decide) (hS pb e)
  have s1 := h.st.sb.keep f h.st.sb.lt nb
  have s2 := h.st.sl.keep f h.st.sl.lt nl
  refine ⟨⟨s1.cell 1, (f.cell (p := ⟨lb, c, none⟩) h.st.sl.lt nl).trans (h.st.cv hc), s2.free c⟩, fun w3 e3 => ?_⟩
  have f3 := fr_sm f e3
  have st := h.st.store (by decide) (by decide) f3 hS (ls.heap e3.1)
  refine ⟨⟨_, ⟨st, ?_⟩, fun g hg => ?_⟩, (St.store_fr f3 hS lb c v').mono (Nat.le_refl _) fun k _ hk hm => ?_⟩
  · have p3 := h.po.keep f3 h.po.sb.lt np
    exact p3.keep ((Fr.refl w3.heap.size [lb] w3).setCell (Or.inr (by simp)) v') p3.sb.lt (by simp; exact fun q => (h.po.sb.ne h.st.sl (by decide)) q)
  · rcases bl_set (S := vb v') (fun _ q => q) hg with q | q
    · exact Or.inl q
    · exact hv g q
  · simp only [List.mem_cons] at hk hm
    rcases hm with r | r
    · exact hk (Or.inl r)
    · exact hk (Or.inr (Or.inr r))

theorem splice_len {α : Type} (Z X : List α) (o : Nat) (h : o + X.length ≤ Z.length) : (splice Z o X).length = Z.length := by
  unfold splice
  simp
  omega
theorem splice_out {α : Type} (Z X : List α) (o k : Nat) (h : o + X.length ≤ Z.length) (hk : k < o ∨ o + X.length ≤ k) : (splice Z o X)[k]? = Z[k]? := by
  unfold splice
  rcases hk with hk | hk
  · rw [List.getElem?_append_left (by simp; omega), List.getElem?_take, if_pos hk]
  · rw [List.getElem?_append_right (by simp; omega), List.getElem?_append_right (by simp; omega), List.getElem?_drop]
    congr 1
    simp
    omega
theorem splice_in {α : Type} (Z X : List α) (o j : Nat) (h : o + X.length ≤ Z.length) (hj : j < X.length) : (splice Z o X)[o + j]? = X[j]? := by
  unfold splice
  rw [List.getElem?_append_right (by simp; omega), List.getElem?_append_left (by simp; omega)]
  congr 1
  simp
  omega

/-- Behind the move of a list's end to its front. -/
theorem Ls.moved {w w2 : World} {V : List Value} {K : List (List Int)} (h : Ls w V K) {c : Nat} (hc : c < K.length) {g off cap : Nat} {cur : List Value} (e : V.getD c nv = .slice (some ⟨g, off, none⟩) (ks K c).length cap)
    (hb : Blk w g cur 3) (h1 : (ks K c).length ≤ cap) (h2 : off + cap ≤ cur.length) (d : Nat) (k : Blk w2 g (splice cur off (((ks K c).drop d).map (Value.int .i64))) 3) (f : Fr w.heap.size [g] w w2) :
    Ls w2 (V.set c (.slice (some ⟨g, off, none⟩) ((ks K c).length - d) cap)) (K.set c ((ks K c).drop d)) := by
  have hx : (((ks K c).drop d).map (Value.int .i64)).length = (ks K c).length - d := by simp
  have wr : Wr w w2 g off cap cur (splice cur off (((ks K c).drop d).map (Value.int .i64))) :=
    ⟨hb, k, splice_len _ _ _ (by omega), fun q hq => splice_out _ _ _ _ (by omega) (by omega), f⟩
  refine h.turn hc (Or.inr ⟨g, off, cap, _, by simp, by simp; omega, k, by rw [wr.len]; exact h2, fun j hj => ?_⟩) fun u ys q p => ?_
  · rw [splice_in _ _ _ _ (by omega) (by rw [hx]; simpa using hj), getD_map_int _ j hj]
  · rw [e] at p
    refine ⟨wr.other q p, fun g3 off3 n3 cap3 g4 off4 n4 cap4 e1 e2 => ?_⟩
    simp only [Value.slice.injEq, Option.some.injEq, Addr.mk.injEq] at e1
    obtain ⟨⟨rfl, rfl, _⟩, _, rfl⟩ := e1
    exact p _ _ _ _ _ _ _ _ rfl e2

/-- A copy of nothing as one step of a region that draws its order. -/
theorem step_copy_none {P : Program} {ops : Array Oper} {o : Oper} {a : Act} {w : World} {K : Act → World → Prop} {Q : Exit → Act → World → Prop} {E : Prop} (hgd : o.guard = none) (d s : Operand) (dT sT : TypeId)
    (ho : o.op = .call { callee := .builtin .copy, args := #[d, s], argTypes := #[dT, sT] }) (elem : TypeId) (hu : P.underlying dT = some (.slice elem)) (hsz : (P.info? elem).map (·.size) = some 1)
    (dp sp : Option Addr) (dLen dCap sLen sCap : Nat) (hd : a.eval d = .slice dp dLen dCap) (hs : a.eval s = .slice sp sLen sCap) (hn : Nat.min sLen dLen = 0)
    (h : K (a.put o.dst (goInt 0)) w) : if Region.wanted o (yielded ops a.tmps) = true then Oper.wp P o a w K Q else E := by
  have hw : Region.wanted o (yielded ops a.tmps) = true := by simp [Region.wanted, hgd]
  rw [if_pos hw]
  have hrun := run_copy_none (P := P) w dT sT o.type elem dp sp dLen dCap sLen sCap hu hsz hn
  unfold Oper.wp
  simp [execOp, ho, resolve, invoke, builtin, hd, hs, hrun, Result.andThen]
  exact h

theorem SC.pool {w w1 : World} {b pb lb n m : Nat} {A A2 : List Nat} {V : List Value} {K : List (List Int)} (h : SH w b pb lb n m A V K) (p : PO w1 pb m A2) (f : Fr w.heap.size [pb] w w1) : SC w w1 b pb lb n m V A2 K :=
  ⟨⟨V, h.pool p f, fun _ hg => Or.inl hg⟩, f.mono (Nat.le_refl _) (fun k _ hk => by
    simp only [List.mem_cons] at hk
    simp only [List.mem_singleton]
    exact fun r => hk (Or.inr (Or.inl r)))⟩

set_option maxHeartbeats 4000000 in
theorem putBack_any {b pb lb n m : Nat} {A : List Nat} {V : List Value} {K : List (List Int)} (c d : Nat) (w : World) (h : SH w b pb lb n m A V K) (hc : (c : Int) < n) (hl : (ks K c).length ≤ 4) (hd : d ≤ (ks K c).length) :
    Calls Try.prog 51 #[.pointer (some ⟨b, 0, none⟩), .int .i64 (c : Int), .int .i64 (d : Int)] w fun e w' => e = .returned (.tuple #[]) ∧ SC w w' b pb lb n m V (gvs m A ((ks K c).take d)) (K.set c ((ks K c).drop d)) := by
  have c1 := h.st.c1
  have cv := h.st.cv (i := c) (by omega)
  have hK : c < K.length := by rw [h.st.kn]; omega
  have lv := h.st.lv (i := c) (by omega)
  have f0 := h.st.sl.free c
  have SET : Hid (∀ (w1 : World) (A1 : List Nat) (w2 : World) (S : List Nat) (v' : Value) (l' : List Int), SH w1 b pb lb n m A1 V K → Fr w1.heap.size S w1 w2 → (∀ g ∈ S, g ∈ bl V) → Ls w2 (V.set c v') (K.set c l') → (∀ g ∈ vb v', g ∈ bl V ∨ w1.heap.size ≤ g) → _) := fun w1 A1 w2 S v' l' h1 f hS ls hv => h1.set (c := c) (by omega) f hS ls hv
  have n1 : ¬ (b = lb) := h.st.sb.ne h.st.sl (by decide)
  have n2 : ¬ (lb = b) := fun q => n1 q.symm
  have H0 : Hid (SH w b pb lb n m A V K) := h
  rcases lv with ⟨hv, hx⟩ | ⟨g, off, cap, cur, hv, hcap, hb, hfit, hcell⟩
  · have hx : ks K c = [] := hx
    have hd0 : d = 0 := by rw [hx] at hd; simpa using hd
    subst hd0
    rw [show gvs m A ((ks K c).take 0) = A from rfl, hx, show ([] : List Int).drop 0 = [] from rfl]
    have ls := h.st.ls.turn (c := c) (w' := w) hK (v' := .slice none 0 0) (l' := []) (Or.inl ⟨rfl, rfl⟩) fun u ys k p => ⟨k, ap_nil _ _ _⟩
    have FIN := (h.set (c := c) (by omega) (Fr.refl w.heap.size [] w) (by simp) ls (by simp [vb])).2
    have HF : Hid (∀ w3 : World, Sm w3 w → SC w (w3.setCell ⟨lb, c, none⟩ (.slice none 0 0)) b pb lb n m V A (K.set c [])) := FIN
    rw [hv] at cv
    clear h hv hx ls FIN SET hl hd H0
    go_enter Try.func51, Try.ntmps51
    go_wp2
    go_loop [21] (fun i => i = .int .i64 0) (fun _ => 0)
    case atStart => rfl
    case round =>
      obtain rfl := hrel
      go_wp2_with fail
      go_region_law (refine step_copy_none rfl (.tmp 38) (.tmp 41) 22 22 rfl 3 Try.underlying22 info3s none none 0 0 0 0 (by simp [Act.eval, Act.put]) (by simp [Act.eval, Act.put]) (by decide) ?_)
      all_goals go_wp2
      all_goals go_end0
      all_goals exact ⟨rfl, (HF.out w ⟨rfl, rfl, rfl, rfl⟩).sm ⟨rfl, rfl, rfl, rfl⟩⟩
  · have hx : K.getD c [] = ks K c := rfl
    rw [hx] at hv hcap hcell
    rw [hv] at cv
    obtain ⟨xs, hxs⟩ : ∃ xs, ks K c = xs := ⟨_, rfl⟩
    rw [hxs] at hl hd hv hcap hcell cv ⊢
    have MV : Hid (∀ (w1 : World) (A1 : List Nat) (wz w2 : World), SH w1 b pb lb n m A1 V K → Fr w.heap.size [pb] w w1 → Sm wz w1 → Blk w2 g (splice cur off ((xs.drop d).map (Value.int .i64))) 3 → Fr wz.heap.size [g] wz w2 → (w2.cell? ⟨b, 1, none⟩ = some (.slice (some ⟨lb, 0, none⟩) n n) ∧ w2.cell? ⟨lb, c, none⟩ = some (V.getD c nv) ∧ w2.frozen? ⟨lb, c, none⟩ = false) ∧ ∀ w3 : World, Sm w3 w2 → SC w1 (w3.setCell ⟨lb, c, none⟩ (.slice (some ⟨g, off, none⟩) (xs.length - d) cap)) b pb lb n m V A1 (K.set c (xs.drop d))) := fun w1 A1 wz w2 h1 fp e k f => by
      have f' : Fr w1.heap.size [g] w1 w2 := e.fr (by rw [← e.1]; exact f)
      have hb1 : Blk w1 g cur 3 := hb.keep fp hb.lt (by simp; exact fun q => (hb.ne h.po.sb (by decide)) q)
      have ls := h1.st.ls.moved (c := c) hK (by rw [hxs]; exact hv) hb1 (by rw [hxs]; exact hcap) hfit d (by rw [hxs]; exact k) f'
      rw [hxs] at ls
      refine h1.set (by omega) f' (fun q hq => ?_) ls (fun q hq => Or.inl ?_)
      · simp at hq
        subst hq
        exact bl_get (i := c) (by rw [hv]; simp [vb])
      · simp [vb] at hq
        subst hq
        exact bl_get (i := c) (by rw [hv]; simp [vb])
    have KB : Hid (∀ (w1 : World), Fr w.heap.size [pb] w w1 → Blk w1 g cur 3) := fun w1 fp => hb.keep fp hb.lt (by simp; exact fun q => (hb.ne h.po.sb (by decide)) q)
    have KE : Hid (∀ (w1 : World), Fr w.heap.size [pb] w w1 → ∀ j : Nat, j < xs.length → w1.cell? ⟨g, off + j, none⟩ = some (.int .i64 (xs.getD j 0))) := fun w1 fp j hj => by rw [(KB.out w1 fp).cell]; exact hcell j hj
    have P0 : Hid (∀ (w1 : World) (A1 : List Nat), SH w1 b pb lb n m A1 V K → Fr w.heap.size [pb] w w1 → SC w w1 b pb lb n m V A1 K) := fun w1 A1 h1 f => SC.pool h h1.po f
    have HV : Hid (V.getD c nv = .slice (some ⟨g, off, none⟩) xs.length cap) := hv
    obtain ⟨q, hq⟩ : ∃ q, xs.length = q := ⟨_, rfl⟩
    have HQ : Hid (xs.length = q) := hq
    have hd2 : (d : Int) ≤ q := by omega
    have hq4 : (q : Int) ≤ 4 := by omega
    have hqc : (q : Int) ≤ cap := by omega
    have hdc : (d : Int) ≤ cap := by omega
    have FT : Hid (off + q ≤ cur.length) := by unfold Hid; omega
    rw [hq] at cv MV
    obtain ⟨R, hR⟩ : ∃ R, gvs m A (xs.take d) = R := ⟨_, rfl⟩
    have HR : Hid (gvs m A (xs.take d) = R) := hR
    rw [hR]
    obtain ⟨X, hX⟩ : ∃ X, (xs.drop d).map (Value.int .i64) = X := ⟨_, rfl⟩
    have lX : Hid (X.length = q - d) := by rw [← hX]; simp [Hid, hq]
    have oX : Hid (∀ v ∈ X, v.oneCell' = true) := by rw [← hX]; exact ints_one _
    have PX : Hid (∀ (w1 : World), Fr w.heap.size [pb] w w1 → ∀ (wz : World), Sm wz w1 → ∀ j v, X[j]? = some v → wz.cell? ((⟨g, off + d, none⟩ : Addr).add j) = some v) := fun w1 fp wz e j v hj => by
      rw [← hX] at hj
      have hj2 : j < (xs.drop d).length := by
        have := (List.getElem?_eq_some_iff.1 hj).1
        simpa using this
      rw [getD_map_int _ j hj2] at hj
      have e1 := KE.out w1 fp (d + j) (by simp at hj2; omega)
      rw [Addr.add_lit, Nat.add_assoc]
      unfold World.cell? at e1 ⊢
      rw [e.1]
      rw [← hj]
      rw [show xs.getD (d + j) 0 = (xs.drop d).getD j 0 by rw [List.getD_eq_getElem?_getD, List.getD_eq_getElem?_getD, List.getElem?_drop]] at e1
      exact e1
    rw [hX] at MV
    rw [← lX.out] at MV
    have CB : Hid (∀ (w1 : World) (A1 : List Nat), SH w1 b pb lb n m A1 V K → w1.cell? ⟨b, 0, none⟩ = some (.pointer (some ⟨pb, 0, none⟩)) ∧ w1.cell? ⟨b, 1, none⟩ = some (.slice (some ⟨lb, 0, none⟩) n n) ∧ w1.cell? ⟨lb, c, none⟩ = some (.slice (some ⟨g, off, none⟩) q cap) ∧ w1.frozen? ⟨lb, c, none⟩ = false) := fun w1 A1 h1 => ⟨h1.st.c0, h1.st.c1, by rw [h1.st.cv (by omega), HV.out, HQ.out], h1.st.sl.free c⟩
    clear h hv hx hxs hl hd hcap hcell hb hfit SET hK hX hR hq
    generalize xs.drop d = ld at *
    go_enter Try.func51, Try.ntmps51
    go_wp2
    go_loopw [21] (fun i wr => ∃ k : Nat, (k : Int) ≤ d ∧ i = .int .i64 k ∧ SH wr b pb lb n m (gvs m A (xs.take k)) V K ∧ Fr w.heap.size [pb] w wr) (fun i _ => d - (intOf i).toNat)
    case atStart => exact ⟨0, by omega, rfl, H0.out, Fr.refl _ _ _⟩
    case round =>
      obtain ⟨k, hk, rfl, h1, f1⟩ := hrel
      have H1 : Hid (SH wr b pb lb n m (gvs m A (xs.take k)) V K) := h1
      have F1 : Hid (Fr w.heap.size [pb] w wr) := f1
      obtain ⟨k0, k1, k2, k3⟩ := CB.out wr _ h1
      by_cases l : (k : Int) < d
      · have ce := KE.out wr f1 k (by have := HQ.out; omega)
        have C : Hid (∀ _ : Unit, _) := fun _ => pgive_any (xs.getD k 0) wr h1.po
        have GS : Hid (gvs m A (xs.take (k + 1)) = gvA m (gvs m A (xs.take k)) (xs.getD k 0)) := by rw [take_snoc xs k (by have := HQ.out; omega), gvs_snoc]; exact rfl
        generalize xs.getD k 0 = y at *
        generalize gvE m (gvs m A (xs.take k)) y = ee at *
        have hkc : (k : Int) < cap := by omega
        clear h1 f1
        go_wp2_with fail
        refine (C.out ()).mono ?_
        rintro e u1 ⟨rfl, p1, f2⟩
        have h2 := H1.out.pool p1 f2
        rw [← GS.out] at h2
        have f3 : Fr w.heap.size [pb] w u1 := F1.out.trans (f2.less F1.out.size)
        clear p1 f2
        go_wp2
        go_roundw
        case rel => exact ⟨k + 1, by omega, by go_num, h2, f3⟩
        case measure => simp [intOf]; omega
      · obtain rfl : k = d := by omega
        rw [HR.out] at H1
        have NE : Hid (0 < X.length → ¬ (cap = k)) := fun hp => by have := lX.out; omega
        have lc : X.length ≤ cap := by have := lX.out; omega
        have N1 : Hid (X.length = Nat.min (q - k) q) := by rw [lX.out]; exact (Nat.min_eq_left (by omega)).symm
        have FX : Hid (off + X.length ≤ cur.length) := by rw [lX.out]; have := FT.out; unfold Hid; omega
        clear h1 f1
        go_wp2_with fail
        go_region_law
          (first | (refine step_copy_at rfl (.tmp 38) (.tmp 41) 22 22 rfl 3 Try.underlying22 info3s (some ⟨g, off, none⟩) (if cap = k then some ⟨g, off, none⟩ else some ⟨g, off + k, none⟩) q cap (q - k) (cap - k) (by simp [Act.eval, Act.put]) (by simp [Act.eval, Act.put]) g off cur 3 ((KB.out _ F1.out).heap rfl) X N1.out (fun hp => ⟨rfl, _, if_neg (NE.out hp), PX.out _ F1.out _ ⟨rfl, rfl, rfl, rfl⟩⟩) FX.out oX.out ?_; intro w2 G2 F2; obtain ⟨⟨a1, a2, a3⟩, a4⟩ := MV.out wr _ wr.drew w2 H1.out F1.out ⟨rfl, rfl, rfl, rfl⟩ G2.out F2.out; have HA : Hid (∀ w3 : World, Sm w3 w2 → SC wr (w3.setCell ⟨lb, c, none⟩ (.slice (some ⟨g, off, none⟩) X.length cap)) b pb lb n m V R (K.set c ld)) := a4; clear a4))
        all_goals go_wp2
        all_goals go_end0
        all_goals first
          | exact ⟨rfl, SC.trans (V1 := V) (P0.out _ _ H1.out F1.out).fr (fun _ hg => Or.inl hg) (HA.out _ ⟨rfl, rfl, rfl, rfl⟩)⟩
          | (have e : cap = k := (by assumption); rw [e] at HA; exact ⟨rfl, SC.trans (V1 := V) (P0.out _ _ H1.out F1.out).fr (fun _ hg => Or.inl hg) (HA.out _ ⟨rfl, rfl, rfl, rfl⟩)⟩)
end Go.Proofs.Ytibajjidigmkhaa
