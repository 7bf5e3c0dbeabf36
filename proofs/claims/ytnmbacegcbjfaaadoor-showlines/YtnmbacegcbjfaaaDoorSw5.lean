/- Records as lines: a line as a record. -/
import Derived.Test.YtnmbacegcbjfaaaDoorRows
import Derived.Test.YtnmbacegcbjfaaaDoorSw4
import Derived.Laws.ResultCell
import Derived.WalkKit
import Derived.ProofKit
import Derived.OpenShut
import Derived.BigQuiet
import Derived.WalkSmall
import Derived.WalkSpells
namespace Go.Proofs.YtnmbacegcbjfaaaDoor
open Go.ChangeShapes Go.WideShapes Go.ChangeAt Go.RowKit
open Wd Mm
set_option linter.unusedVariables false
set_option linter.unusedSimpArgs false
set_option maxRecDepth 100000
open Sv
attribute [local go_sem] Oper.semAt_some

/-- What a word makes of a record. -/
def stp (r : Sv.R) (x : List UInt8) : Option Sv.R := if r.k = 0 then (if krOf x = 0 then none else some { r with k := (krOf x : Nat) }) else putR r x
def rdg : Sv.R → List (List UInt8) → Option Sv.R
  | r, [] => some r
  | r, x :: ws => (stp r x).bind fun r' => rdg r' ws
theorem putR_k {r r' : Sv.R} {x : List UInt8} (h : putR r x = some r') : r'.k = r.k := by
  cases x with
  | nil => cases h
  | cons l d =>
    rw [putR] at h
    by_cases hl : isF l
    · rw [if_pos hl] at h
      cases hp : pI d with
      | none => rw [hp] at h; cases h
      | some v =>
        rw [hp] at h
        have := Option.some.inj h
        rw [← this]
        exact stR_k r l v
    · rw [if_neg hl] at h
      cases h
theorem rdg_rdf : ∀ (ws : List (List UInt8)) (r : Sv.R), r.k ≠ 0 → rdg r ws = rdf r ws
  | [], r, _ => rfl
  | x :: ws, r, h => by
    rw [rdg, rdf, stp, if_neg h]
    cases hp : putR r x with
    | none => rfl
    | some q =>
      simp only [Option.bind_some]
      exact rdg_rdf ws q (by rw [putR_k hp]; exact h)
theorem rdg_rd (s : List UInt8) : rdg R0 (parts 32 s) = rd s := by
  unfold rd
  cases hp : parts 32 s with
  | nil => exact absurd hp (parts_ne 32 s)
  | cons x ws =>
    rw [rdg, stp, if_pos (show R0.k = 0 from rfl)]
    simp only
    by_cases h : krOf x = 0
    · rw [if_pos h, if_pos h]
      rfl
    · rw [if_neg h, if_neg h, Option.bind_some]
      exact rdg_rdf ws _ (by simp only; omega)
def rdR (s : List UInt8) : Value := match rd s with
  | some r => .tuple #[.agg (R.vals r).toArray, .bool true]
  | none => .tuple #[.agg (R.vals R0).toArray, .bool false]

/-- What is there while a line's words are read. -/
structure RB (w W : World) (q : List Value) (b : Bool) (r : Sv.R) (s : List UInt8) : Prop where
  bel : Below w.heap.size w W
  z0 : Blk W w.heap.size q 28
  z1 : Blk W (w.heap.size + 1) [.bool b] 4
  z2 : Blk W (w.heap.size + 1 + 1) [.int .i64 r.k] 3
  z3 : Blk W (w.heap.size + 1 + 1 + 1) (fls r) 41
  z4 : Blk W (w.heap.size + 1 + 1 + 1 + 1) [.string (sb s)] 9

theorem RB.new (w : World) (s : List UInt8) : RB w (((((w.alloc (.cells (R.vals R0).toArray 28)).alloc (.cells #[.bool false] 4)).alloc (.cells #[.int .i64 0] 3)).alloc (.cells (fls R0).toArray 41)).alloc (.cells #[.string (sb s)] 9)) (R.vals R0) false R0 s := by
  refine ⟨((((((Below.refl _ w).alloc (Nat.le_refl _) _).alloc (by simp) _).alloc (by simp; omega) _).alloc (by simp; omega) _).alloc (by simp; omega) _), ?_, ?_, ?_, ?_, ?_⟩
  · exact ((((Blk.new w (R.vals R0) _).alloc _).alloc _).alloc _).alloc _
  · have := Blk.new (w.alloc (.cells (R.vals R0).toArray 28)) [.bool false] 4
    rw [World.size_alloc] at this
    exact ((this.alloc _).alloc _).alloc _
  · have := Blk.new ((w.alloc (.cells (R.vals R0).toArray 28)).alloc (.cells #[.bool false] 4)) [.int .i64 0] 3
    rw [World.size_alloc, World.size_alloc] at this
    exact (this.alloc _).alloc _
  · have := Blk.new (((w.alloc (.cells (R.vals R0).toArray 28)).alloc (.cells #[.bool false] 4)).alloc (.cells #[.int .i64 0] 3)) (fls R0) 41
    rw [World.size_alloc, World.size_alloc, World.size_alloc] at this
    exact this.alloc _
  · have := Blk.new ((((w.alloc (.cells (R.vals R0).toArray 28)).alloc (.cells #[.bool false] 4)).alloc (.cells #[.int .i64 0] 3)).alloc (.cells (fls R0).toArray 41)) [.string (sb s)] 9
    rwa [World.size_alloc, World.size_alloc, World.size_alloc, World.size_alloc] at this
theorem RB.lt {w W : World} {q : List Value} {b : Bool} {r : Sv.R} {s : List UInt8} (h : RB w W q b r s) : w.heap.size + 1 + 1 + 1 + 1 < W.heap.size := h.z4.lt
theorem RB.sm {w W W' : World} {q : List Value} {b : Bool} {r : Sv.R} {s : List UInt8} (h : RB w W q b r s) (e : Sm W' W) : RB w W' q b r s :=
  ⟨e.below h.bel, h.z0.heap e.1, h.z1.heap e.1, h.z2.heap e.1, h.z3.heap e.1, h.z4.heap e.1⟩
theorem RB.up {w W W' : World} {q : List Value} {b : Bool} {r : Sv.R} {s : List UInt8} (h : RB w W q b r s) (e : Below W.heap.size W W') : RB w W' q b r s :=
  ⟨h.bel.trans (e.mono h.bel.size), h.z0.keep (Fr.of_below e) h.z0.lt (by simp), h.z1.keep (Fr.of_below e) h.z1.lt (by simp), h.z2.keep (Fr.of_below e) h.z2.lt (by simp), h.z3.keep (Fr.of_below e) h.z3.lt (by simp), h.z4.keep (Fr.of_below e) h.z4.lt (by simp)⟩
/-- The fields turn. -/
theorem RB.flds {w W W' : World} {q : List Value} {b : Bool} {r r' : Sv.R} {s : List UInt8} (h : RB w W q b r s) (f : Fr W.heap.size [w.heap.size + 1 + 1 + 1] W W') (hb : Blk W' (w.heap.size + 1 + 1 + 1) (fls r') 41) (hk : r'.k = r.k) : RB w W' q b r' s :=
  ⟨(Fr.trans ((Fr.of_below h.bel).mono (S' := [w.heap.size + 1 + 1 + 1]) (Nat.le_refl _) (fun _ _ _ => by simp)) (f.mono h.bel.size (fun _ _ h => h))).below (by simp; omega), h.z0.keep f h.z0.lt (by simp; omega), h.z1.keep f h.z1.lt (by simp), by rw [hk]; exact h.z2.keep f h.z2.lt (by simp), hb, h.z4.keep f h.z4.lt (by simp)⟩
/-- The kind turns. -/
theorem RB.kind {w W : World} {q : List Value} {b : Bool} {r : Sv.R} {s : List UInt8} (h : RB w W q b r s) (k : Int) : RB w (W.setCell ⟨w.heap.size + 1 + 1, 0, none⟩ (.int .i64 k)) q b { r with k := k } s :=
  ⟨h.bel.setCell (p := ⟨w.heap.size + 1 + 1, 0, none⟩) (by show _ ≤ _; simp; omega) _, h.z0.other (p := ⟨w.heap.size + 1 + 1, 0, none⟩) (by show _ ≠ _; simp; omega) _, h.z1.other (p := ⟨w.heap.size + 1 + 1, 0, none⟩) (by show _ ≠ _; simp) _, h.z2.set 0 _, h.z3.other (p := ⟨w.heap.size + 1 + 1, 0, none⟩) (by show _ ≠ _; simp) _, h.z4.other (p := ⟨w.heap.size + 1 + 1, 0, none⟩) (by show _ ≠ _; simp; omega) _⟩
theorem abd_rb {w : World} {q : List Value} {b : Bool} {r : Sv.R} {s : List UInt8} {B : Nat} (hB : w.heap.size ≤ B) : Abd B fun W => RB w W q b r s :=
  ⟨fun W o h => ⟨(abd_below (Nat.le_refl _) hB).new W o h.bel, h.z0.alloc o, h.z1.alloc o, h.z2.alloc o, h.z3.alloc o, h.z4.alloc o⟩,
   fun W l o o' a b c h => ⟨(abd_below (Nat.le_refl _) hB).turn W l o o' a b c h.bel, (abd_blk B _ _ _).turn W l o o' a b c h.z0, (abd_blk B _ _ _).turn W l o o' a b c h.z1, (abd_blk B _ _ _).turn W l o o' a b c h.z2, (abd_blk B _ _ _).turn W l o o' a b c h.z3, (abd_blk B _ _ _).turn W l o o' a b c h.z4⟩⟩
theorem Abd.ex {α : Type} {B : Nat} {p : α → World → Prop} (h : ∀ x, Abd B (p x)) : Abd B fun W => ∃ x, p x W :=
  ⟨fun W o ⟨x, hx⟩ => ⟨x, (h x).new W o hx⟩, fun W l o o' a b c ⟨x, hx⟩ => ⟨x, (h x).turn W l o o' a b c hx⟩⟩

/-- Both results are written. -/
def six (z : Nat) (r : Sv.R) (b : Bool) (W : World) : World := ((((((W.setCell ⟨z, 0, none⟩ (.int .i64 r.k)).setCell ⟨z, 1, none⟩ (.int .i64 r.c)).setCell ⟨z, 2, none⟩ (.int .i64 r.i)).setCell ⟨z, 3, none⟩ (.int .i64 r.n)).setCell ⟨z, 4, none⟩ (.int .i64 r.y)).setCell ⟨z + 1, 0, none⟩ (.bool b))
theorem RB.six {w W : World} {q : List Value} {b : Bool} {r : Sv.R} {s : List UInt8} (h : RB w W q b r s) (hq : q.length = 5) (x : Sv.R) (c : Bool) : RB w (six w.heap.size x c W) (R.vals x) c r s := by
  have o1 : ∀ {W : World} {bb : Nat} {cs : List Value} {t : TypeId} (i : Nat) (v : Value), bb ≠ w.heap.size → Blk W bb cs t → Blk (W.setCell ⟨w.heap.size, i, none⟩ v) bb cs t := fun i v ne h => h.other (p := ⟨w.heap.size, i, none⟩) ne v
  have o2 : ∀ {W : World} {bb : Nat} {cs : List Value} {t : TypeId} (v : Value), bb ≠ w.heap.size + 1 → Blk W bb cs t → Blk (W.setCell ⟨w.heap.size + 1, 0, none⟩ v) bb cs t := fun v ne h => h.other (p := ⟨w.heap.size + 1, 0, none⟩) ne v
  have hz := five h.z0 hq (.int .i64 x.k) (.int .i64 x.c) (.int .i64 x.i) (.int .i64 x.n) (.int .i64 x.y)
  have b5 : ∀ {W : World} (i : Nat) (v : Value), Below w.heap.size w W → Below w.heap.size w (W.setCell ⟨w.heap.size, i, none⟩ v) := fun i v h => h.setCell (p := ⟨w.heap.size, i, none⟩) (Nat.le_refl _) v
  refine ⟨Below.setCell (p := ⟨w.heap.size + 1, 0, none⟩) (b5 4 _ (b5 3 _ (b5 2 _ (b5 1 _ (b5 0 _ h.bel))))) (by show _ ≤ _; simp) _, o2 _ (by simp) hz, ?_, ?_, ?_, ?_⟩
  · exact (o1 4 _ (by simp) (o1 3 _ (by simp) (o1 2 _ (by simp) (o1 1 _ (by simp) (o1 0 _ (by simp) h.z1))))).set 0 _
  · exact o2 _ (by simp) (o1 4 _ (by simp; omega) (o1 3 _ (by simp; omega) (o1 2 _ (by simp; omega) (o1 1 _ (by simp; omega) (o1 0 _ (by simp; omega) h.z2)))))
  · exact o2 _ (by simp; omega) (o1 4 _ (by simp; omega) (o1 3 _ (by simp; omega) (o1 2 _ (by simp; omega) (o1 1 _ (by simp; omega) (o1 0 _ (by simp; omega) h.z3)))))
  · exact o2 _ (by simp; omega) (o1 4 _ (by simp; omega) (o1 3 _ (by simp; omega) (o1 2 _ (by simp; omega) (o1 1 _ (by simp; omega) (o1 0 _ (by simp; omega) h.z4)))))
theorem six_keep {z D : Nat} {r : Sv.R} {b : Bool} {W : World} {o : Obj} (h : W.heap[D]? = some o) (hD : z + 1 < D) : (six z r b W).heap[D]? = some o := by
  have q : ∀ {W : World} (p : Addr) (v : Value), p.block < D → W.heap[D]? = some o → (W.setCell p v).heap[D]? = some o := fun p v hp h => (Below.heap_setCell _ _ _ _ (by omega)).trans h
  exact q _ _ (by show z + 1 < D; omega) (q _ _ (by show z < D; omega) (q _ _ (by show z < D; omega) (q _ _ (by show z < D; omega) (q _ _ (by show z < D; omega) (q _ _ (by show z < D; omega) h)))))
theorem six_tw {z B : Nat} {r : Sv.R} {b : Bool} {W W' : World} (h : Tw2 B W W') (hB : z + 1 < B) : Tw2 B W (six z r b W') :=
  tw_set (tw_set (tw_set (tw_set (tw_set (tw_set h (by show z < B; omega) _) (by show z < B; omega) _) (by show z < B; omega) _) (by show z < B; omega) _) (by show z < B; omega) _) (by show z + 1 < B; omega) _
theorem fr_tw {B : Nat} {S : List Nat} {W W' : World} (h : Fr W.heap.size S W W') (hB : B + 1 < W.heap.size) (h0 : B ∉ S) (h1 : B + 1 ∉ S) : Tw2 B W W' := ⟨h.block B (by omega) h0, h.block (B + 1) hB h1⟩
theorem rd_ret {w : World} {z z1 : Nat} {x : Sv.R} {b : Bool} {tmps : Array Value} (h : Blk w z (R.vals x) 28) (hb : Blk w z1 [.bool b] 4) (h1 : tmps.getD 2 undef = .pointer (some ⟨z, 0, none⟩)) (h2 : tmps.getD 3 undef = .pointer (some ⟨z1, 0, none⟩)) :
    (results Tryd.f25 tmps).run Tryd.prog w = .ok (.tuple #[.agg (R.vals x).toArray, .bool b]) w := by
  have cb : w.cell? ⟨z1, 0, none⟩ = some (.bool b) := hb.cell 0
  have h1' : tmps[2]?.getD undef = .pointer (some ⟨z, 0, none⟩) := by simpa using h1
  have h2' : tmps[3]?.getD undef = .pointer (some ⟨z1, 0, none⟩) := by simpa using h2
  have L1 := run_loadVar_row (P := Tryd.prog) w z 28 28 (R.vals x).toArray (0, 0) _ h Tryd.underlying28 rfl (by rw [size_rec]; rfl)
  have L2 : (loadVar 4 ⟨z1, 0, none⟩).run Tryd.prog w = .ok (.bool b) w := by simp [go_sem, cb]
  simp [results, Tryd.results25, h1', h2', asAddr, L1, L2, Result.andThen, Sem.run_bind]

set_option maxHeartbeats 8000000 in
theorem read_any (s : List UInt8) (hs : s.length ≤ 1000) (w : World) (g : GW w) :
    Calls Tryd.prog 25 #[.string (sb s)] w fun e w' => e = .returned (rdR s) ∧ Below w.heap.size w w' := by
  have CW : Hid (∀ w, _) := fun w => words_any s w
  have HR : Hid (RB w _ (R.vals R0) false R0 s) := RB.new w s
  have HG : Hid (GW w) := g
  have HS : Hid (s.length ≤ 1000) := hs
  obtain ⟨D, hD⟩ : ∃ D, rd s = D := ⟨_, rfl⟩
  have G0 : Hid (rdg R0 ((parts 32 s).drop 0) = D) := (rdg_rd s).trans hD
  obtain ⟨A1, hA1⟩ : ∃ A1, rdR s = A1 := ⟨_, rfl⟩
  have RA : Hid ((∀ r, D = some r → A1 = .tuple #[.agg (R.vals r).toArray, .bool true]) ∧ (D = none → A1 = .tuple #[.agg (R.vals R0).toArray, .bool false])) := by
    show _ ∧ _
    rw [← hA1]
    unfold rdR
    rw [hD]
    exact ⟨fun r h => by rw [h], fun h => by rw [h]⟩
  have PL : Hid (∀ k (hk : k < (parts 32 s).length), ((parts 32 s)[k]).length ≤ 1000) := fun k hk => by
    have := parts_le 32 s _ (List.getElem_mem hk)
    omega
  rw [hA1]
  clear hD hA1 g hs
  dsimp only [R.vals, R0, fls] at HR
  refine (callsIn_wide (n := 4)).1 ?_
  refine callsIn_of_wp_marks Tryd.func25 rfl trivial ?_ rfl
  simp only [Tryd.ntmps25, List.size_toArray, List.length_cons, List.length_nil, Nat.reduceAdd, Nat.reduceSub, Array.replicate_succ, Array.replicate_zero, List.push_toArray, List.append_toArray, List.nil_append, List.cons_append]
  gi_wp2_with fail
  refine ⟨trivial, (callsIn_wide.2 (CW.out _)).mono ?_⟩
  rintro e w' ⟨rfl, rfl⟩
  gi_wp2
  obtain ⟨F, hF⟩ : ∃ F : Nat → List UInt8, ∀ k, (parts 32 s).getD k [] = F k := ⟨_, fun _ => rfl⟩
  refine range_cap (gf := 49) (cs := #[.pointer (some ⟨w.heap.size + 1 + 1 + 1 + 1, 0, none⟩)]) rfl (enters_of Tryd.func49 (by kernel_rfl) rfl) (parts 32 s).length (fun k => #[.string (sb (F k))]) (fun _ => rfl)
    (fun k W => ∃ r, rdg r ((parts 32 s).drop k) = D ∧ RB w W (R.vals R0) false r s) (fun W => D = none ∧ ∃ r, RB w W (R.vals R0) false r s)
    (fun _ => Abd.ex fun _ => (Abd.pure _ _).both (abd_rb (by simp; omega))) ((Abd.pure _ _).both (Abd.ex fun _ => abd_rb (by simp; omega))) (fun k W W' e ⟨r, h1, h2⟩ => ⟨r, h1, h2.sm e⟩) ⟨R0, G0.out, HR.out⟩
    (fun k => { tmps := #[.string (sb s), undef, .pointer (some ⟨w.heap.size, 0, none⟩), .pointer (some ⟨w.heap.size + 1, 0, none⟩), .pointer (some ⟨w.heap.size + 1 + 1, 0, none⟩), .pointer (some ⟨w.heap.size + 1 + 1 + 1, 0, none⟩), .string (sb (F k)), undef, .string (sb s), .func (.func 49) #[] #[.pointer (some ⟨w.heap.size + 1 + 1 + 1 + 1, 0, none⟩)], .string (sb (F k)), undef, undef, undef, undef, undef, undef, undef, undef, undef, undef, undef, undef, undef, undef], defers := [] })
    (fun l J Jx W hJ hS h0 hY => words_it l J Jx W HS.out (fun k W hj => by
      obtain ⟨r, _, h2⟩ := hJ k W hj
      exact ⟨HG.out.below h2.bel, h2.z4.cell 0⟩) hS h0 (fun k W hk h => by rw [hF k]; exact hY k W hk h)) ?assign ?body ?done ?stop
  case assign =>
    intro l k W K hk hK
    gi_wp2
    exact hK
  case body =>
    intro l k W hk hsz hI
    obtain ⟨r, hd, hR⟩ := hI
    have HB : Hid (RB w W (R.vals R0) false r s) := hR
    rw [List.drop_eq_getElem_cons hk, rdg] at hd
    have hg : F k = (parts 32 s)[k] := by rw [← hF k, List.getD_eq_getElem?_getD, List.getElem?_eq_getElem hk]; rfl
    rw [hg]
    clear hg hF
    have pl := PL.out k hk
    have NX : Hid (∀ (r' : Sv.R) (W' : World), rdg r' ((parts 32 s).drop (k + 1)) = D → RB w W' (R.vals R0) false r' s → ∃ r, rdg r ((parts 32 s).drop (k + 1)) = D ∧ RB w W' (R.vals R0) false r s) := fun r' W' h1 h2 => ⟨r', h1, h2⟩
    have gW := HG.out.below hR.bel
    generalize (parts 32 s).drop (k + 1) = rest at *
    generalize (parts 32 s)[k] = x at *
    rw [World.size_alloc, World.size_alloc, World.size_alloc, World.size_alloc, World.size_alloc] at hsz ⊢
    have TW : Hid (w.heap.size + 1 + 1 + 1 + 1 + 1 + 1 < W.heap.size) := hsz.lt
    have k0 := hR.z2.cell 0
    have kf := hR.z2.free 0
    have c0 := hR.z0.cell 0
    have c1 := hR.z0.cell 1
    have c2 := hR.z0.cell 2
    have c3 := hR.z0.cell 3
    have c4 := hR.z0.cell 4
    have f0 := hR.z0.free 0
    have f1 := hR.z0.free 1
    have f2 := hR.z0.free 2
    have f3 := hR.z0.free 3
    have f4 := hR.z0.free 4
    have d0 := hR.z1.cell 0
    have d1 := hR.z1.free 0
    simp only [R.vals, R0, List.getElem?_cons_zero, List.getElem?_cons_succ] at c0 c1 c2 c3 c4
    by_cases hk0 : r.k = 0
    · have q0 : (r.k == 0) = true := by rw [beq_iff_eq]; exact hk0
      have CK : Hid (∀ _ : Unit, _) := fun _ => kof_any x W gW
      rw [stp, if_pos hk0] at hd
      by_cases h0 : krOf x = 0
      · rw [if_pos h0] at hd
        have hD : Hid (D = none) := hd.symm
        rw [h0] at CK
        have E0 : Hid (RB w _ (R.vals R0) false _ s) := (HB.out.kind ((0 : Nat) : Int)).six rfl R0 false
        have TW2 : Hid (Tw2 (w.heap.size + 1 + 1 + 1 + 1 + 1) W _) := six_tw (r := R0) (b := false) (z := w.heap.size) (tw_set (p := ⟨w.heap.size + 1 + 1, 0, none⟩) ⟨rfl, rfl⟩ (by show w.heap.size + 1 + 1 < w.heap.size + 1 + 1 + 1 + 1 + 1; omega) (.int .i64 ((0 : Nat) : Int))) (by omega)
        have E1 := (HB.out.kind ((0 : Nat) : Int)).z0
        have E2 := (HB.out.kind ((0 : Nat) : Int)).z1
        have x0 := E1.cell 0
        have x1 := E1.cell 1
        have x2 := E1.cell 2
        have x3 := E1.cell 3
        have x4 := E1.cell 4
        have y0 := E1.free 0
        have y1 := E1.free 1
        have y2 := E1.free 2
        have y3 := E1.free 3
        have y4 := E1.free 4
        have v0 := E2.cell 0
        have v1 := E2.free 0
        simp only [R.vals, R0, List.getElem?_cons_zero, List.getElem?_cons_succ] at x0 x1 x2 x3 x4
        unfold six at E0 TW2
        dsimp only [R0] at E0 TW2
        clear hd hk0 h0 hR gW hsz pl E1 E2
        gi_wp2_with fail
        refine ⟨trivial, (CallsIn.inRound l (callsIn_wide.2 (CK.out ()))).mono ?_⟩
        rintro e w' ⟨rfl, rfl⟩
        gi_wp2
        exact ⟨TW2.out, hD.out, _, E0.out⟩
      · rw [if_neg h0, Option.bind_some] at hd
        have q1 : (((krOf x : Nat) : Int) == 0) = false := by rw [beq_eq_false_iff_ne]; omega
        have E0 : Hid (RB w _ (R.vals R0) false _ s) := HB.out.kind ((krOf x : Nat) : Int)
        have HD : Hid (rdg { r with k := ((krOf x : Nat) : Int) } rest = D) := hd
        have TW2 : Hid (Tw2 (w.heap.size + 1 + 1 + 1 + 1 + 1) W _) := tw_set (p := ⟨w.heap.size + 1 + 1, 0, none⟩) ⟨rfl, rfl⟩ (by show w.heap.size + 1 + 1 < w.heap.size + 1 + 1 + 1 + 1 + 1; omega) (.int .i64 ((krOf x : Nat) : Int))
        clear hd hk0 h0 hR gW hsz pl
        generalize ((krOf x : Nat) : Int) = kx at *
        have q2 : (kx != 0) = true := by unfold bne; rw [q1]; rfl
        have q3 : (!kx != 0) = false := by rw [q2]; rfl
        gi_wp2_with fail
        refine ⟨trivial, (CallsIn.inRound l (callsIn_wide.2 (CK.out ()))).mono ?_⟩
        rintro e w' ⟨rfl, rfl⟩
        gi_wp2
        exact ⟨TW2.out, NX.out _ _ HD.out E0.out⟩
    · have q0 : (r.k == 0) = false := by rw [beq_eq_false_iff_ne]; exact hk0
      have CP : Hid (∀ _ : Unit, _) := fun _ => put_any r x pl _ W gW hR.z3
      rw [stp, if_neg hk0] at hd
      cases hp : putR r x with
      | none =>
        rw [hp] at hd
        have hD : Hid (D = none) := hd.symm
        have HP : Hid (putR r x = none) := hp
        clear hd hk0 gW hsz pl hp hR c0 c1 c2 c3 c4 f0 f1 f2 f3 f4 d0 d1
        gi_wp2_with fail
        refine ⟨trivial, (CallsIn.inRound l (callsIn_wide.2 (CP.out ()))).mono ?_⟩
        rintro e w' PA
        have e1 := PA.is
        rw [HP.out] at e1
        obtain rfl := e1
        have E3 : RB w w' (R.vals R0) false r s := HB.out.flds PA.fr (by have := PA.bk; rw [HP.out] at this; exact this) rfl
        have E0 : Hid (RB w _ (R.vals R0) false _ s) := E3.six rfl R0 false
        have TW2 : Hid (Tw2 (w.heap.size + 1 + 1 + 1 + 1 + 1) W _) := six_tw (r := R0) (b := false) (z := w.heap.size) (fr_tw PA.fr TW.out (by simp; omega) (by simp; omega)) (by omega)
        have x0 := E3.z0.cell 0
        have x1 := E3.z0.cell 1
        have x2 := E3.z0.cell 2
        have x3 := E3.z0.cell 3
        have x4 := E3.z0.cell 4
        have y0 := E3.z0.free 0
        have y1 := E3.z0.free 1
        have y2 := E3.z0.free 2
        have y3 := E3.z0.free 3
        have y4 := E3.z0.free 4
        have v0 := E3.z1.cell 0
        have v1 := E3.z1.free 0
        simp only [R.vals, R0, List.getElem?_cons_zero, List.getElem?_cons_succ] at x0 x1 x2 x3 x4
        unfold six at E0 TW2
        dsimp only [R0] at E0 TW2
        clear PA E3 HP
        gi_wp2
        exact ⟨TW2.out, hD.out, _, E0.out⟩
      | some r' =>
        rw [hp, Option.bind_some] at hd
        have HD : Hid (rdg r' rest = D) := hd
        have HP : Hid (putR r x = some r') := hp
        clear hd hk0 gW hsz pl hp hR c0 c1 c2 c3 c4 f0 f1 f2 f3 f4 d0 d1
        gi_wp2_with fail
        refine ⟨trivial, (CallsIn.inRound l (callsIn_wide.2 (CP.out ()))).mono ?_⟩
        rintro e w' PA
        have e1 := PA.is
        rw [HP.out] at e1
        obtain rfl := e1
        have E0 : Hid (RB w w' (R.vals R0) false r' s) := HB.out.flds PA.fr (by have := PA.bk; rw [HP.out] at this; exact this) (putR_k HP.out)
        have TW2 : Hid (Tw2 (w.heap.size + 1 + 1 + 1 + 1 + 1) W w') := fr_tw PA.fr TW.out (by simp; omega) (by simp; omega)
        clear PA HP
        gi_wp2
        exact ⟨TW2.out, NX.out _ _ HD.out E0.out⟩
  case done =>
    rintro W hI hK
    obtain ⟨r, hd, hR⟩ := hI
    rw [List.drop_length] at hd
    have hd2 : D = some r := hd.symm
    obtain rfl := RA.out.1 r hd2
    rw [World.size_alloc, World.size_alloc, World.size_alloc, World.size_alloc, World.size_alloc] at hK ⊢
    have CR : Hid (∀ w, _) := fun w => record_any r w
    have HK : Hid (W.heap[w.heap.size + 1 + 1 + 1 + 1 + 1]? = some (.deferred (some []))) := hK
    have HB : Hid (RB w W (R.vals R0) false r s) := hR
    have k0 := hR.z2.cell 0
    have c0 := hR.z3.cell 0
    have c1 := hR.z3.cell 1
    have c2 := hR.z3.cell 2
    have c3 := hR.z3.cell 3
    obtain ⟨kq, cq, iq, nq, yq⟩ := r
    simp only [fls, List.getElem?_cons_zero, List.getElem?_cons_succ] at k0 c0 c1 c2 c3
    dsimp only [R.vals, fls] at CR ⊢
    clear hK hR hd hd2 RA
    gi_wp2_with fail
    refine ⟨trivial, (callsIn_wide.2 (CR.out _)).mono ?_⟩
    rintro e V ⟨rfl, bv⟩
    have E3 := HB.out.up bv
    have K3 : V.heap[w.heap.size + 1 + 1 + 1 + 1 + 1]? = some (.deferred (some [])) := (bv.block _ (Array.getElem?_eq_some_iff.1 HK.out).1).trans HK.out
    have E6 := E3.six rfl ⟨kq, cq, iq, nq, yq⟩ true
    have K6 := six_keep (z := w.heap.size) (r := ⟨kq, cq, iq, nq, yq⟩) (b := true) K3 (by omega)
    have E7 : Hid (RB w _ (R.vals ⟨kq, cq, iq, nq, yq⟩) true ⟨kq, cq, iq, nq, yq⟩ s) := (abd_rb (by omega)).turn _ _ _ (.deferred none) (Nat.le_refl _) K6 rfl E6
    have x0 := E3.z0.cell 0
    have x1 := E3.z0.cell 1
    have x2 := E3.z0.cell 2
    have x3 := E3.z0.cell 3
    have x4 := E3.z0.cell 4
    have y0 := E3.z0.free 0
    have y1 := E3.z0.free 1
    have y2 := E3.z0.free 2
    have y3 := E3.z0.free 3
    have y4 := E3.z0.free 4
    have v0 := E3.z1.cell 0
    have v1 := E3.z1.free 0
    simp only [R.vals, R0, List.getElem?_cons_zero, List.getElem?_cons_succ] at x0 x1 x2 x3 x4
    unfold six at K6 E7
    have HK6 : Hid _ := K6
    clear bv E3 K3 E6 K6
    gi_wp2
    refine ⟨by simp, .inl ⟨_, _, rfl, run_takeDeferred HK6.out, ?_⟩⟩
    refine ⟨.tuple #[.agg #[.int .i64 kq, .int .i64 cq, .int .i64 iq, .int .i64 nq, .int .i64 yq], .bool true], rd_ret (x := ⟨kq, cq, iq, nq, yq⟩) E7.out.z0 E7.out.z1 rfl rfl, rfl, E7.out.bel⟩
  case stop =>
    rintro W ⟨hd, r, hR⟩ hK
    obtain rfl := RA.out.2 hd
    rw [World.size_alloc, World.size_alloc, World.size_alloc, World.size_alloc, World.size_alloc] at hK ⊢
    have E7 : Hid (RB w _ (R.vals R0) false r s) := (abd_rb (by omega)).turn _ _ _ (.deferred none) (Nat.le_refl _) hK rfl hR
    have HK6 : Hid _ := hK
    clear hR hK hd RA
    gi_wp2
    refine ⟨by simp, .inl ⟨_, _, rfl, run_takeDeferred HK6.out, ?_⟩⟩
    exact ⟨_, rd_ret (x := R0) E7.out.z0 E7.out.z1 rfl rfl, rfl, E7.out.bel⟩
end Go.Proofs.YtnmbacegcbjfaaaDoor
