/- Contracts of the program's layers, as far as this claim needs them. -/
import Derived.Test.YtmkboahjkhkefaaGreatDoorQKnd
set_option linter.unusedVariables false
set_option linter.unusedSimpArgs false
namespace Go.Proofs.YtmkboahjkhkefaaGreatDoor.Krn
open Go.ChangeShapes Go.WideShapes Go.ChangeAt Go.RowKit
open Mm
def pl : Lay Nat where
  n := 1
  f := fun b => [.pointer (some ⟨b, 0, none⟩)]
  z := 0
  len := fun _ => rfl
  one := fun x u hu => by simp at hu; subst hu; rfl
  pos := by decide
theorem pl_all (G : List Nat) : pl.all G = G.map fun b => Value.pointer (some ⟨b, 0, none⟩) := by
  induction G with
  | nil => rfl
  | cons x G ih => rw [lay_cons, ih]; rfl
theorem Tryz.infoGp : (Tryz.prog.info? 55).map (fun i => (i.zero, i.size, i.bytes)) = some (some (.pointer none), 1, 8) := by kernel_rfl
structure NG (n : Nat) (w0 w : World) (z : Nat) (cs : List Value) (J : List Pt) (a : Option Addr) (c : Nat) (G : List Nat) : Prop where
  nb : NB (new n) w0 w z (cs ++ [.slice a G.length c]) J
  own : w.ownsRow 0 55 1 (.slice a G.length c) G.length (pl.all G)
  ob : ∀ g, (Value.slice a G.length c).ownBlock = some g → z < g ∧ ∀ j ∈ J, g ∉ j.2.2
  pg : ∀ g ∈ G, Frq.PG w g 100 1000 (Frq.lf []) 0
  gz : ∀ g ∈ G, z < g ∧ ∀ j ∈ J, g ∉ j.2.2
section
variable {n : Nat} {w0 w w' : World} {z : Nat} {cs : List Value} {J : List Pt} {a : Option Addr} {c : Nat} {G : List Nat}
theorem NG.start (h : NB (new n) w0 w z (cs ++ [.slice none 0 0]) J) : NG n w0 w z cs J none 0 [] := ⟨h, World.ownsRow_nil _ _ _ _, fun g e => (by cases e), fun g hg => (by cases hg), fun g hg => (by cases hg)⟩
theorem NG.start' (h : NB (new n) w0 w z (cs ++ [.slice none 0 0]) J) : ∃ cs' J', cs' = cs ∧ J' = J ∧ NG n w0 w z cs' J' none 0 [] := ⟨cs, J, rfl, rfl, NG.start h⟩
theorem NG.cell (h : NG n w0 w z cs J a c G) (hcs : cs.length = 17) : w.cell? ⟨z, 17, none⟩ = some (.slice a G.length c) := (h.nb.kb.cell 17).trans (by rw [← hcs]; simp)
theorem NG.below (h : NG n w0 w z cs J a c G) (b : Below w.heap.size w w') : NG n w0 w' z cs J a c G where
  nb := h.nb.keep (Fr.of_below b) (by simp) (by simp) (fun _ _ _ _ => by simp) (b.mono (Nat.le_of_lt h.nb.kb.lt))
  own := owng_keep h.own (Fr.of_below b) fun g e => ⟨owng_lt h.own e, by simp⟩
  ob := h.ob
  pg := fun g hg => (h.pg g hg).keep (Fr.of_below b) (h.pg g hg).sb.lt (by simp)
  gz := h.gz
theorem NG.app (h : NG n w0 w z cs J a c G) (hcs : cs.length = 17) (hl : G.length ≤ 64) {g : Nat} (p : Frq.PG w g 100 1000 (Frq.lf []) 0) (hg : z < g ∧ ∀ j ∈ J, g ∉ j.2.2) :
    ∃ a2 c2 w2, (Builtin.append_ #[82, 82] 82 #[.slice a G.length c, .slice (some ⟨w.heap.size, 0, none⟩) 1 1]).run Tryz.prog (w.alloc (.cells #[.pointer (some ⟨g, 0, none⟩)] 55)) = .ok (.slice a2 (G.length + 1) c2) w2 ∧ w2.cell? ⟨z, 17, none⟩ = some (.slice a G.length c) ∧ w2.frozen? ⟨z, 17, none⟩ = false ∧ NG n w0 (w2.setCell ⟨z, 17, none⟩ (.slice a2 (G.length + 1) c2)) z cs J a2 c2 (G ++ [g]) := by
  obtain ⟨i0, hi0, hz0, hz1, hz2⟩ := info_parts Tryz.infoGp
  obtain ⟨a2, c2, w2, run, o2, f, nn⟩ := lown_app (L := pl) (P := Tryz.prog) w 55 82 82 i0 _ 8 Tryz.underlying82 hi0 hz0 hz1 hz2 rfl (by decide) g h.own (by omega)
  have hz := h.nb.kb.lt
  have hz1 := h.nb.z1
  have mz : ∀ x, x ∈ (Value.slice a G.length c).ownBlock.toList → z < x ∧ ∀ j ∈ J, x ∉ j.2.2 := fun x hx => h.ob x (by simpa using hx)
  have bl : Below z w w2 := (f.less (Nat.le_of_lt hz)).below fun x hx => by have := (mz x hx).1; omega
  have nb := h.nb.keep f (fun e => by have := (mz z e).1; omega) (fun e => by have := (mz 0 e).1; omega) (fun j hj x hx e => (mz x e).2 j hj hx) bl
  have l17 : (cs ++ [Value.slice a G.length c])[17]? = some (.slice a G.length c) := by rw [← hcs]; simp
  have s17 : (cs ++ [Value.slice a G.length c]).set 17 (.slice a2 (G.length + 1) c2) = cs ++ [.slice a2 (G ++ [g]).length c2] := by
    rw [← hcs]
    simp
  have nz : ∀ x, (Value.slice a2 (G.length + 1) c2).ownBlock = some x → z < x ∧ ∀ j ∈ J, x ∉ j.2.2 := fun x hx => by
    rcases nn x hx with q | q
    · exact h.ob x q
    · refine ⟨by omega, fun j hj e => ?_⟩
      have := (h.nb.gt j hj x e).2
      omega
  have el : (G ++ [g]).length = G.length + 1 := by simp
  have fs : Fr w2.heap.size [z] w2 (w2.setCell ⟨z, 17, none⟩ (.slice a2 (G.length + 1) c2)) := (Fr.refl _ _ _).st z 17 _ (by simp)
  refine ⟨a2, c2, w2, run, (nb.kb.cell 17).trans l17, nb.kb.free 17, ⟨?_, ?_, ?_, ?_, ?_⟩⟩
  · have := nb.set 17 (.slice a2 (G.length + 1) c2)
    rw [s17] at this
    exact this
  · rw [el]
    rw [el] at o2
    exact owng_keep o2 fs fun x hx => ⟨owng_lt o2 hx, by have := (nz x hx).1; simp; omega⟩
  · rw [el]
    exact nz
  · have k1 : ∀ x, Frq.PG w x 100 1000 (Frq.lf []) 0 → z < x → Frq.PG (w2.setCell ⟨z, 17, none⟩ (.slice a2 (G.length + 1) c2)) x 100 1000 (Frq.lf []) 0 := fun x q l => by
      have q2 := q.keep f q.sb.lt (fun e => owng_ne h.own q.sb (by decide) (by simpa using e) rfl)
      exact q2.keep fs q2.sb.lt (by simp; omega)
    intro x hx
    rcases List.mem_append.1 hx with e | e
    · exact k1 x (h.pg x e) (h.gz x e).1
    · rw [List.mem_singleton.1 e]; exact k1 g p hg.1
  · intro x hx
    rcases List.mem_append.1 hx with e | e
    · exact h.gz x e
    · rw [List.mem_singleton.1 e]; exact hg
theorem NG.done (h : NG n w0 w z cs J a c G) (hn : G.length = n) (h1 : 1 ≤ n) : ∃ gv F, a = some ⟨gv, 0, none⟩ ∧ NB (new n) w0 w z (cs ++ [.slice a n c]) ((15, fun A => A.n = n ∧ A.gv = gv ∧ A.gs = fun i => G.getD i 0, F) :: J) := by
  subst hn
  rcases h.own.2 with ⟨_, e2⟩ | ⟨gv, cap, cur, hv, _, hg, hnc, _, hsz, ht⟩
  · omega
  · simp only [Value.slice.injEq] at hv
    obtain ⟨ha, _, hc⟩ := hv
    have ov : (Value.slice a G.length c).ownBlock = some gv := by rw [ha]; rfl
    have hb : Blk w gv cur.toList 55 := by unfold Blk; rw [Array.toArray_toList]; exact hg
    have eG : (List.range G.length).map (fun i => G.getD i 0) = G := List.ext_getElem (by simp) fun i h1 h2 => by simp [List.getD, h2]
    have ec : cur.toList = (List.range G.length).map (fun i => Value.pointer (some ⟨G.getD i 0, 0, none⟩)) ++ cur.toList.drop G.length := by
      have e1 : (List.range G.length).map (fun i => Value.pointer (some ⟨G.getD i 0, 0, none⟩)) = pl.all G := by
        have := congrArg (List.map fun b => Value.pointer (some ⟨b, 0, none⟩)) eG
        rw [List.map_map] at this
        rw [pl_all]
        exact this
      rw [e1, ← ht, Nat.mul_one, List.take_append_drop]
    refine ⟨gv, gv :: (List.range G.length).map (fun i => G.getD i 0), ha, h.nb.kb, h.nb.bel, fun j hj => ?_, List.pairwise_cons.2 ⟨fun y hy g hg => ?_, h.nb.dis⟩, fun j hj g hg => ?_, h.nb.tab, h.nb.z1⟩
    · rcases List.mem_cons.1 hj with rfl | hj
      · rintro A ⟨e1, e2, e3⟩
        unfold Part
        simp only
        rw [e1, e2, e3]
        refine ⟨cur.toList.drop G.length, by rw [← ec]; exact hb, fun i hi => ?_, rfl⟩
        exact ⟨100, 1000, _, _, h.pg (G.getD i 0) (by simp [List.getD, hi]), ⟨by decide, by decide, by decide⟩⟩
      · exact h.nb.p j hj
    · rw [eG] at hg
      rcases List.mem_cons.1 hg with rfl | hg
      · exact (h.ob _ ov).2 y hy
      · exact (h.gz g hg).2 y hy
    · rcases List.mem_cons.1 hj with rfl | hj
      · simp only [eG] at hg
        rcases List.mem_cons.1 hg with rfl | hg
        · exact ⟨(h.ob _ ov).1, hb.lt⟩
        · exact ⟨(h.gz g hg).1, (h.pg g hg).sb.lt⟩
      · exact h.nb.gt j hj g hg
end
theorem pw_ne {J : List Pt} (h : J.Pairwise (fun x y => ∀ g ∈ x.2.2, g ∉ y.2.2)) : ∀ x ∈ J, ∀ y ∈ J, x.1 ≠ y.1 → ∀ g ∈ x.2.2, g ∉ y.2.2 := by
  induction h with
  | nil => intro x hx; cases hx
  | cons hp _ ih =>
    intro x hx y hy ne g hg
    rcases List.mem_cons.1 hx with ex | hx2 <;> rcases List.mem_cons.1 hy with ey | hy2
    · exact absurd (by rw [ex, ey]) ne
    · subst ex; exact hp y hy2 g hg
    · subst ey; intro e; exact hp x hx2 g e hg
    · exact ih x hx2 y hy2 ne g hg
theorem NB.all {n : Nat} {w0 w : World} {z : Nat} {cs : List Value} {J : List Pt} (h : NB (new n) w0 w z cs J) (h1 : 1 ≤ n) (h2 : n ≤ 64) (a : KA) (an : a.n = n) (az : a.k = z) (ha : ∀ j ∈ J, j.2.1 a) (lim : Int) (hcs : cs = kc a (new n) lim) (ix : ∀ i, 1 ≤ i → i < 16 → i ∈ J.map Prod.fst) : KX z w0 [] a 0 (new n) w := by
  subst az
  have ex : ∀ i, ∃ F : List Nat, (i = 0 ∧ F = [a.k]) ∨ (1 ≤ i ∧ i < 16 ∧ ∃ j ∈ J, j.1 = i ∧ j.2.2 = F) ∨ 16 ≤ i := fun i => by
    by_cases e : i = 0
    · exact ⟨_, Or.inl ⟨e, rfl⟩⟩
    · by_cases l : i < 16
      · obtain ⟨j, hj, q⟩ := List.mem_map.1 (ix i (by omega) l)
        exact ⟨_, Or.inr (Or.inl ⟨by omega, l, j, hj, q, rfl⟩)⟩
      · exact ⟨[], Or.inr (Or.inr (by omega))⟩
  obtain ⟨F, hF⟩ := Classical.axiomOfChoice ex
  have hz := h.kb.lt
  refine ⟨⟨F, ⟨fun i hi => ?_, fun i k hi hk ne g hg => ?_, fun i hi g hg => ?_⟩, fun i hi g hg => ?_, fun x hx => by cases hx⟩, fun x hx => (by cases hx), h.bel, Nat.le_of_lt hz, h.z1, h.tab, by omega, by omega⟩
  · rcases hF i with ⟨rfl, e⟩ | ⟨_, _, j, hj, rfl, e⟩ | q
    · rw [e]
      refine ⟨⟨lim, ?_⟩, ⟨up_lt _, up_lt _⟩, rfl⟩
      rw [← hcs]
      exact h.kb
    · rw [← e]
      exact h.p j hj a (ha j hj)
    · omega
  · rcases hF i with ⟨rfl, e⟩ | ⟨_, _, j, hj, rfl, e⟩ | q
    · rw [e] at hg
      have hg := List.mem_singleton.1 hg
      rcases hF k with ⟨rfl, e2⟩ | ⟨_, _, j2, hj2, rfl, e2⟩ | q2
      · exact absurd rfl ne
      · rw [← e2, hg]
        intro q
        have := (h.gt j2 hj2 _ q).1
        omega
      · omega
    · rw [← e] at hg
      rcases hF k with ⟨rfl, e2⟩ | ⟨_, _, j2, hj2, rfl, e2⟩ | q2
      · rw [e2]
        intro q
        rw [List.mem_singleton.1 q] at hg
        have := (h.gt j hj _ hg).1
        omega
      · rw [← e2]
        exact pw_ne h.dis j hj j2 hj2 ne g hg
      · omega
    · omega
  · rcases hF i with ⟨rfl, e⟩ | ⟨_, _, j, hj, rfl, e⟩ | q
    · rw [e] at hg
      rw [List.mem_singleton.1 hg]
      exact hz
    · rw [← e] at hg
      exact (h.gt j hj g hg).2
    · omega
  · rcases hF i with ⟨rfl, e⟩ | ⟨_, _, j, hj, rfl, e⟩ | q
    · rw [e] at hg
      rw [List.mem_singleton.1 hg]
      exact Nat.le_refl _
    · rw [← e] at hg
      have := (h.gt j hj g hg).1
      omega
    · omega
end Go.Proofs.YtmkboahjkhkefaaGreatDoor.Krn
