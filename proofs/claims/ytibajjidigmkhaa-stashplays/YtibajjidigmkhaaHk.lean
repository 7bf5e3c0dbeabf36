/- A stash of the program and the document's, in the middle of a law; what the law's 'do' answers and leaves. -/
import Derived.Test.YtibajjidigmkhaaRows
import Derived.Test.YtibajjidigmkhaaHg
import Derived.Test.YtibajjidigmkhaaHh
import Derived.Test.YtibajjidigmkhaaFs
import Derived.WalkKit
import Derived.ProofKit
import Derived.OpenShut
import Derived.BigQuiet
import Derived.Deep.RegionHeld3
namespace Go.Proofs.Ytibajjidigmkhaa
open Go.ChangeShapes Go.WideShapes Go.ChangeAt Go.RowKit
open Om Hm

/-- Where the two stashes lie. -/
structure Pl where
  b : Nat
  pb : Nat
  lb : Nat
  rb : Nat
  rp : Nat
  rg : Nat
  rl : Nat

/-- Both stashes, alike; nothing below block s has turned. -/
structure SI (w wr : World) (s n m : Nat) (P : Pl) (A : List Nat) (V R : List Value) (K : List (List Int)) : Prop where
  h : SH wr P.b P.pb P.lb n m A V K
  r : RH wr P.rb P.rp P.rg P.rl n m A R K
  kv : Kv m A K
  bel : Below s w wr
  up : s ≤ P.b ∧ s ≤ P.pb ∧ s ≤ P.lb ∧ s ≤ P.rg ∧ s ≤ P.rl
  uv : ∀ g ∈ bl V, s ≤ g
  ur : ∀ g ∈ bl R, s ≤ g
  ne : P.lb ≠ P.rl
  ap : ∀ g ∈ bl V, g ∉ bl R

theorem SI.le {w wr : World} {s n m : Nat} {P : Pl} {A : List Nat} {V R : List Value} {K : List (List Int)} (h : SI w wr s n m P A V R K) : s ≤ wr.heap.size := by
  have := h.h.st.sb.lt
  have := h.up.1
  omega
theorem SI.sm {w wr w1 : World} {s n m : Nat} {P : Pl} {A : List Nat} {V R : List Value} {K : List (List Int)} (h : SI w wr s n m P A V R K) (e : Sm w1 wr) : SI w w1 s n m P A V R K :=
  ⟨h.h.heap e.1, h.r.heap e.1, h.kv, e.below h.bel, h.up, h.uv, h.ur, h.ne, h.ap⟩
theorem SI.keep {w wr w1 : World} {s n m : Nat} {P : Pl} {A : List Nat} {V R : List Value} {K : List (List Int)} (h : SI w wr s n m P A V R K) (f : Below wr.heap.size wr w1) : SI w w1 s n m P A V R K :=
  ⟨h.h.keep (Fr.of_below f) (Nat.le_refl _) (by simp) (by simp) (by simp) (by simp), h.r.keep (Fr.of_below f) (Nat.le_refl _) (by simp) (by simp) (by simp) (by simp), h.kv, h.bel.trans (f.mono h.le), h.up, h.uv, h.ur, h.ne, h.ap⟩

/-- The document's stash behind a call of the program's. -/
theorem SI.other {w wr w1 : World} {s n m : Nat} {P : Pl} {A : List Nat} {V R : List Value} {K : List (List Int)} (h : SI w wr s n m P A V R K) {A2 : List Nat} {K2 : List (List Int)} (k : SC wr w1 P.b P.pb P.lb n m V A2 K2) : RH w1 P.rb P.rp P.rg P.rl n m A R K := by
  have t1 : ∀ q, q ∈ P.lb :: P.pb :: bl V → ∀ {cs : List Value} {t : TypeId}, Blk wr q cs t → t = 22 ∧ q = P.lb ∨ t = 62 ∨ t = 3 := fun q hq cs t bq => by
    simp only [List.mem_cons] at hq
    rcases hq with e | e | e
    · subst e
      have := (show wr.heap[P.lb]? = _ from bq).symm.trans h.h.st.sl
      simp at this
      exact Or.inl ⟨this.2, rfl⟩
    · subst e
      have := (show wr.heap[P.pb]? = _ from bq).symm.trans h.h.po.sb
      simp at this
      exact Or.inr (Or.inl this.2)
    · right
      right
      by_cases z : t = 3
      · exact z
      · exact absurd e (h.h.st.not bq z)
  refine h.r.keep k.fr (Nat.le_refl _) ⟨fun hq => ?_, fun hq => ?_⟩ (fun hq => ?_) (fun hq => ?_) (fun g hg hq => ?_)
  · rcases t1 _ hq h.r.po.sb with ⟨e, _⟩ | e | e <;> exact absurd e (by decide)
  · rcases t1 _ hq h.r.po.sg with ⟨e, _⟩ | e | e <;> exact absurd e (by decide)
  · rcases t1 _ hq h.r.st.sb with ⟨e, _⟩ | e | e <;> exact absurd e (by decide)
  · rcases t1 _ hq h.r.st.sl with ⟨_, e⟩ | e | e
    · exact h.ne e.symm
    · exact absurd e (by decide)
    · exact absurd e (by decide)
  · simp only [List.mem_cons] at hq
    rcases hq with e | e | e
    · subst e
      exact h.r.st.not h.h.st.sl (by decide) hg
    · subst e
      exact h.r.st.not h.h.po.sb (by decide) hg
    · exact h.ap g e hg

theorem SI.act {w wr w1 w2 : World} {s n m : Nat} {P : Pl} {A : List Nat} {V R : List Value} {K : List (List Int)} (h : SI w wr s n m P A V R K) {A2 : List Nat} {K2 : List (List Int)} (k : SC wr w1 P.b P.pb P.lb n m V A2 K2) (l : RC w1 w2 P.rb P.rp P.rg P.rl n m R A2 K2) (kv : Kv m A2 K2) :
    ∃ V2 R2, SI w w2 s n m P A2 V2 R2 K2 := by
  have r1 := h.other k
  obtain ⟨V2, h2, hV⟩ := k.ex
  obtain ⟨R2, h3, hR⟩ := l.ex
  have hl := h.le
  have z1 := k.fr.size
  obtain ⟨u1, u2, u3, u4, u5⟩ := h.up
  have ltR : ∀ g ∈ bl R, g < wr.heap.size := fun g hg => h.r.st.bl_lt hg
  have ltV : ∀ g ∈ bl V2, g < w1.heap.size := fun g hg => h2.st.bl_lt hg
  have apV : ∀ g ∈ bl V2, g ∉ bl R := fun g hg hm => by
    rcases hV g hg with e | e
    · exact h.ap g e hm
    · have := ltR g hm
      omega
  have t1 : ∀ q, q ∈ P.rl :: P.rg :: bl R → ∀ {cs : List Value} {t : TypeId}, Blk w1 q cs t → t = 22 ∧ q = P.rl ∨ t = 4 ∨ t = 3 := fun q hq cs t bq => by
    simp only [List.mem_cons] at hq
    rcases hq with e | e | e
    · subst e
      have := (show w1.heap[P.rl]? = _ from bq).symm.trans r1.st.sl
      simp at this
      exact Or.inl ⟨this.2, rfl⟩
    · subst e
      have := (show w1.heap[P.rg]? = _ from bq).symm.trans r1.po.sg
      simp at this
      exact Or.inr (Or.inl this.2)
    · right
      right
      by_cases z : t = 3
      · exact z
      · exact absurd e (r1.st.not bq z)
  refine ⟨V2, R2, h2.keep l.fr (Nat.le_refl _) (fun hq => ?_) (fun hq => ?_) (fun hq => ?_) (fun g hg hq => ?_), h3, kv, (h.bel.trans ((k.fr.less hl).below fun g hg => ?_)).trans ((l.fr.less (by omega)).below fun g hg => ?_), h.up, fun g hg => ?_, fun g hg => ?_, h.ne, fun g hg hm => ?_⟩
  · rcases t1 _ hq h2.po.sb with ⟨e, _⟩ | e | e <;> exact absurd e (by decide)
  · rcases t1 _ hq h2.st.sb with ⟨e, _⟩ | e | e <;> exact absurd e (by decide)
  · rcases t1 _ hq h2.st.sl with ⟨_, e⟩ | e | e
    · exact h.ne e
    · exact absurd e (by decide)
    · exact absurd e (by decide)
  · simp only [List.mem_cons] at hq
    rcases hq with e | e | e
    · subst e
      exact h2.st.not r1.st.sl (by decide) hg
    · subst e
      exact h2.st.not r1.po.sg (by decide) hg
    · exact apV g hg e
  · simp only [List.mem_cons] at hg
    rcases hg with e | e | e
    · omega
    · omega
    · exact h.uv g e
  · simp only [List.mem_cons] at hg
    rcases hg with e | e | e
    · omega
    · omega
    · exact h.ur g e
  · rcases hV g hg with e | e
    · exact h.uv g e
    · omega
  · rcases hR g hg with e | e
    · exact h.ur g e
    · omega
  · rcases hR g hm with e | e
    · exact apV g hg e
    · have := ltV g hg
      omega

set_option maxRecDepth 100000 in
set_option maxHeartbeats 4000000 in
theorem do_any {w wr : World} {s n m : Nat} {P : Pl} {A : List Nat} {V R : List Value} {K : List (List Int)} (y0 y1 y2 : Int) (h0 : SI w wr s n m P A V R K) :
    Calls Try.prog 25 #[.pointer (some ⟨P.b, 0, none⟩), .pointer (some ⟨P.rb, 0, none⟩), .agg #[.int .i64 y0, .int .i64 y1, .int .i64 y2]] wr fun e w' => e = .returned (.bool true) ∧ ∃ A2 V2 R2 K2, SI w w' s n m P A2 V2 R2 K2 := by
  have h := h0.keep (w1 := wr.alloc (.cells #[.int .i64 y0, .int .i64 y1, .int .i64 y2] 50)) (((Fr.refl wr.heap.size [] wr).alloc (Nat.le_refl _) _).below (by simp))
  have BA : Blk (wr.alloc (.cells #[.int .i64 y0, .int .i64 y1, .int .i64 y2] 50)) wr.heap.size [.int .i64 y0, .int .i64 y1, .int .i64 y2] 50 := Blk.new wr [.int .i64 y0, .int .i64 y1, .int .i64 y2] 50
  have hn := h.h.st.kn
  have b0 := BA.cell 0
  have b1 := BA.cell 1
  have b2 := BA.cell 2
  simp only [List.getElem?_cons_zero, List.getElem?_cons_succ] at b0 b1 b2
  obtain ⟨pa, hpa⟩ : ∃ pa, wr.heap.size = pa := ⟨_, rfl⟩
  have HPA : Hid (wr.heap.size = pa) := hpa
  have KB : Hid (∀ (u1 : World) (A2 : List Nat) (K2 : List (List Int)), SC (wr.alloc (.cells #[.int .i64 y0, .int .i64 y1, .int .i64 y2] 50)) u1 P.b P.pb P.lb n m V A2 K2 → Blk u1 pa [.int .i64 y0, .int .i64 y1, .int .i64 y2] 50) := fun u1 A2 K2 k => by
    rw [hpa] at BA
    refine BA.keep k.fr BA.lt fun hm => ?_
    simp only [List.mem_cons] at hm
    rcases hm with e | e | e
    · exact (BA.ne h.h.st.sl (by decide)) e
    · exact (BA.ne h.h.po.sb (by decide)) e
    · exact h.h.st.not BA (by decide) e
  rw [hpa] at b0 b1 b2
  have ACT : Hid (∀ (u1 u2 : World) (A2 : List Nat) (K2 : List (List Int)), SC (wr.alloc (.cells #[.int .i64 y0, .int .i64 y1, .int .i64 y2] 50)) u1 P.b P.pb P.lb n m V A2 K2 → RC u1 u2 P.rb P.rp P.rg P.rl n m R A2 K2 → Kv m A2 K2 → ∃ V2 R2, SI w u2 s n m P A2 V2 R2 K2) := fun u1 u2 A2 K2 a b c => h.act a b c
  have OTH : Hid (∀ (u1 : World) (A2 : List Nat) (K2 : List (List Int)), SC (wr.alloc (.cells #[.int .i64 y0, .int .i64 y1, .int .i64 y2] 50)) u1 P.b P.pb P.lb n m V A2 K2 → RH u1 P.rb P.rp P.rg P.rl n m A R K) := fun u1 A2 K2 k => h.other k
  by_cases t0 : y0.tmod 3 = 0
  · have e0 : (y0.tmod 3 == 0) = true := by simpa using t0
    have C1 : Hid (∀ _ : Unit, _) := fun _ => salloc_any y1 _ h.h h.kv.kl
    have C2 : Hid (∀ u : World, RH u P.rb P.rp P.rg P.rl n m A R K → _) := fun u hu => rsalloc_any y1 u hu h.kv.kl (h.kv.al y1.toNat).1.nd
    have K2 : Hid (Kv m (alA m n A K y1) (alK m n A K y1)) := kv_alloc h.kv hn y1
    generalize alA m n A K y1 = A2 at *
    generalize alK m n A K y1 = K2' at *
    generalize alN m n A K y1 = nn at *
    generalize alE m n A K y1 = ee at *
    have q1 : (nn == nn) = true := by simp
    have q2 : (ee == ee) = true := by simp
    clear t0 h h0 hn BA
    go_enter Try.func25, Try.ntmps25
    go_wp2_with fail
    refine (C1.out ()).mono ?_
    rintro e u1 ⟨rfl, k1⟩
    have B1 := (KB.out u1 _ _ k1).cell 1
    simp only [List.getElem?_cons_zero, List.getElem?_cons_succ] at B1
    have S1 : Hid (SC _ u1 P.b P.pb P.lb n m V A2 K2') := k1
    have O1 : Hid (RH u1 P.rb P.rp P.rg P.rl n m A R K) := OTH.out u1 _ _ k1
    clear k1
    go_wp2_with fail
    refine (C2.out u1 O1.out).mono ?_
    rintro e u2 ⟨rfl, k2⟩
    have F2 : Hid (∃ V2 R2, SI w u2 s n m P A2 V2 R2 K2') := ACT.out u1 u2 _ _ S1.out k2 K2.out
    clear k2
    go_wp2
    go_ret
    obtain ⟨V2, R2, f2⟩ := F2.out
    exact ⟨rfl, A2, V2, R2, K2', f2⟩
  · have e0 : (y0.tmod 3 == 0) = false := by simpa using t0
    by_cases t1 : y0.tmod 3 = 1
    · have e1 : (y0.tmod 3 == 1) = true := by simpa using t1
      have C1 : Hid (∀ u : World, Sm u (wr.alloc (.cells #[.int .i64 y0, .int .i64 y1, .int .i64 y2] 50)) → Calls Try.prog 35 #[.pointer (some ⟨P.b, 0, none⟩), .int .i64 y1, .int .i64 y2] u fun e w' => e = .returned (.int .i64 (giE m n A K y1 y2)) ∧ SC (wr.alloc (.cells #[.int .i64 y0, .int .i64 y1, .int .i64 y2] 50)) w' P.b P.pb P.lb n m V (giA m n A K y1 y2) (giK m n A K y1 y2)) := fun u e => (sgive_any y1 y2 u (h.h.heap e.1) h.kv.kl).mono fun _ w' ⟨r1, r2⟩ => ⟨r1, SC.from e r2⟩
      have C2 : Hid (∀ (u1 u : World), RH u1 P.rb P.rp P.rg P.rl n m A R K → Sm u u1 → Calls Try.prog 45 #[.pointer (some ⟨P.rb, 0, none⟩), .int .i64 y1, .int .i64 y2] u fun e w' => e = .returned (.int .i64 (giE m n A K y1 y2)) ∧ RC u1 w' P.rb P.rp P.rg P.rl n m R (giA m n A K y1 y2) (giK m n A K y1 y2)) := fun u1 u hu e => (rsgive_any y1 y2 u (hu.heap e.1) h.kv.kl).mono fun _ w' ⟨r1, r2⟩ => ⟨r1, RC.from e r2⟩
      have K2 : Hid (Kv m (giA m n A K y1 y2) (giK m n A K y1 y2)) := kv_give h.kv hn y1 y2
      generalize giA m n A K y1 y2 = A2 at *
      generalize giK m n A K y1 y2 = K2' at *
      generalize giE m n A K y1 y2 = ee at *
      have q2 : (ee == ee) = true := by simp
      have KB2 : Hid (∀ (u1 u2 : World), SC (wr.alloc (.cells #[.int .i64 y0, .int .i64 y1, .int .i64 y2] 50)) u1 P.b P.pb P.lb n m V A2 K2' → RC u1 u2 P.rb P.rp P.rg P.rl n m R A2 K2' → Blk u2 pa [.int .i64 y0, .int .i64 y1, .int .i64 y2] 50) := fun u1 u2 k l => by
        have b1 := KB.out u1 _ _ k
        have r1 := OTH.out u1 _ _ k
        refine b1.keep l.fr b1.lt fun hm => ?_
        simp only [List.mem_cons] at hm
        rcases hm with e | e | e
        · exact (b1.ne r1.st.sl (by decide)) e
        · exact (b1.ne r1.po.sg (by decide)) e
        · exact r1.st.not b1 (by decide) e
      clear t0 t1 h h0 hn BA
      go_enter Try.func25, Try.ntmps25
      go_wp2_with fail
      go_region_held3 (fun w' => w'.cell? ⟨pa, 1, none⟩ = some (.int .i64 y1) ∧ w'.cell? ⟨pa, 2, none⟩ = some (.int .i64 y2)) (go_keep)
        (first | (go_at_call 35; refine (C1.out _ ?_).mono ?_; exact ⟨rfl, rfl, rfl, rfl⟩; rintro e u1 ⟨rfl, k1⟩; have B1 := KB.out u1 _ _ k1; have d1 := B1.cell 1; have d2 := B1.cell 2; simp only [List.getElem?_cons_zero, List.getElem?_cons_succ] at d1 d2; have S1 : Hid (SC _ u1 P.b P.pb P.lb n m V A2 K2') := k1; have O1 : Hid (RH u1 P.rb P.rp P.rg P.rl n m A R K) := OTH.out u1 _ _ k1; clear k1 B1) | (go_at_call 45; refine (C2.out u1 _ O1.out ?_).mono ?_; exact ⟨rfl, rfl, rfl, rfl⟩; rintro e u2 ⟨rfl, k2⟩; have B2 := KB2.out u1 u2 S1.out k2; have g1 := B2.cell 1; have g2 := B2.cell 2; simp only [List.getElem?_cons_zero, List.getElem?_cons_succ] at g1 g2; have F2 : Hid (∃ V2 R2, SI w u2 s n m P A2 V2 R2 K2') := ACT.out u1 u2 _ _ S1.out k2 K2.out; clear k2 B2))
      all_goals go_wp2
      all_goals go_ret
      all_goals (
        obtain ⟨V2, R2, f2⟩ := F2.out
        exact ⟨rfl, A2, V2, R2, K2', f2.sm ⟨rfl, rfl, rfl, rfl⟩⟩)
    · have e1 : (y0.tmod 3 == 1) = false := by simpa using t1
      have C1 : Hid (∀ _ : Unit, _) := fun _ => sdrain_any y1 _ h.h h.kv.kl
      have C2 : Hid (∀ u : World, RH u P.rb P.rp P.rg P.rl n m A R K → _) := fun u hu => rsdrain_any y1 u hu h.kv.kl
      have K2 : Hid (Kv m (drA m n A K y1) (drK n K y1)) := kv_drain h.kv hn y1
      generalize drA m n A K y1 = A2 at *
      generalize drK n K y1 = K2' at *
      generalize drN n K y1 = nn at *
      generalize drE n y1 = ee at *
      have q1 : (nn == nn) = true := by simp
      have q2 : (ee == ee) = true := by simp
      clear t0 t1 h h0 hn BA
      go_enter Try.func25, Try.ntmps25
      go_wp2_with fail
      refine (C1.out ()).mono ?_
      rintro e u1 ⟨rfl, k1⟩
      have B1 := (KB.out u1 _ _ k1).cell 1
      simp only [List.getElem?_cons_zero, List.getElem?_cons_succ] at B1
      have S1 : Hid (SC _ u1 P.b P.pb P.lb n m V A2 K2') := k1
      have O1 : Hid (RH u1 P.rb P.rp P.rg P.rl n m A R K) := OTH.out u1 _ _ k1
      clear k1
      go_wp2_with fail
      refine (C2.out u1 O1.out).mono ?_
      rintro e u2 ⟨rfl, k2⟩
      have F2 : Hid (∃ V2 R2, SI w u2 s n m P A2 V2 R2 K2') := ACT.out u1 u2 _ _ S1.out k2 K2.out
      clear k2
      go_wp2
      go_ret
      obtain ⟨V2, R2, f2⟩ := F2.out
      exact ⟨rfl, A2, V2, R2, K2', f2⟩
end Go.Proofs.Ytibajjidigmkhaa
