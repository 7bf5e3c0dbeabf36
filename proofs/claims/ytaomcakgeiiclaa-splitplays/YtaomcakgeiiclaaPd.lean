/- What the document's number in parts answers and leaves (davitref06), for every one. -/
import Derived.Test.YtaomcakgeiiclaaRows
import Derived.Test.YtaomcakgeiiclaaPb
import Derived.WalkKit
import Derived.ProofKit
import Derived.OpenShut
import Derived.Laws.Entries
namespace Go.Proofs.Ytaomcakgeiiclaa
open Go.ChangeShapes Go.WideShapes Go.ChangeAt Go.RowKit
open Pm

/-- The document's parts at block b, its list at block g. -/
structure RL (w : World) (b g : Nat) (L : List Int) : Prop where
  sb : Blk w b [.slice (some ⟨g, 0, none⟩) L.length L.length] 76
  sg : Blk w g (L.map (Value.int .i64)) 2
  pt : Pt L

theorem RL.c0 {w : World} {b g : Nat} {L : List Int} (h : RL w b g L) : w.cell? ⟨b, 0, none⟩ = some (.slice (some ⟨g, 0, none⟩) L.length L.length) := h.sb.cell 0
theorem RL.ne {w : World} {b g : Nat} {L : List Int} (h : RL w b g L) : b ≠ g := h.sb.ne h.sg (by decide)
theorem RL.heap {w w1 : World} {b g : Nat} {L : List Int} (h : RL w b g L) (e : w1.heap = w.heap) : RL w1 b g L := ⟨h.sb.heap e, h.sg.heap e, h.pt⟩
theorem RL.keep {B : Nat} {S : List Nat} {w w' : World} {b g : Nat} {L : List Int} (h : RL w b g L) (k : Fr B S w w') (hb : b < B ∧ g < B) (hs : b ∉ S ∧ g ∉ S) : RL w' b g L :=
  ⟨h.sb.keep k hb.1 hs.1, h.sg.keep k hb.2 hs.2, h.pt⟩
theorem RL.at {w : World} {b g : Nat} {L : List Int} (h : RL w b g L) (i : Nat) (hi : i < L.length) : w.cell? ⟨g, i, none⟩ = some (.int .i64 (L.getD i 0)) := by
  rw [h.sg.cell i, getD_map_int L i hi]
theorem RL.row {w : World} {b g : Nat} {L : List Int} (h : RL w b g L) (cap : Nat) : Row w (.slice (some ⟨g, 0, none⟩) L.length cap) L := row_of_blk h.sg cap
theorem RL.len {w : World} {b g : Nat} {L : List Int} (h : RL w b g L) : (L.length : Int) ≤ 64 := by have := h.pt.n2; omega
/-- Behind a store into a part. -/
theorem rl_set {w : World} {b g : Nat} {L : List Int} (h : RL w b g L) (i : Nat) (x : Int) (hx : I64 x) : RL (w.setCell ⟨g, i, none⟩ (.int .i64 x)) b g (L.set i x) := by
  refine ⟨?_, ?_, pt_set h.pt i x hx⟩
  · have := h.sb.other (p := ⟨g, i, none⟩) h.ne (.int .i64 x)
    simpa using this
  · have := h.sg.set i (.int .i64 x)
    rwa [← List.map_set] at this

set_option maxHeartbeats 400000 in
theorem rnew_any (m : Nat) (w : World) (h1 : (1 : Int) ≤ m) (h2 : (m : Int) ≤ 64) :
    Calls Try.prog 29 #[.int .i64 (m : Int)] w fun e w' => e = .returned (.tuple #[.pointer (some ⟨w.heap.size + 1, 0, none⟩), .int .i64 0]) ∧ RL w' (w.heap.size + 1) w.heap.size (List.replicate m 0) ∧ Fr w.heap.size [] w w' := by
  have hmk := run_make_row' (P := Try.prog) 73 2 (.int .i64 0) 8 Try.underlying73 Try.infoL rfl .i64 .i64 m (by omega) (by omega)
  have F : Hid (∀ o1 o2, Fr w.heap.size [] w ((w.alloc o1).alloc o2)) := fun o1 o2 => ((Fr.refl _ _ _).alloc (Nat.le_refl _) o1).alloc (by simp) o2
  have G : Hid (Pt (List.replicate m 0)) := pt_new m (by omega) (by omega)
  go_enter Try.func29, Try.ntmps29
  go_wp2
  go_ret2
  refine ⟨rfl, ⟨?_, ?_, G.out⟩, F.out _ _⟩
  · have := Blk.new (w.alloc (Obj.cells (madeCells #[Value.int IntKind.i64 0] m) 2)) [.slice (some ⟨w.heap.size, 0, none⟩) m m] 76
    simpa using this
  · rw [made_int]
    exact (Blk.new w _ 2).alloc _

theorem rnew_bad (m : Int) (w : World) (h : m < 1 ∨ 64 < m) :
    Calls Try.prog 29 #[.int .i64 m] w fun e w' => e = .returned (.tuple #[.pointer none, .int .i64 2]) ∧ w' = w := by
  rcases h with h | h
  · go_enter Try.func29, Try.ntmps29
    go_wp2
    go_ret2
    exact ⟨rfl, rfl⟩
  · have h2 : (1 : Int) ≤ m := by omega
    go_enter Try.func29, Try.ntmps29
    go_wp2
    go_ret2
    exact ⟨rfl, rfl⟩

theorem is_any {b g : Nat} {L : List Int} (c : Int) (w : World) (h : RL w b g L) :
    Calls Try.prog 40 #[.pointer (some ⟨b, 0, none⟩), .int .i64 c] w fun e w' => e = .returned (.bool (ic L c)) ∧ w' = w := by
  have c0 := h.c0
  by_cases q : 0 ≤ c
  · by_cases q2 : c < (L.length : Int)
    · rw [show ic L c = true from decide_eq_true ⟨q, q2⟩]
      clear h
      generalize L.length = l at *
      go_enter Try.func40, Try.ntmps40
      go_wp2
      go_ret
      exact ⟨rfl, rfl⟩
    · rw [show ic L c = false from decide_eq_false (by omega)]
      clear h
      generalize L.length = l at *
      go_enter Try.func40, Try.ntmps40
      go_wp2
      go_ret
      exact ⟨rfl, rfl⟩
  · rw [show ic L c = false from decide_eq_false (by omega)]
    clear h
    generalize L.length = l at *
    go_enter Try.func40, Try.ntmps40
    go_wp2
    go_ret
    exact ⟨rfl, rfl⟩

set_option maxHeartbeats 400000 in
theorem rnadd_any (a b : Int) (w : World) (ha : I64 a) (hb : I64 b) :
    Calls Try.prog 52 #[.int .i64 a, .int .i64 b] w fun e w' => e = .returned (.tuple #[.int .i64 (fv (a + b)), .int .i64 (fe (a + b))]) ∧ w' = w := by
  obtain ⟨ha1, ha2⟩ := ha
  obtain ⟨hb1, hb2⟩ := hb
  go_enter Try.func52, Try.ntmps52
  go_wp2
  all_goals
    go_ret2
    refine ⟨ret_two ?_ ?_, rfl⟩ <;> (simp only [fv, fe] at *; split <;> omega)

set_option maxHeartbeats 1000000 in
theorem radd_any {b g : Nat} {L : List Int} (c n : Int) (w : World) (h : RL w b g L) (hn : I64 n) :
    Calls Try.prog 34 #[.pointer (some ⟨b, 0, none⟩), .int .i64 c, .int .i64 n] w fun e w' => e = .returned (.int .i64 (adE L c n)) ∧ RL w' b g (adL L c n) ∧ Fr w.heap.size [g] w w' := by
  have c0 := h.c0
  have hl := h.len
  have C : Hid (∀ _ : Unit, _) := fun _ => is_any c w h
  have HS : Hid (RL w b g L) := h
  cases i : ic L c with
  | true =>
    rw [i] at C
    have hi := h.pt.at i
    have D : Hid (∀ _ : Unit, _) := fun _ => rnadd_any (at' L c) n w hi hn
    obtain ⟨k, rfl⟩ := Int.eq_ofNat_of_zero_le (ic_lt i).1
    have hk : (k : Int) < L.length := (ic_lt i).2.1
    have ck := h.at k (by omega)
    have fk : w.frozen? ⟨g, k, none⟩ = false := h.sg.free k
    have ea : at' L (k : Int) = L.getD k 0 := by unfold at'; rw [Int.toNat_natCast]
    by_cases z : fe (at' L (k : Int) + n) = 0
    · have zi := fe_zero z
      rw [(fe_ok zi).1, (fe_ok zi).2] at D
      rw [show adE L k n = 0 by unfold adE; rw [if_pos i, z], show adL L k n = L.set k (at' L k + n) by unfold adL; rw [if_pos ⟨i, z⟩, Int.toNat_natCast]]
      have ST : Hid (RL (w.setCell ⟨g, k, none⟩ (.int .i64 (at' L k + n))) b g (L.set k (at' L k + n))) := rl_set h k _ zi
      rw [ea] at D ST ⊢
      clear h i zi z hi ea hn
      obtain ⟨s, hs⟩ : ∃ s, L.getD k 0 + n = s := ⟨_, rfl⟩
      rw [hs] at D ST ⊢
      clear hs
      generalize L.getD k 0 = x at *
      generalize L.length = l at *
      go_enter Try.func34, Try.ntmps34
      go_wp2_with fail
      refine (C.out ()).mono ?_
      rintro e w' ⟨rfl, rfl⟩
      go_wp2_with fail
      refine (D.out ()).mono ?_
      rintro e w' ⟨rfl, rfl⟩
      go_wp2
      go_ret
      exact ⟨rfl, ST.out, (Fr.refl _ _ _).setCell (Or.inr (by simp)) _⟩
    · have zi : ¬ I64 (at' L (k : Int) + n) := fun q => z (fe_ok q).1
      rw [(fe_no zi).1, (fe_no zi).2] at D
      rw [show adE L k n = 16 by unfold adE; rw [if_pos i, (fe_no zi).1], show adL L k n = L by unfold adL; rw [if_neg (fun q => z q.2)]]
      rw [ea] at D
      clear h i zi z hi ea hn
      generalize L.getD k 0 = x at *
      generalize L.length = l at *
      go_enter Try.func34, Try.ntmps34
      go_wp2_with fail
      refine (C.out ()).mono ?_
      rintro e w' ⟨rfl, rfl⟩
      go_wp2_with fail
      refine (D.out ()).mono ?_
      rintro e w' ⟨rfl, rfl⟩
      go_wp2
      go_ret
      exact ⟨rfl, HS.out, Fr.refl _ _ _⟩
  | false =>
    rw [i] at C
    rw [show adE L c n = 3 from if_neg (by rw [i]; simp), show adL L c n = L from if_neg (by rw [i]; simp)]
    clear h i
    generalize L.length = l at *
    go_enter Try.func34, Try.ntmps34
    go_wp2_with fail
    refine (C.out ()).mono ?_
    rintro e w' ⟨rfl, rfl⟩
    go_wp2
    go_ret
    exact ⟨rfl, HS.out, Fr.refl _ _ _⟩

set_option maxHeartbeats 1000000 in
theorem rfold_any {b g : Nat} {L : List Int} (f t : Int) (w : World) (h : RL w b g L) :
    Calls Try.prog 32 #[.pointer (some ⟨b, 0, none⟩), .int .i64 f, .int .i64 t] w fun e w' => e = .returned (.int .i64 (fdE L f t)) ∧ RL w' b g (fdL L f t) ∧ Fr w.heap.size [g] w w' := by
  have c0 := h.c0
  have hl := h.len
  have C : Hid (∀ _ : Unit, _) := fun _ => is_any f w h
  have D : Hid (∀ _ : Unit, _) := fun _ => is_any t w h
  have HS : Hid (RL w b g L) := h
  cases i : ic L f with
  | true =>
    rw [i] at C
    cases j : ic L t with
    | true =>
      rw [j] at D
      by_cases e : f = t
      · rw [show fdE L f t = 2 by unfold fdE; rw [if_pos ⟨i, j⟩, if_pos e], show fdL L f t = L by unfold fdL; rw [if_neg (fun q => q.2.2.1 e)]]
        subst e
        clear h i j
        generalize L.length = l at *
        go_enter Try.func32, Try.ntmps32
        go_wp2_with fail
        refine (C.out ()).mono ?_
        rintro e w' ⟨rfl, rfl⟩
        go_wp2_with fail
        refine (D.out ()).mono ?_
        rintro e w' ⟨rfl, rfl⟩
        go_wp2
        go_ret
        exact ⟨rfl, HS.out, Fr.refl _ _ _⟩
      · have e2 : (f == t) = false := by simpa using e
        have hf := h.pt.at i
        have A : Hid (∀ _ : Unit, _) := fun _ => radd_any t (at' L f) w h hf
        obtain ⟨k, rfl⟩ := Int.eq_ofNat_of_zero_le (ic_lt i).1
        have hk : (k : Int) < L.length := (ic_lt i).2.1
        have ck := h.at k (by omega)
        have ea : at' L (k : Int) = L.getD k 0 := by unfold at'; rw [Int.toNat_natCast]
        rw [← ea] at ck
        by_cases z : fe (at' L t + at' L k) = 0
        · rw [show adE L t (at' L k) = 0 by unfold adE; rw [if_pos j, z], show adL L t (at' L k) = L.set t.toNat (at' L t + at' L k) by unfold adL; rw [if_pos ⟨j, z⟩]] at A
          rw [show fdE L k t = 0 by unfold fdE; rw [if_pos ⟨i, j⟩, if_neg e, z], show fdL L k t = (L.set t.toNat (at' L t + at' L k)).set k 0 by unfold fdL; rw [if_pos ⟨i, j, e, z⟩, Int.toNat_natCast]]
          obtain ⟨M, hM⟩ : ∃ M, L.set t.toNat (at' L t + at' L k) = M := ⟨_, rfl⟩
          have lM : M.length = L.length := by rw [← hM]; simp
          rw [hM] at A ⊢
          have ST : Hid (∀ w1, RL w1 b g M → RL (w1.setCell ⟨g, k, none⟩ (.int .i64 0)) b g (M.set k 0) ∧ w1.cell? ⟨b, 0, none⟩ = some (.slice (some ⟨g, 0, none⟩) L.length L.length) ∧ w1.cell? ⟨g, k, none⟩ = some (.int .i64 (M.getD k 0)) ∧ w1.frozen? ⟨g, k, none⟩ = false) := fun w1 s1 => ⟨rl_set s1 k 0 (by unfold I64; omega), by have := s1.c0; rwa [lM] at this, s1.at k (by omega), s1.sg.free k⟩
          clear h i j z hf ea hM lM e
          generalize at' L k = x at *
          generalize L.length = l at *
          go_enter Try.func32, Try.ntmps32
          go_wp2_with fail
          refine (C.out ()).mono ?_
          rintro e w' ⟨rfl, rfl⟩
          go_wp2_with fail
          refine (D.out ()).mono ?_
          rintro e w' ⟨rfl, rfl⟩
          go_wp2_with fail
          refine (A.out ()).mono ?_
          rintro e w1 ⟨rfl, s1, f1⟩
          obtain ⟨s2, k1, k2, k3⟩ := ST.out w1 s1
          have S2 : Hid (RL _ b g _) := s2
          have F1 : Hid (Fr w'.heap.size [g] w' w1) := f1
          clear s1 f1 s2
          go_wp2
          go_ret
          exact ⟨rfl, S2.out, F1.out.setCell (Or.inr (by simp)) _⟩
        · have zi : ¬ I64 (at' L t + at' L k) := fun q => z (fe_ok q).1
          rw [show adE L t (at' L k) = 16 by unfold adE; rw [if_pos j, (fe_no zi).1], show adL L t (at' L k) = L by unfold adL; rw [if_neg (fun q => z q.2)]] at A
          rw [show fdE L k t = 16 by unfold fdE; rw [if_pos ⟨i, j⟩, if_neg e, (fe_no zi).1], show fdL L k t = L by unfold fdL; rw [if_neg (fun q => z q.2.2.2)]]
          clear h i j z zi hf ea e
          generalize at' L k = x at *
          generalize L.length = l at *
          go_enter Try.func32, Try.ntmps32
          go_wp2_with fail
          refine (C.out ()).mono ?_
          rintro e w' ⟨rfl, rfl⟩
          go_wp2_with fail
          refine (D.out ()).mono ?_
          rintro e w' ⟨rfl, rfl⟩
          go_wp2_with fail
          refine (A.out ()).mono ?_
          rintro e w1 ⟨rfl, s1, f1⟩
          go_wp2
          go_ret
          exact ⟨rfl, s1, f1⟩
    | false =>
      rw [j] at D
      rw [show fdE L f t = 3 by unfold fdE; rw [if_neg (by rw [j]; simp)], show fdL L f t = L by unfold fdL; rw [if_neg (by rw [j]; simp)]]
      clear h i j
      generalize L.length = l at *
      go_enter Try.func32, Try.ntmps32
      go_wp2_with fail
      refine (C.out ()).mono ?_
      rintro e w' ⟨rfl, rfl⟩
      go_wp2_with fail
      refine (D.out ()).mono ?_
      rintro e w' ⟨rfl, rfl⟩
      go_wp2
      go_ret
      exact ⟨rfl, HS.out, Fr.refl _ _ _⟩
  | false =>
    rw [i] at C
    rw [show fdE L f t = 3 by unfold fdE; rw [if_neg (by rw [i]; simp)], show fdL L f t = L by unfold fdL; rw [if_neg (by rw [i]; simp)]]
    clear h i
    generalize L.length = l at *
    go_enter Try.func32, Try.ntmps32
    go_wp2_with fail
    refine (C.out ()).mono ?_
    rintro e w' ⟨rfl, rfl⟩
    go_wp2
    go_ret
    exact ⟨rfl, HS.out, Fr.refl _ _ _⟩

theorem and32 (x : Int) : bits .and .i64 x 4294967295 = x % 4294967296 := by
  have h2 : (BitVec.ofInt 64 4294967295).toNat = 4294967295 := by decide
  show IntKind.i64.wrap ((BitVec.ofInt 64 x &&& BitVec.ofInt 64 4294967295).toNat : Int) = _
  rw [BitVec.toNat_and, h2, BitVec.toNat_ofInt, Nat.and_two_pow_sub_one_eq_mod _ 32, IntKind.wrap_i64]
  omega

/-- The sum by halves: what the document's Sum has gathered. -/
structure Hv (S H Q : Int) (k : Nat) : Prop where
  is : H * 4294967296 + Q = S
  h1 : -(2147483648 * (k : Int)) ≤ H
  h2 : H ≤ 2147483647 * (k : Int)
  q1 : 0 ≤ Q
  q2 : Q ≤ 4294967295 * (k : Int)

theorem hv_step {S H Q x : Int} {k : Nat} (h : Hv S H Q k) (hx : I64 x) : Hv (S + x) (H + x / 4294967296) (Q + x % 4294967296) (k + 1) := by
  obtain ⟨a, b, c, d, e⟩ := h
  unfold I64 at hx
  have f : ((k + 1 : Nat) : Int) = (k : Int) + 1 := by omega
  refine ⟨?_, ?_, ?_, ?_, ?_⟩
  · omega
  · rw [f]; omega
  · rw [f]; omega
  · omega
  · rw [f]; omega

set_option maxHeartbeats 2000000 in
theorem rsum_any {b g : Nat} {L : List Int} (w : World) (h : RL w b g L) :
    Calls Try.prog 36 #[.pointer (some ⟨b, 0, none⟩)] w fun e w' => e = .returned (.tuple #[.int .i64 (fv L.sum), .int .i64 (fe L.sum)]) ∧ w' = w := by
  have c0 := h.c0
  have hl := h.len
  have HA : Hid (∀ i, i < L.length → w.cell? ⟨g, i, none⟩ = some (.int .i64 (L.getD i 0))) := fun i hi => h.at i hi
  have HP : Hid (Pt L) := h.pt
  obtain ⟨n, hn⟩ : ∃ n, L.length = n := ⟨_, rfl⟩
  have HN : Hid (L.length = n) := hn
  obtain ⟨r1, hr1⟩ : ∃ r, fv L.sum = r := ⟨_, rfl⟩
  obtain ⟨r2, hr2⟩ : ∃ r, fe L.sum = r := ⟨_, rfl⟩
  have R1 : Hid (fv L.sum = r1) := hr1
  have R2 : Hid (fe L.sum = r2) := hr2
  rw [hn] at c0 hl
  rw [hr1, hr2]
  clear h hn hr1 hr2
  go_enter Try.func36, Try.ntmps36
  go_wp2
  go_loop [4, 5, 6] (fun h l i => ∃ (k : Nat) (H Q : Int), (k : Int) ≤ n ∧ Hid (Hv (L.take k).sum H Q k) ∧ h = .int .i64 H ∧ l = .int .i64 Q ∧ i = .int .i64 k) (fun _ _ i => n - (intOf i).toNat)
  case atStart => exact ⟨0, 0, 0, by omega, ⟨by simp, by simp, by simp, by simp, by simp⟩, rfl, rfl, rfl⟩
  case round =>
    obtain ⟨k, H, Q, hk, hv, rfl, rfl, rfl⟩ := hrel
    by_cases c : (k : Int) < n
    · have hkl : k < L.length := by have := HN.out; omega
      have ck := HA.out k hkl
      have hx : I64 (L.getD k 0) := by
        refine HP.out.rg _ ?_
        rw [List.getD_eq_getElem?_getD, List.getElem?_eq_getElem hkl]
        exact List.getElem_mem hkl
      have NX := hv_step hv.out hx
      rw [← sum_take L k hkl] at NX
      have hk64 : (k : Int) < 64 := by omega
      obtain ⟨h1, h2, q1, q2⟩ : -137438953472 ≤ H ∧ H ≤ 137438953472 ∧ 0 ≤ Q ∧ Q ≤ 274877906944 := by
        obtain ⟨_, b, c, d, e⟩ := hv.out
        omega
      obtain ⟨p1, p2, p3, p4⟩ : -2147483648 ≤ L.getD k 0 / 4294967296 ∧ L.getD k 0 / 4294967296 ≤ 2147483647 ∧ 0 ≤ L.getD k 0 % 4294967296 ∧ L.getD k 0 % 4294967296 ≤ 4294967295 := by
        unfold I64 at hx
        omega
      have ea := and32 (L.getD k 0)
      obtain ⟨p, hp⟩ : ∃ p, L.getD k 0 / 4294967296 = p := ⟨_, rfl⟩
      obtain ⟨q, hq⟩ : ∃ q, L.getD k 0 % 4294967296 = q := ⟨_, rfl⟩
      rw [hp] at p1 p2 NX
      rw [hq] at p3 p4 ea NX
      have HX : Hid (Hv (L.take (k + 1)).sum (H + p) (Q + q) (k + 1)) := NX
      clear hv hx NX hq hkl hk64
      generalize L.getD k 0 = x at *
      go_wp2
      go_round
      case rel => exact ⟨k + 1, H + p, Q + q, by omega, HX, rfl, rfl, by go_num⟩
      case measure => simp [intOf]; omega
    · have ek : L.take k = L := List.take_of_length_le (by have := HN.out; omega)
      rw [ek] at hv
      obtain ⟨a, b, c2, d, e⟩ := hv.out
      have hk64 : (k : Int) ≤ 64 := by omega
      obtain ⟨h1, h2, q1, q2⟩ : -137438953472 ≤ H ∧ H ≤ 137438953472 ∧ 0 ≤ Q ∧ Q ≤ 274877906944 := by omega
      have ea := and32 Q
      obtain ⟨p, hp⟩ : ∃ p, Q / 4294967296 = p := ⟨_, rfl⟩
      obtain ⟨q, hq⟩ : ∃ q, Q % 4294967296 = q := ⟨_, rfl⟩
      have p1 : 0 ≤ p := by omega
      have p2 : p ≤ 64 := by omega
      have q3 : 0 ≤ q := by omega
      have q4 : q ≤ 4294967295 := by omega
      rw [hq] at ea
      have es : (H + p) * 4294967296 + q = L.sum := by omega
      by_cases f1 : 2147483647 < H + p
      · have no : ¬ I64 L.sum := by unfold I64; omega
        have a1 : r1 = 0 := by rw [← R1.out, (fe_no no).2]
        have a2 : r2 = 16 := by rw [← R2.out, (fe_no no).1]
        subst a1
        subst a2
        clear hv a b c2 d e ek hq es no R1 R2 hk64
        go_wp2
        go_ret2
        exact ⟨rfl, rfl⟩
      · by_cases f2 : H + p < -2147483648
        · have no : ¬ I64 L.sum := by unfold I64; omega
          have a1 : r1 = 0 := by rw [← R1.out, (fe_no no).2]
          have a2 : r2 = 16 := by rw [← R2.out, (fe_no no).1]
          subst a1
          subst a2
          clear hv a b c2 d e ek hq es no R1 R2 hk64
          go_wp2
          go_ret2
          exact ⟨rfl, rfl⟩
        · have yes : I64 L.sum := by unfold I64; omega
          have a1 : r1 = (H + p) * 4294967296 + q := by rw [← R1.out, (fe_ok yes).2, es]
          have a2 : r2 = 0 := by rw [← R2.out, (fe_ok yes).1]
          subst a2
          have A1 : Hid (r1 = (H + p) * 4294967296 + q) := a1
          clear hv a b c2 d e ek hq es yes R1 R2 hk64 a1
          go_wp2
          go_ret2
          refine ⟨ret_two ?_ rfl, rfl⟩
          rw [A1.out]
end Go.Proofs.Ytaomcakgeiiclaa
