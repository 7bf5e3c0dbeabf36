/- Events as lines: the document's Read; the law of readings. -/
import Derived.Test.YtcifjdnmnmmhoaaDoorWd14
import Derived.Test.YtcifjdnmnmmhoaaDoorWd19
import Derived.Test.YtcifjdnmnmmhoaaDoorWd23
namespace Go.Proofs.YtcifjdnmnmmhoaaDoor
open Go.ChangeShapes Go.WideShapes Go.ChangeAt Go.RowKit
open Wd Mm
set_option linter.unusedVariables false
set_option linter.unusedSimpArgs false
set_option maxRecDepth 100000

/-- The bytes of lines, each with its end. -/
def tot : List (List UInt8) → Nat
  | [] => 0
  | p :: r => p.length + 1 + tot r
theorem tot_parts (b : UInt8) : ∀ n (l : List UInt8), l.length ≤ n → tot (parts b l) = l.length + 1 := by
  intro n
  induction n with
  | zero =>
    intro l h
    obtain rfl : l = [] := List.length_eq_zero_iff.1 (by omega)
    simp [parts, tot]
  | succ n ih =>
    intro l h
    rcases parts_cases b l with ⟨_, h2⟩ | ⟨w, r, h1, _, h3⟩
    · rw [h2]; simp [tot]
    · rw [h3, tot, ih r (by rw [h1] at h; simp at h; omega), h1]
      simp
      omega
theorem psr_long {l : List UInt8} {e : V} (h : psr l = some e) : 6 ≤ l.length :=
  (line_len e (psr_some h).1 l (psr_some h).2.1).2

set_option maxHeartbeats 8000000 in
theorem rread_any (t : List UInt8) (hT : t.length ≤ 4000 ∨ 16000 < t.length) (w : World) :
    Calls Tryd.prog 20 #[.string (sb t)] w fun r w' => (∃ v a y, r = .returned (.tuple #[v, .int .i64 a, .int .i64 y]) ∧ RdE t w' v a y) ∧ Below w.heap.size w w' := by
  by_cases hl : 16000 < t.length
  · have hl2 : (16000 : Int) < (t.length : Int) := by omega
    have HR : Hid (∀ w', RdE t w' (.slice none 0 0) 0 15) := fun w' => by unfold RdE; rw [if_pos hl]; exact ⟨rfl, rfl, rfl⟩
    clear hl hT
    go_enter Tryd.func20, Tryd.ntmps20
    go_wp2
    go_ret3
    exact ⟨⟨_, _, _, rfl, HR.out _⟩, Below.refl _ _⟩
  · have hl2 : ¬ (16000 : Int) < (t.length : Int) := by omega
    have hl3 : decide ((16000 : Int) < (t.length : Int)) = false := decide_eq_false hl2
    have hl4 : t.length ≤ 4000 := by omega
    obtain ⟨O, hO⟩ : ∃ O, rdo (parts 10 t) 0 [] = O := ⟨_, rfl⟩
    have HR : Hid (∀ w' v a y, RdO O w' v a y → RdE t w' v a y) := fun w' v a y h => by
      unfold RdE
      rw [if_neg hl, hO]
      exact h
    have CS : Hid (∀ w, _) := fun w => rsplit_any 10 t (by omega) w
    have CP : Hid (∀ (l : List UInt8) (u : World), l.length ≤ 20000 → _) := fun l u h => rparse_any l h u
    have hP : Hid (tot (parts 10 t) ≤ 4001) := by show _ ≤ _; rw [tot_parts 10 _ t (Nat.le_refl _)]; omega
    obtain ⟨ps, hps⟩ : ∃ ps, parts 10 t = ps := ⟨_, rfl⟩
    have hpos : 0 < ps.length := by rw [← hps]; exact List.length_pos_iff.2 (parts_ne _ _)
    rw [hps] at CS hP hO
    obtain ⟨N, hN⟩ : ∃ N, ps.length = N := ⟨_, rfl⟩
    have HN : Hid (ps.length = N) := hN
    rw [hN] at hpos
    have hN2 : (0 : Int) < (N : Int) := by omega
    have hN3 : (N : Int) ≤ 4001 := by
      have : ∀ l : List (List UInt8), l.length ≤ tot l := fun l => by
        induction l with
        | nil => exact Nat.zero_le _
        | cons a l ih => rw [tot, List.length_cons]; omega
      have := this ps
      have := hP.out
      omega
    have HO : Hid (O = rdo ps 0 []) := hO.symm
    clear hl hO hT hps hl4 hN
    go_enter Tryd.func20, Tryd.ntmps20
    go_wp2_with fail
    refine (CS.out _).mono ?_
    rintro r u ⟨v0, rfl, OGg⟩
    obtain ⟨a, cap, rfl⟩ := OGg.shape
    have HRow : Hid (ORow str u (.slice a N cap) ps) := by rw [← HN.out]; exact OGg.row
    have HB : Hid (Below w.heap.size w u) := OGg.bel
    have G0 : Hid (LG vl 24 u u (.slice none 0 0) []) := lg_start _ _ u
    rw [HN.out]
    clear OGg CS
    have hP0 : 7 * 0 + tot (ps.drop 0) ≤ 4001 := by rw [List.drop_zero]; have := hP.out; omega
    have HO0 : Hid (O = rdo (ps.drop 0) 0 []) := by rw [List.drop_zero]; exact HO
    clear hP HO
    go_wp2
    go_loopw [5, 7] (fun v i wr => ∃ (k : Nat) (es : List V), es.length = k ∧ (k : Int) + 1 ≤ N ∧ i = .int .i64 k ∧ Hid (O = rdo (ps.drop k) k es) ∧ Hid (LG vl 24 u wr v es) ∧ 7 * k + tot (ps.drop k) ≤ 4001) (fun _ i _ => N - (intOf i).toNat)
    case atStart => exact ⟨0, [], rfl, by omega, rfl, HO0, G0, hP0⟩
    case round =>
      obtain ⟨k, es, hes, hk, rfl, HOk, G, hlen⟩ := hrel
      have hkN : k < ps.length := by rw [HN.out]; omega
      obtain ⟨b0, off, rfl, hlt, hA⟩ := orow_cell (HRow.out.below G.out.bel) (List.getElem?_eq_getElem hkN)
      have hA' : wr.cell? ⟨b0, off + k, none⟩ = some (.string (sb ps[k])) := hA
      have hd : ps.drop k = ps[k] :: ps.drop (k + 1) := List.drop_eq_getElem_cons hkN
      have BW : Hid (Below w.heap.size w wr) := HB.out.trans (G.out.bel.mono HB.out.size)
      obtain ⟨a1, c1, hv⟩ := G.out.row.shape
      rw [hes] at hv
      by_cases h : (k : Int) < (N : Int) - 1
      · obtain ⟨q, rest, hd2⟩ : ∃ q rest, ps.drop (k + 1) = q :: rest := by
          have : k + 1 < ps.length := by rw [HN.out]; omega
          exact ⟨_, _, List.drop_eq_getElem_cons this⟩
        have hO := HOk.out
        rw [hd, tot] at hlen
        rw [hd, hd2, rdo] at hO
        have CP1 := fun u => CP.out ps[k] u (by omega)
        obtain ⟨E, y, hE, hp⟩ := par_two ps[k]
        rw [hE] at CP1
        have C1 : Hid (∀ u, _) := CP1
        rcases hp with ⟨hps, rfl⟩ | ⟨hps, hy1, hy2⟩
        · have h6 := psr_long hps
          rw [hps] at hO
          have HO2 : Hid (O = rdo (ps.drop (k + 1)) (k + 1) (es ++ [E])) := by show _ = _; rw [hO, hd2]
          have hlen2 : 7 * (k + 1) + tot (ps.drop (k + 1)) ≤ 4001 := by omega
          have hes2 : (es ++ [E]).length = k + 1 := by simp; omega
          have k6 : ¬ (600 : Int) ≤ (k : Int) := by omega
          have GS : es.length ≤ 100000 := by omega
          generalize ps[k] = p at *
          dsimp only [V.vals] at C1
          clear CP CP1 hE hps h6 hd hO HOk hd2 hlen hA hlt hkN HR
          rw [hv]
          go_wp2_with fail
          refine (C1.out _).mono ?_
          rintro e u2 ⟨rfl, b2⟩
          obtain ⟨v', w2, hrun, G2⟩ := ev_app E (G.out.up b2) ((Below.refl u2.heap.size u2).alloc (Nat.le_refl _) (.cells (V.vals E).toArray 24)) GS
          rw [World.size_alloc] at hrun
          have R2 : Hid _ := hrun
          have G3 : Hid _ := G2
          dsimp only [V.vals] at R2
          rw [hv] at R2
          clear hrun G2 b2 G hv
          go_wp2_with (at_builtin; refine wpList_rung rfl (.tmp 37) (.tmp 39) 35 rfl rfl rfl R2.out ?_)
          go_roundw
          case rel => exact ⟨k + 1, es ++ [E], hes2, by omega, by go_num, HO2, G3.out, hlen2⟩
          case measure => simp [intOf]; omega
        · rw [hps] at hO
          have H1 : Hid (∀ w', RdE t w' (.slice none 0 0) k 13) := fun w' => HR.out w' _ _ _ (by rw [hO]; exact rdo_err _ _)
          generalize ps[k] = p at *
          dsimp only [V.vals] at C1
          clear CP CP1 hE hps hd hO HOk hd2 hlen hA hlt hkN HR G
          rw [hv]
          go_wp2_with fail
          refine (C1.out _).mono ?_
          rintro e u2 ⟨rfl, b2⟩
          go_wp2
          go_ret3
          exact ⟨⟨_, _, _, rfl, H1.out _⟩, BW.out.trans ((b2.mono BW.out.size).alloc (by have := BW.out.size; have := b2.size; omega) _)⟩
      · obtain rfl : N = k + 1 := by omega
        have hO := HOk.out
        have hz : ps.drop (k + 1) = [] := List.drop_eq_nil_of_le (by rw [HN.out]; omega)
        rw [hd, hz, rdo] at hO
        generalize ps[k] = p at *
        rw [hd, tot] at hlen
        have k6 : ¬ 600 < es.length := by omega
        by_cases hp : p = []
        · rw [if_pos hp] at hO
          subst hp
          have RW := G.out.row
          rw [hv] at RW
          have H1 : Hid (RdE t wr (.slice a1 k c1) 0 0) := HR.out wr _ _ _ (by rw [hO]; exact rdo_few k6 RW)
          clear CP hO hz hd HOk hlen hA hlt hkN HR G RW
          rw [hv]
          go_wp2
          go_ret3
          exact ⟨⟨_, _, _, rfl, H1.out⟩, BW.out⟩
        · rw [if_neg hp] at hO
          have hp1 : (p == []) = false := by rw [beq_eq_false_iff_ne]; exact hp
          have H1 : Hid (∀ w', RdE t w' (.slice none 0 0) k 13) := fun w' => HR.out w' _ _ _ (by rw [hO]; exact rdo_err _ _)
          clear CP hO hz hd HOk hlen hA hlt hkN HR G
          rw [hv]
          go_wp2
          go_ret3
          exact ⟨⟨_, _, _, rfl, H1.out _⟩, BW.out⟩
end Go.Proofs.YtcifjdnmnmmhoaaDoor
