/- Events as lines: the events of a text's lines. -/
import Derived.Test.YtcifjdnmnmmhoaaDoorRows
import Derived.Test.YtcifjdnmnmmhoaaDoorWd9
import Derived.Test.YtcifjdnmnmmhoaaDoorLw
import Derived.WalkKit
import Derived.ProofKit
import Derived.OpenShut
import Derived.BigQuiet
import Derived.WalkSmall
import Derived.WalkSpells
namespace Go.Proofs.YtcifjdnmnmmhoaaDoor
open Go.ChangeShapes Go.WideShapes Go.ChangeAt Go.RowKit
open Wd Mm
set_option linter.unusedVariables false
set_option linter.unusedSimpArgs false
set_option maxRecDepth 100000

/-- How an event lies. -/
def vl : Lay V where
  n := 5
  f := V.vals
  z := V.z
  len := fun _ => rfl
  one := fun x u hu => by
    simp only [V.vals, List.mem_cons, List.mem_nil_iff, or_false] at hu
    rcases hu with rfl | rfl | rfl | rfl | rfl <;> rfl
  pos := by omega
theorem Tryd.infoEv : (Tryd.prog.info? 24).map (fun i => (i.zero, i.size, i.bytes)) = some (some (.agg (V.vals V.z).toArray), 5, 40) := by kernel_rfl
theorem ev_app {w wr w1 : World} {v : Value} {Y : List V} (x : V) (g : LG vl 24 w wr v Y) (e : Below wr.heap.size wr w1) (hl : Y.length ≤ 100000) :
    ∃ v' w2, (Builtin.append_ #[35, 35] 35 #[v, .slice (some ⟨w1.heap.size, 0, none⟩) 1 1]).run Tryd.prog (w1.alloc (.cells (V.vals x).toArray 24)) = .ok v' w2 ∧ LG vl 24 w w2 v' (Y ++ [x]) := by
  obtain ⟨i0, hi, hz0, hz1, hz2⟩ := info_parts Tryd.infoEv
  exact lg_app 24 35 35 i0 _ 40 Tryd.underlying35 hi hz0 hz1 hz2 rfl x g e ⟨rfl, rfl, rfl, rfl⟩ (by unfold maxLen; omega) (by omega)
theorem LG.up {w wr u : World} {v : Value} {Y : List V} (g : LG vl 24 w wr v Y) (b : Below wr.heap.size wr u) : LG vl 24 w u v Y :=
  ⟨owng_keep g.own (Fr.of_below b) fun k q => ⟨owng_lt g.own q, by simp⟩, g.bel.trans (b.mono g.bel.size)⟩

/-- What a line is read as, in two parts. -/
theorem par_two (l : List UInt8) : ∃ (e : V) (y : Int), parR l = .tuple #[.agg (V.vals e).toArray, .int .i64 y] ∧ ((psr l = some e ∧ y = 0) ∨ (psr l = none ∧ (y == 0) = false ∧ y ≠ 0)) := by
  unfold parR psr
  by_cases h : 300 < l.length
  · rw [if_pos h, if_pos h]
    exact ⟨_, _, rfl, Or.inr ⟨rfl, rfl, by omega⟩⟩
  · rw [if_neg h, if_neg h]
    cases evOf l with
    | some e => exact ⟨e, 0, rfl, Or.inl ⟨rfl, rfl⟩⟩
    | none => exact ⟨V.z, 13, rfl, Or.inr ⟨rfl, rfl, by omega⟩⟩
/-- The bytes of a text. -/
def txLen : Value → Nat
  | .string s => s.size
  | _ => 0

/-- What is read of a text: the events, or why there are none. -/
def RdO (O : List V ⊕ Nat) (w' : World) (v : Value) (at_ y : Int) : Prop := match O with
  | .inr j => v = .slice none 0 0 ∧ at_ = j ∧ y = 13
  | .inl es => if 600 < es.length then v = .slice none 0 0 ∧ at_ = 600 ∧ y = 15 else LRow vl w' v es ∧ at_ = 0 ∧ y = 0
def RdE (t : List UInt8) (w' : World) (v : Value) (at_ y : Int) : Prop :=
  if 16000 < t.length then v = .slice none 0 0 ∧ at_ = 0 ∧ y = 15 else RdO (rdo (parts 10 t) 0 []) w' v at_ y

theorem rdo_big {es : List V} (h : 600 < es.length) (w' : World) : RdO (.inl es) w' (.slice none 0 0) 600 15 := by
  show if 600 < es.length then _ else _
  rw [if_pos h]
  exact ⟨rfl, rfl, rfl⟩
theorem rdo_few {es : List V} (h : ¬ 600 < es.length) {w' : World} {v : Value} (r : LRow vl w' v es) : RdO (.inl es) w' v 0 0 := by
  show if 600 < es.length then _ else _
  rw [if_neg h]
  exact ⟨r, rfl, rfl⟩
theorem rdo_err (j : Nat) (w' : World) : RdO (.inr j) w' (.slice none 0 0) j 13 := ⟨rfl, rfl, rfl⟩

theorem cut_any (r : List UInt8) (w : World) (g : GW w) (hs : r.length ≤ 1000000) :
    Calls Tryd.prog 33 #[.string (sb r), .string (sb [10])] w fun e w' => e = .returned (.tuple #[.string (sb (Lib.cut r [10]).1), .string (sb (Lib.cut r [10]).2.1), .bool (Lib.cut r [10]).2.2]) ∧ Below w.heap.size w w' := by
  obtain ⟨m, hm⟩ := g.mx
  refine (Tryd.strings_Cut (sb r) (sb [10]) m w (by rw [sb_size]; omega) hm).mono ?_
  rintro e w' ⟨rfl, n, rfl⟩
  exact ⟨rfl, ⟨rfl, rfl, rfl, Nat.le_refl _, fun _ _ => rfl⟩⟩

set_option maxHeartbeats 4000000 in
theorem read_any (t : List UInt8) (w : World) (g : GW w) :
    Calls Tryd.prog 18 #[.string (sb t)] w fun r w' => (∃ v a y, r = .returned (.tuple #[v, .int .i64 a, .int .i64 y]) ∧ RdE t w' v a y) ∧ Below w.heap.size w w' := by
  by_cases hl : 16000 < t.length
  · have hl2 : (16000 : Int) < (t.length : Int) := by omega
    have HR : Hid (∀ w', RdE t w' (.slice none 0 0) 0 15) := fun w' => by unfold RdE; rw [if_pos hl]; exact ⟨rfl, rfl, rfl⟩
    clear hl g
    go_enter Tryd.func18, Tryd.ntmps18
    go_wp2
    go_ret3
    exact ⟨⟨_, _, _, rfl, HR.out _⟩, Below.refl _ _⟩
  · have hl2 : ¬ (16000 : Int) < (t.length : Int) := by omega
    have hl3 : decide ((16000 : Int) < (t.length : Int)) = false := decide_eq_false hl2
    obtain ⟨O, hO⟩ : ∃ O, rdo (parts 10 t) 0 [] = O := ⟨_, rfl⟩
    have HR : Hid (∀ w' v a y, RdO O w' v a y → RdE t w' v a y) := fun w' v a y h => by
      unfold RdE
      rw [if_neg hl, hO]
      exact h
    have HG : Hid (GW w) := g
    have G0 : Hid (LG vl 24 w w (.slice none 0 0) []) := lg_start _ _ w
    have HO : Hid (O = rdo (parts 10 t) 0 []) := hO.symm
    have HL : Hid (t.length ≤ 16000) := by show _ ≤ _; omega
    clear hl hO g
    go_enter Tryd.func18, Tryd.ntmps18
    go_wp2
    go_loopw [0, 5] (fun s v wr => ∃ (r : List UInt8) (es : List V), s = .string (sb r) ∧ Hid (O = rdo (parts 10 r) es.length es) ∧ Hid (LG vl 24 w wr v es) ∧ (r.length : Int) + (es.length : Int) ≤ 16000) (fun s _ _ => txLen s)
    case atStart => exact ⟨t, [], rfl, HO, G0, by have := HL.out; simp; omega⟩
    case round =>
      obtain ⟨r, es, rfl, hr, G, hb⟩ := hrel
      by_cases h : r = []
      · subst h
        have hO := hr.out
        simp only [parts, rdo, if_true] at hO
        subst hO
        have q : (([] : List UInt8) == []) = true := rfl
        have BW : Hid (Below w.heap.size w wr) := G.out.bel
        by_cases h6 : 600 < es.length
        · have h7 : (600 : Int) < (es.length : Int) := by omega
          have H1 : Hid (∀ w', RdE t w' (.slice none 0 0) 600 15) := fun w' => HR.out w' _ _ _ (rdo_big h6 w')
          obtain ⟨a1, c1, rfl⟩ := G.out.row.shape
          clear hr HR h6
          go_wp2
          go_ret3
          exact ⟨⟨_, _, _, rfl, H1.out _⟩, BW.out⟩
        · have h7 : ¬ (600 : Int) < (es.length : Int) := by omega
          have h8 : decide ((600 : Int) < (es.length : Int)) = false := decide_eq_false h7
          have RW := G.out.row
          obtain ⟨a1, c1, rfl⟩ := RW.shape
          have H1 : Hid (RdE t wr (.slice a1 es.length c1) 0 0) := HR.out wr _ _ _ (rdo_few h6 RW)
          clear hr HR h6 RW
          go_wp2
          go_ret3
          exact ⟨⟨_, _, _, rfl, H1.out⟩, BW.out⟩
      · have BW : Hid (Below w.heap.size w wr) := G.out.bel
        have q : (r == []) = false := by rw [beq_eq_false_iff_ne]; exact h
        have q2 : ¬ r = [] := h
        have CC : Hid (∀ _ : Unit, _) := fun _ => cut_any r wr (HG.out.below G.out.bel) (by omega)
        have CP : Hid (∀ (u : World) (l : List UInt8), Below wr.heap.size wr u → _) := fun u l b => parse_any l u (HG.out.below (G.out.bel.trans (b.mono G.out.bel.size)))
        obtain ⟨a1, c1, hv⟩ := G.out.row.shape
        rcases parts_cases 10 r with ⟨h1, h2⟩ | ⟨l, b, h1, h2, h3⟩
        · rw [cut_miss 10 r h1] at CC
          have hO := hr.out
          rw [h2, rdo, if_neg h] at hO
          have H1 : Hid (∀ w', RdE t w' (.slice none 0 0) es.length 13) := fun w' => HR.out w' _ _ _ (by rw [hO]; exact rdo_err _ _)
          obtain ⟨E, y, hE, -⟩ := par_two r
          rw [hv]
          clear hr HR h1 h2 hO h hv
          dsimp only [V.vals] at hE
          go_wp2_with fail
          refine (CC.out ()).mono ?_
          rintro e u1 ⟨rfl, b1⟩
          have HB : Hid (Below wr.heap.size wr u1) := b1
          have CP1 := CP.out u1 r b1
          rw [hE] at CP1
          have C2 : Hid (∀ _ : Unit, _) := fun _ => CP1
          clear b1 CP1 CP hE
          go_wp2_with fail
          refine (C2.out ()).mono ?_
          rintro e u2 ⟨rfl, b2⟩
          go_wp2
          go_ret3
          exact ⟨⟨_, _, _, rfl, H1.out _⟩, BW.out.trans ((HB.out.trans (b2.mono HB.out.size)).mono BW.out.size |>.alloc (by have := BW.out.size; have := HB.out.size; have := b2.size; omega) _)⟩
        · rw [h1, cut_hit 10 l b h2] at CC
          have hO := hr.out
          rw [h1, rdo_cut l b _ _ h2] at hO
          have hlen : r.length = l.length + 1 + b.length := by rw [h1]; simp; omega
          obtain ⟨E, y, hE, hp⟩ := par_two l
          have hlb : (r.length : Int) = l.length + 1 + b.length := by omega
          have GS : Hid (es.length ≤ 100000) := by show _ ≤ _; omega
          have CR : Hid (Lib.cut r [10] = (l, b, true)) := by show _ = _; rw [h1]; exact cut_hit 10 l b h2
          rw [← h1] at CC
          dsimp only [V.vals] at hE
          rcases hp with ⟨hps, rfl⟩ | ⟨hps, hy1, hy2⟩
          · rw [hps] at hO
            have HO2 : Hid (O = rdo (parts 10 b) (es ++ [E]).length (es ++ [E])) := by show _ = _; rw [hO]; simp
            clear hr HR h1 h2 h3 hO h hlen hps hv
            go_wp2_with fail
            refine (CC.out ()).mono ?_
            rintro e u1 ⟨rfl, b1⟩
            have HB : Hid (Below wr.heap.size wr u1) := b1
            have CP1 := CP.out u1 l b1
            rw [hE] at CP1
            have C2 : Hid (∀ _ : Unit, _) := fun _ => CP1
            clear b1 CP1 CP hE
            go_wp2_with fail
            refine (C2.out ()).mono ?_
            rintro e u2 ⟨rfl, b2⟩
            have B3 : Below wr.heap.size wr u2 := HB.out.trans (b2.mono HB.out.size)
            obtain ⟨v', w2, hrun, G2⟩ := ev_app E (G.out.up B3) ((Below.refl u2.heap.size u2).alloc (Nat.le_refl _) (.cells (V.vals E).toArray 24)) GS.out
            rw [World.size_alloc] at hrun
            have R2 : Hid _ := hrun
            have G3 : Hid _ := G2
            dsimp only [V.vals] at R2
            clear hrun G2 b2 B3
            go_wp2_with (at_builtin; refine wpList_rung rfl (.tmp 35) (.tmp 37) 35 rfl rfl rfl R2.out ?_)
            go_roundw
            case rel => exact ⟨b, es ++ [E], rfl, HO2, G3.out, by simp; omega⟩
            case measure => simp only [txLen, sb_size]; omega
          · rw [hps] at hO
            have H1 : Hid (∀ w', RdE t w' (.slice none 0 0) es.length 13) := fun w' => HR.out w' _ _ _ (by rw [hO]; exact rdo_err _ _)
            rw [hv]
            clear hr HR h1 h2 h3 hO h hlen hps hv
            go_wp2_with fail
            refine (CC.out ()).mono ?_
            rintro e u1 ⟨rfl, b1⟩
            have HB : Hid (Below wr.heap.size wr u1) := b1
            have CP1 := CP.out u1 l b1
            rw [hE] at CP1
            have C2 : Hid (∀ _ : Unit, _) := fun _ => CP1
            clear b1 CP1 CP hE
            go_wp2_with fail
            refine (C2.out ()).mono ?_
            rintro e u2 ⟨rfl, b2⟩
            go_wp2
            go_ret3
            exact ⟨⟨_, _, _, rfl, H1.out _⟩, BW.out.trans ((HB.out.trans (b2.mono HB.out.size)).mono BW.out.size |>.alloc (by have := BW.out.size; have := HB.out.size; have := b2.size; omega) _)⟩
end Go.Proofs.YtcifjdnmnmmhoaaDoor
