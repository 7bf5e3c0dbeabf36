/- Events as lines: a word as a mask. -/
import Derived.Test.YtcifjdnmnmmhoaaDoorRows
import Derived.Test.YtcifjdnmnmmhoaaDoorWd4
import Derived.WalkKit
import Derived.ProofKit
import Derived.OpenShut
import Derived.BigQuiet
import Derived.WalkSmall
import Derived.WalkSpells
namespace Go.Proofs.YtcifjdnmnmmhoaaDoor
open Go.ChangeShapes Go.WideShapes Go.ChangeAt Go.RowKit
open Wd Mm
set_option linter.unusedVariables false
set_option linter.unusedSimpArgs false
set_option maxRecDepth 100000

/-- A text's parts. -/
theorem split_any (b : UInt8) (s : List UInt8) (w : World) (g : GW w) (hs : s.length ≤ 1000000) :
    Calls Tryd.prog 26 #[.string (sb s), .string (sb [b])] w fun e w' => e = .returned (.slice (some ⟨w.heap.size, 0, none⟩) (parts b s).length (parts b s).length) ∧ w' = w.alloc (.cells ((parts b s).map str).toArray 9) := by
  obtain ⟨m, hm⟩ := g.mx
  have := Tryd.strings_Split (sb s) (sb [b]) m w (by rw [sb_size]; omega) hm (by rw [sb_size]; simp)
  rw [split_parts b (sb s)] at this
  have hn : Lib.countB (sb s) (sb [b]) + 1 = (parts b s).length := by
    rw [parts_length]
    show Lib.count s [b] + 1 = _
    rw [Lib.count_one]
  rw [hn, List.map_map] at this
  exact this

theorem int_app {w wr u : World} {v : Value} {xs : List Int} (x : Int) (g : OG (Value.int .i64) 3 w wr v xs) (b : Below wr.heap.size wr u) (hl : xs.length ≤ 100000) :
    ∃ v' w2, (Builtin.append_ #[81, 81] 81 #[v, .slice (some ⟨u.heap.size, 0, none⟩) 1 1]).run Tryd.prog (u.alloc (.cells #[.int .i64 x] 3)) = .ok v' w2 ∧ OG (Value.int .i64) 3 w w2 v' (xs ++ [x]) := by
  obtain ⟨i0, hi, hz0, hz1, hz2⟩ := info_parts Tryd.info3
  exact og_app 3 81 81 i0 (.int .i64 0) 8 Tryd.underlying81 hi hz0 hz1 hz2 rfl (fun _ => rfl) g (b.alloc b.size _) (orow_new (c := Value.int .i64) u [x] 3 1 1 rfl) (fun a cap h => by simp at h) (by simp only [List.length_singleton, maxLen]; omega) (by simp only [List.length_singleton]; omega)

theorem take_next {α : Type} (l : List α) (k : Nat) (h : k < l.length) : l.take (k + 1) = l.take k ++ [l[k]] := by
  rw [List.take_add_one, List.getElem?_eq_getElem h]
  rfl
theorem split_next {α : Type} (l : List α) (k : Nat) (h : k < l.length) : l = l.take k ++ l[k] :: l.drop (k + 1) := by
  rw [← List.drop_eq_getElem_cons h, List.take_append_drop]

theorem parts_le (b : UInt8) (s : List UInt8) : ∀ w ∈ parts b s, w.length ≤ s.length := by
  suffices ∀ (n : Nat) (l : List UInt8), l.length ≤ n → ∀ w ∈ parts b l, w.length ≤ l.length from this _ s (Nat.le_refl _)
  intro n
  induction n with
  | zero =>
    intro l h w hw
    have : l = [] := List.eq_nil_of_length_eq_zero (by omega)
    subst this
    simp [parts] at hw
    simp [hw]
  | succ n ih =>
    intro l h w hw
    rcases parts_cases b l with ⟨h1, h2⟩ | ⟨v, r, h1, h2, h3⟩
    · rw [h2] at hw
      simp at hw
      rw [hw]
      exact Nat.le_refl _
    · rw [h3] at hw
      have hl : l.length = v.length + 1 + r.length := by rw [h1]; simp; omega
      rcases List.mem_cons.1 hw with rfl | hm
      · omega
      · have := ih r (by omega) w hm
        omega

set_option maxHeartbeats 2000000 in
theorem set_any (s : List UInt8) (w : World) (g : GW w) (hs : s.length ≤ 300) :
    Calls Tryd.prog 50 #[.string (sb s)] w fun e w' => (match mskOf s with | some n => e = .returned (.int .u64 (n : Nat)) | none => e = .panicked bad) ∧ Below w.heap.size w w' := by
  by_cases h0 : s = []
  · subst h0
    rw [show mskOf [] = some 0 from rfl]
    have q : (([] : List UInt8) == []) = true := rfl
    clear g hs
    go_enter Tryd.func50, Tryd.ntmps50
    go_wp2
    go_ret
    exact ⟨rfl, Below.refl _ _⟩
  · have q : (s == []) = false := by rw [beq_eq_false_iff_ne]; exact h0
    have q2 : ¬ s = [] := h0
    have CS : Hid (∀ _ : Unit, _) := fun _ => split_any 44 s w g (by omega)
    have W0 : ∃ w1, w1 = w.alloc (.cells ((parts 44 s).map str).toArray 9) := ⟨_, rfl⟩
    obtain ⟨w1, hw1⟩ := W0
    rw [← hw1] at CS
    have b1 : Below w.heap.size w w1 := by rw [hw1]; exact (Below.refl _ _).alloc (Nat.le_refl _) _
    have R1 : ORow str w1 (.slice (some ⟨w.heap.size, 0, none⟩) (parts 44 s).length (parts 44 s).length) (parts 44 s) := by rw [hw1]; exact orow_new (c := str) w (parts 44 s) 9 _ _ rfl
    have CN : Hid (∀ (u : World), Below w.heap.size w u → ∀ x ∈ parts 44 s, _) := fun u b x hx => num_any x u (g.below b) (by have := parts_le 44 s x hx; omega)
    have CC : Hid (∀ (u : World), Below w.heap.size w u → ∀ n, n < 18446744073709551616 → _) := fun u b n hn => cpus_any n u (g.below b) hn
    have CO : Hid (∀ (u : World) (v : Value) (xs : List Int), (xs.length : Int) ≤ 1000 → Row u v xs → _) := fun u v xs h r => kof_any xs v u h r
    have CY : Hid (∀ u, _) := fun u => must_yes u
    have CM : Hid (∀ u, _) := fun u => must_no u
    have hP : (parts 44 s).length ≤ 301 := by
      rw [parts_length]
      have := List.count_le_length (a := (44 : UInt8)) (l := s)
      omega
    have FN : Hid (∀ k (hk : k < (parts 44 s).length) vs, nums ((parts 44 s).take k) = some vs → numOf (parts 44 s)[k] = none → mskOf s = none) := fun k hk vs h1 h2 => mskOf_part h0 (by
      rw [split_next (parts 44 s) k hk]
      exact nums_head_none h2)
    have FS : Hid (∀ k (hk : k < (parts 44 s).length) vs n, nums ((parts 44 s).take k) = some vs → numOf (parts 44 s)[k] = some n → nums ((parts 44 s).take (k + 1)) = some (vs ++ [n])) := fun k hk vs n h1 h2 => by
      rw [take_next _ k hk, nums_snoc, h1, h2]
      rfl
    have FE : Hid (∀ vs, nums (parts 44 s) = some vs → mskOf s = if cps (wl 0 vs) = s then some (wl 0 vs) else none) := fun vs h => mskOf_all h0 h
    have FT : Hid ((parts 44 s).take (parts 44 s).length = parts 44 s) := List.take_length
    have FL : Hid (∀ xs, nums (parts 44 s) = some xs → xs.length ≤ 301) := fun xs h => by rw [nums_len _ _ h]; exact hP
    have FM : Hid (∀ k xs, nums ((parts 44 s).take k) = some xs → xs.length ≤ 301) := fun k xs h => by rw [nums_len _ _ h, List.length_take]; omega
    have HR : Hid (ORow str w1 (.slice (some ⟨w.heap.size, 0, none⟩) (parts 44 s).length (parts 44 s).length) (parts 44 s)) := R1
    have HB : Hid (Below w.heap.size w w1) := b1
    generalize hps : parts 44 s = P at *
    generalize hms : mskOf s = R at *
    obtain ⟨N, hN⟩ : ∃ N, P.length = N := ⟨_, rfl⟩
    have HN : Hid (P.length = N) := hN
    have O0 : Hid (OG (Value.int .i64) 3 w1 w1 (.slice none 0 0) []) := og_start _ _ w1
    rw [hN] at CS hP FT HR
    clear hps hms hN R1 b1 hw1 g hs h0
    go_enter Tryd.func50, Tryd.ntmps50
    go_wp2_with fail
    refine (CS.out ()).mono ?_
    rintro e w' ⟨rfl, hw'⟩
    rw [hw']
    clear hw'
    go_wp2
    go_loopw [3, 12] (fun v i wr => ∃ (k : Nat) (vs : List Int), (k : Int) ≤ N ∧ i = .int .i64 k ∧ Hid (nums (P.take k) = some vs) ∧ Hid (OG (Value.int .i64) 3 w1 wr v vs)) (fun _ i _ => N - (intOf i).toNat)
    case atStart => exact ⟨0, [], by omega, rfl, rfl, O0⟩
    case round =>
      obtain ⟨k, vs, hk, rfl, hv, G⟩ := hrel
      by_cases h : (k : Int) < N
      · have hkP : k < P.length := by rw [HN.out]; omega
        obtain ⟨b0, off, he, hlt, hc0⟩ := orow_cell (HR.out.below G.out.bel) (List.getElem?_eq_getElem hkP)
        obtain ⟨rfl, rfl⟩ : w.heap.size = b0 ∧ 0 = off := by
          simp only [Option.some.injEq, Addr.mk.injEq] at he
          exact ⟨he.1, he.2.1⟩
        rw [Nat.zero_add] at hc0
        have CN1 := CN.out wr (HB.out.trans (G.out.bel.mono HB.out.size)) P[k] (List.getElem_mem hkP)
        have SN := FN.out k hkP vs hv.out
        have SS := FS.out k hkP vs
        have SZ : Hid (vs.length ≤ 100000) := by show _ ≤ _; have := FM.out k vs hv.out; omega
        unfold str at hc0
        generalize P[k] = x at *
        have BW : Hid (Below w.heap.size w wr) := HB.out.trans (G.out.bel.mono HB.out.size)
        clear hkP he hlt
        cases hx : numOf x with
        | none =>
          rw [hx] at CN1 SN
          have C1 : Hid (∀ _ : Unit, _) := fun _ => CN1
          have e1 := SN rfl
          subst e1
          clear CN1 SN SS hx
          go_wp2_with fail
          refine (C1.out ()).mono ?_
          rintro e u1 ⟨rfl, bu⟩
          go_wp2
          simp only [bodyPost]
          exact ⟨trivial, trivial, BW.out.trans (bu.mono BW.out.size)⟩
        | some n =>
          rw [hx] at CN1 SS
          have C1 : Hid (∀ _ : Unit, _) := fun _ => CN1
          have S1 : Hid _ := SS n hv.out rfl
          clear CN1 SN SS hx
          go_wp2_with fail
          refine (C1.out ()).mono ?_
          rintro e u1 ⟨rfl, bu⟩
          obtain ⟨v', w2, hrun, G2⟩ := int_app n G.out bu SZ.out
          have R2 : Hid _ := hrun
          have G3 : Hid _ := G2
          clear hrun G2 bu
          go_wp2_with (at_builtin; refine wpList_rung rfl (.tmp 16) (.tmp 19) 81 rfl rfl rfl R2.out ?_)
          go_roundw
          case rel => exact ⟨k + 1, _, by omega, by go_num, S1, G3⟩
          case measure => simp [intOf]; omega
      · obtain rfl : k = N := by omega
        have hv2 := hv.out
        rw [FT.out] at hv2
        have RR : Row wr _ vs := row_of_owns G.out.own
        have CO1 : Hid (∀ _ : Unit, _) := fun _ => CO.out wr _ vs (by have := FL.out vs hv2; omega) RR
        have hm : wl 0 vs < 18446744073709551616 := wl_lt 0 vs (by omega)
        have BW := HB.out.trans (G.out.bel.mono HB.out.size)
        have CC1 : Hid (∀ _ : Unit, _) := fun _ => CC.out wr BW (wl 0 vs) hm
        have HW : Hid (Below w.heap.size w wr) := BW
        obtain ⟨a1, c1, rfl⟩ := G.out.shape
        have FE1 := FE.out vs hv2
        generalize wl 0 vs = M at *
        clear RR hv2 hm BW G hv
        by_cases hc : cps M = s
        · rw [if_pos hc] at FE1
          subst FE1
          have q3 : (cps M == s) = true := by rw [beq_iff_eq]; exact hc
          clear hc
          go_wp2_with fail
          refine (CO1.out ()).mono ?_
          rintro e u1 ⟨rfl, rfl⟩
          go_wp2_with fail
          refine (CC1.out ()).mono ?_
          rintro e u2 ⟨rfl, b2⟩
          go_wp2_with fail
          refine (CY.out _).mono ?_
          rintro e u3 ⟨rfl, rfl⟩
          go_wp2
          go_ret
          exact ⟨rfl, HW.out.trans (b2.mono HW.out.size)⟩
        · rw [if_neg hc] at FE1
          subst FE1
          have q3 : (cps M == s) = false := by rw [beq_eq_false_iff_ne]; exact hc
          clear hc
          go_wp2_with fail
          refine (CO1.out ()).mono ?_
          rintro e u1 ⟨rfl, rfl⟩
          go_wp2_with fail
          refine (CC1.out ()).mono ?_
          rintro e u2 ⟨rfl, b2⟩
          go_wp2_with fail
          refine (CM.out _).mono ?_
          rintro e u3 ⟨rfl, rfl⟩
          go_wp2
          simp only [bodyPost]
          exact ⟨trivial, trivial, HW.out.trans (b2.mono HW.out.size)⟩
end Go.Proofs.YtcifjdnmnmmhoaaDoor
