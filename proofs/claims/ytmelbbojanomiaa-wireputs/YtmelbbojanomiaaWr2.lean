/- What the document's field, fields, Put and All answer, for all events. -/
import Derived.Test.YtmelbbojanomiaaRows
import Derived.Test.YtmelbbojanomiaaWr1
import Derived.Test.YtmelbbojanomiaaWiL
import Derived.WalkKit
import Derived.ProofKit
import Derived.OpenShut
import Derived.BigQuiet
namespace Go.Proofs.Ytmelbbojanomiaa
open Go.ChangeShapes Go.WideShapes Go.ChangeAt Go.RowKit
open Wi0

set_option maxRecDepth 100000 in
set_option maxHeartbeats 2000000 in
theorem field_any (w0 w : World) (v : Value) (xs : List Nat) (n : Int) (g : BG w0 w v xs) (hl : (xs.length : Int) ≤ 1000) (hn : I6 n) :
    Calls Try.prog 60 #[v, .int .i64 n] w fun e w' => ∃ v', e = .returned v' ∧ BG w0 w' v' (xs ++ pn n) := by
  obtain ⟨av, cv, hv⟩ := g.shape
  subst hv
  by_cases n0 : n = 0
  · subst n0
    have G : Hid (BG w0 w (.slice av xs.length cv) (xs ++ pn 0)) := by show BG w0 w (.slice av xs.length cv) (xs ++ pn 0); rw [show pn 0 = [] from rfl, List.append_nil]; exact g
    clear g hl hn
    go_enter Try.func60, Try.ntmps60
    go_wp2
    go_ret
    exact ⟨_, rfl, G.out⟩
  · have n1 : (n == 0) = false := beq_eq_false_iff_ne.2 n0
    rw [show pn n = wd n :: bs n (wd n) from if_neg n0]
    have C : Hid (∀ (k : Nat) (w : World), 1 ≤ k → k ≤ 8 → _) := fun k w h1 h8 => fits_any n k w hn h1 h8
    obtain ⟨c1, c8⟩ := wd_le n
    have WC : Hid (∀ k, 1 ≤ k → k ≤ 8 → (wd n = k ↔ fitk n k = true ∧ (k = 1 ∨ fitk n (k - 1) = false))) := fun k h1 h8 => wd_cases n hn k h1 h8
    obtain ⟨c, hc⟩ : ∃ c, wd n = c := ⟨_, rfl⟩
    rw [hc] at WC c1 c8 ⊢
    have CL : Hid ((1 : Int) ≤ c ∧ (c : Int) ≤ 8) := ⟨by omega, by omega⟩
    have G0 : Hid (BG w0 w (.slice av xs.length cv) xs) := g
    have HL : Hid ((xs.length : Int) ≤ 1000) := hl
    obtain ⟨NN, hNN⟩ : ∃ NN, xs.length = NN := ⟨_, rfl⟩
    rw [hNN] at G0 ⊢
    clear g hl hn hc n0 hNN c1 c8
    go_enter Try.func60, Try.ntmps60
    go_wp2
    go_loop [5] (fun i => ∃ k : Nat, (1 : Int) ≤ k ∧ (k : Int) ≤ c ∧ (k = 1 ∨ fitk n (k - 1) = false) ∧ i = .int .i64 k) (fun i => 9 - (intOf i).toNat)
    case atStart => exact ⟨1, by omega, by have := CL.out; omega, Or.inl rfl, rfl⟩
    case round =>
      obtain ⟨k, k1, kc, kp, rfl⟩ := hrel
      have k8 : k ≤ 8 := by have := CL.out; omega
      cases hf' : fitk n k with
      | false =>
        have C1 := C.out k w (by omega) k8
        rw [hf'] at C1
        have C2 : Hid (∀ _ : Unit, _) := fun _ => C1
        have kn : k ≠ c := fun e => by
          have := (WC.out k (by omega) k8).1 e.symm
          rw [hf'] at this
          cases this.1
        have KN : Hid (fitk n (k + 1 - 1) = false) := by show fitk n (k + 1 - 1) = false; rw [Nat.add_sub_cancel]; exact hf'
        clear C1
        go_wp2_with fail
        refine (C2.out ()).mono ?_
        rintro e w'' ⟨rfl, e0⟩
        subst e0
        go_wp2
        go_round
        case rel => exact ⟨k + 1, by omega, by omega, Or.inr KN.out, by go_num⟩
        case measure => simp [intOf]; omega
      | true =>
        have kc2 : c = k := (WC.out k (by omega) k8).2 ⟨hf', kp⟩
        subst kc2
        have C1 := C.out c w (by omega) k8
        rw [hf'] at C1
        have C2 : Hid (∀ _ : Unit, _) := fun _ => C1
        have cw : IntKind.u8.wrap (c : Int) = (c : Nat) := by simp [IntKind.wrap, IntKind.bits, IntKind.signed]; omega
        obtain ⟨v1, w1, hrun, g1⟩ := bg_one (wr := w) c G0.out (by have := HL.out; omega)
        have G1 : Hid (BG w0 w1 v1 (xs ++ [c])) := g1
        have ch : (c : Int) ≤ 8 := by omega
        clear C1 g1 kp hf' C WC
        go_wp2_with fail
        refine (C2.out ()).mono ?_
        rintro e w'' ⟨rfl, e0⟩
        subst e0
        go_wp2_with (at_builtin; refine wpList_rung rfl (.tmp 16) (.tmp 19) 53 rfl rfl rfl hrun ?_)
        go_loopw [0, 6] (fun u i wr => ∃ (j : Nat) (T : List Nat), (j : Int) ≤ c ∧ T ++ bs n j = bs n c ∧ BG w0 wr u (xs ++ c :: T) ∧ i = .int .i64 ((j : Int) - 1)) (fun _ i _ => ((intOf i) + 1).toNat)
        case atStart => exact ⟨c, [], by omega, rfl, G1.out, by go_num⟩
        case round =>
          obtain ⟨j, T, hj, hT, g, rfl⟩ := hrel
          by_cases q : (1 : Int) ≤ j
          · obtain ⟨k, rfl⟩ : ∃ k, j = k + 1 := ⟨j - 1, by omega⟩
            have eb : n / 2 ^ (8 * k) % 256 = ((bt n k : Nat) : Int) := by unfold bt; omega
            have NT : Hid ((T ++ [bt n k]) ++ bs n k = bs n c) := by
              show (T ++ [bt n k]) ++ bs n k = bs n c
              rw [List.append_assoc]
              exact hT
            generalize bt n k = x at *
            obtain ⟨v2, w2, hrun2, g2⟩ := bg_one (wr := wr) x g (by
              have h1 := congrArg List.length hT
              rw [List.length_append, bs_len, bs_len] at h1
              rw [List.length_append, List.length_cons]
              have := HL.out
              omega)
            have G2 : Hid (BG w0 w2 v2 (xs ++ c :: (T ++ [x]))) := by
              have e : xs ++ c :: (T ++ [x]) = (xs ++ c :: T) ++ [x] := by simp
              show BG w0 w2 v2 (xs ++ c :: (T ++ [x]))
              rw [e]
              exact g2
            clear g g2 hT hrun
            go_wp2_with (at_builtin; refine wpList_rung rfl (.tmp 27) (.tmp 34) 53 rfl rfl rfl hrun2 ?_)
            go_roundw
            case rel => exact ⟨k, T ++ [x], by omega, NT.out, G2.out, by go_num⟩
            case measure => simp [intOf]; try omega
          · obtain rfl : j = 0 := by omega
            have e : T = bs n c := by simpa [bs] using hT
            subst e
            have G2 : Hid (BG w0 wr u0 (xs ++ c :: bs n c)) := g
            clear g hT hrun
            go_wp2
            go_ret
            exact ⟨_, rfl, G2.out⟩
end Go.Proofs.Ytmelbbojanomiaa
