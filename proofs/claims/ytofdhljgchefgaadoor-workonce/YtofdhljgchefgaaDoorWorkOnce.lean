/- Proved: for every list to and every list takes, davitlaw17.WorkOnce(to, takes) returns true: each work that is queued is taken once, on whatever core (32 works, 100 takes, as the law itself says), and both lists are left alone; no condition but that the listed table is as the program's text lays it, which the card ties. -/
import Derived.Test.YtofdhljgchefgaaDoorRows
import Derived.Test.YtofdhljgchefgaaDoorTie
import Derived.Test.YtofdhljgchefgaaDoorCards
import Derived.Test.YtofdhljgchefgaaDoorMv
import Derived.Test.YtofdhljgchefgaaDoorFo
import Derived.Test.YtofdhljgchefgaaDoorGd
import Derived.WalkKit
import Derived.ProofKit
import Derived.OpenShut
import Derived.Stop.Joined
import Derived.ShutString
import Derived.ChangeOld
import Derived.Below
import Derived.Carry
import Derived.LaidMore
import Derived.SevenTiedAt
namespace Go.Proofs.YtofdhljgchefgaaDoor.workOnce
open Go.ChangeShapes Go.WideShapes Go.ChangeAt Go.RowKit
open Mm Fm Sl Cm
set_option linter.unusedVariables false
set_option linter.unusedSimpArgs false

set_option maxRecDepth 100000 in
set_option maxHeartbeats 4000000 in
theorem walk (a0 : Option Addr) (len0 cap0 : Nat) (xs0 : List Int) (a1 : Option Addr) (len1 cap1 : Nat) (xs1 : List Int) (w : World) (w0 : Row w (.slice a0 len0 cap0) xs0) (l0 : xs0.length = len0) (z0 : ∀ n ∈ xs0, (Lit.int .i64 n).wf = true) (w1 : Row w (.slice a1 len1 cap1) xs1) (l1 : xs1.length = len1) (z1 : ∀ n ∈ xs1, (Lit.int .i64 n).wf = true) (ht : Tab w) (hs : 0 < w.heap.size) :
    Calls Tryd.prog 4 #[.slice a0 len0 cap0, .slice a1 len1 cap1] w fun e w' => e = .returned (.bool true) ∧ Below w.heap.size w w' := by
  obtain ⟨j0, hj, hz0, hz1, hz2⟩ := info_parts Tryd.info3
  have KN : Hid (∀ w1, Below w.heap.size w w1 → _) := fun w1 b => gknown_yes w1 (ht.keep hs (by simp) (Fr.of_below b)) (by have := b.size; omega)
  have C : Hid (∀ _ : Unit, _) := fun _ => gnew_any 3 w (by decide) (by decide)
  have HR : Hid (Row w (.slice a0 len0 cap0) xs0) := w0
  have HL : Hid (xs0.length = len0) := l0
  have HM : Hid (Row w (.slice a1 len1 cap1) xs1) := w1
  have HL1 : Hid (xs1.length = len1) := l1
  have HT : Hid (∀ w2 : World, Below w.heap.size w w2 → Tab w2) := fun w2 f => gtab_below ht hs f
  obtain ⟨s, hs2⟩ : ∃ s, w.heap.size = s := ⟨_, rfl⟩
  rw [hs2] at KN C HT ⊢
  have HS : Hid (w.heap.size = s) := hs2
  clear w0 l0 z0 w1 l1 z1 ht hs hs2
  by_cases big : (32 : Int) < len0
  · go_enter Tryd.func4, Tryd.ntmps4
    go_wp2_with fail
    refine (C.out ()).mono ?_
    rintro e u1 ⟨rfl, q1, b1⟩
    have B1 : Hid (Below s w u1) := b1
    clear q1 b1
    go_wp2_with fail
    refine (KN.out _ B1.out).mono ?_
    rintro e u2 ⟨rfl, b2⟩
    go_wp2
    go_ret
    exact ⟨rfl, B1.out.trans (b2.mono (by have := B1.out.size; have := HS.out; omega))⟩
  · go_enter Tryd.func4, Tryd.ntmps4
    go_wp2_with fail
    refine (C.out ()).mono ?_
    rintro e u1 ⟨rfl, q1, b1⟩
    have P0 : Hid (GM w u1 s (List.replicate (3 + 1) []) (.slice none 0 0) []) := ⟨q1, World.ownsRow_nil _ _ _ _, b1⟩
    clear q1 b1 C
    go_wp2
    go_loopw [8, 7] (fun i v wr => ∃ (k : Nat) (L : List Int) (K : Ks) (a' : Option Addr) (c' : Nat), (k : Int) ≤ len0 ∧ i = .int .i64 (k : Int) ∧ v = .slice a' L.length c' ∧ Hid (GM w wr s K (.slice a' L.length c') L) ∧ Hid (LI K L)) (fun i _ _ => len0 - (intOf i).toNat)
    case atStart => exact ⟨0, [], _, none, 0, by omega, rfl, rfl, P0, li_nil _⟩
    case round =>
      obtain ⟨k, L, K, a', c', hk, rfl, rfl, p, hq⟩ := hrel
      clear P0
      by_cases c : (k : Int) < len0
      · obtain ⟨b0, off, rfl, hc⟩ := row_cell (wr := wr) HR.out HL.out (by rw [HS.out]; exact p.out.bel) c
        generalize xs0.getD k 0 = d at *
        have QU : Hid (∀ _ : Unit, _) := fun _ => queue_any d p.out.x (HT.out _ p.out.bel)
        have ST : Hid (∀ w1, GX w1 s 3 (quK 3 K d) → Fr wr.heap.size (gz s 3) wr w1 → GM w w1 s (quK 3 K d) (.slice a' L.length c') L) := fun w1 q f => p.out.act q f
        have hl32 : (L.length : Int) ≤ 32 := by have := hq.out.le p.out.x.al; omega
        rcases li_queue d p.out.x.al p.out.x.kn hq.out with ⟨e1, e2⟩ | ⟨e1, e2⟩
        · rw [e1] at QU
          have NX : Hid (LI (quK 3 K d) (L ++ [quN 3 K d])) := e2
          generalize quN 3 K d = x at *
          generalize quK 3 K d = K2 at *
          clear p hq e1 e2
          go_wp2_with fail
          refine (QU.out ()).mono ?_
          rintro e w1 ⟨rfl, q, f⟩
          have G2 : Hid (GM w w1 s K2 (.slice a' L.length c') L) := ST.out w1 q f
          have hsz : s + 13 ≤ w1.heap.size := G2.out.hi
          clear q f ST QU
          go_wp2_with (at_builtin; refine wpList_append_own _ rfl _ _ 38 rfl (s + 13) 3 j0 (.int .i64 0) 1 8 Tryd.underlying38 hj hz0 hz1 hz2 rfl (by decide) _ _ _ rfl (G2.out.own.alloc _) ⟨_, 0, none⟩ 1 1 [.int .i64 x] rfl rfl ?c1 ?c2 ?c3 ?c4 ?c5 ?_)
          case c1 =>
            intro j u hj
            match j, hj with
            | 0, hj => simp at hj; subst hj; exact (Blk.new _ [_] _).cell 0
          case c2 => first | rfl | (intro u hu; simp at hu; subst hu; rfl)
          case c3 => unfold maxLen; omega
          case c4 => omega
          case c5 => first | omega | (simp; omega)
          intro v' w2 hown' hgrow _
          have G3 := G2.out.app hown' hgrow
          obtain ⟨a2, c2, rfl⟩ := own_shape hown'
          have eL : (L ++ [x]).length = L.length + 1 := by simp
          have G4 : Hid (GM w w2 s K2 (.slice a2 (L ++ [x]).length c2) (L ++ [x])) := by rw [eL]; exact G3
          clear hown' hgrow G3 G2
          go_wp2
          go_roundw
          case rel => exact ⟨k + 1, L ++ [x], K2, a2, c2, by omega, by go_num, by rw [eL], G4, NX⟩
          case measure => simp [intOf]; omega
        · have e3 : (quE 3 K d == 0) = false := by simpa using e1
          rw [e2] at QU ST
          generalize quE 3 K d = ee at *
          generalize quN 3 K d = x at *
          clear p e1 e2
          go_wp2_with fail
          refine (QU.out ()).mono ?_
          rintro e w1 ⟨rfl, q, f⟩
          have G2 : Hid (GM w w1 s K (.slice a' L.length c') L) := ST.out w1 q f
          clear q f ST QU
          go_wp2
          go_roundw
          case rel => exact ⟨k + 1, L, K, a', c', by omega, by go_num, rfl, G2, hq⟩
          case measure => simp [intOf]; omega
      · have P1 : Hid (GM w wr s K (.slice a' L.length c') L) := p
        have Q1 : Hid (LI K L) := hq
        clear p hq
        obtain ⟨wo1, rfl⟩ : ∃ wo1, wo1 = wr := ⟨_, rfl⟩
        go_wp2
        go_loopw [11, 7] (fun i v wq => ∃ (j : Nat) (L2 : List Int) (K2 : Ks) (a2 : Option Addr) (c2 : Nat), (j : Int) ≤ len1 ∧ (j : Int) ≤ 100 ∧ i = .int .i64 (j : Int) ∧ v = .slice a2 L2.length c2 ∧ Hid (GM w wq s K2 (.slice a2 L2.length c2) L2) ∧ Hid (LI K2 L2)) (fun i _ _ => 100 - (intOf i).toNat)
        case atStart => exact ⟨0, L, K, a', c', by omega, by omega, rfl, rfl, P1, Q1⟩
        case round =>
          obtain ⟨j, L2, K2, a2, c2, hj1, hj2, rfl, rfl, p, hq⟩ := hrel
          clear P1 Q1
          have hl32 : (L2.length : Int) ≤ 32 := by have := hq.out.le p.out.x.al; omega
          have tail : (¬ (j : Int) < len1 ∧ decide ((j : Int) < len1) = false) ∨ ((j : Int) < len1 ∧ ¬ (j : Int) < 100) ∨ ((j : Int) < len1 ∧ (j : Int) < 100) := by
            by_cases h : (j : Int) < len1
            · by_cases h2 : (j : Int) < 100
              · exact Or.inr (Or.inr ⟨h, h2⟩)
              · exact Or.inr (Or.inl ⟨h, h2⟩)
            · exact Or.inl ⟨h, decide_eq_false h⟩
          rw [← or_assoc] at tail
          rcases tail with tail | ⟨h5, h6⟩
          · obtain ⟨ln, hln⟩ : ∃ ln, L2.length = ln := ⟨_, rfl⟩
            have HLN : Hid (L2.length = ln) := hln
            rw [hln] at p hl32 ⊢
            clear hln
            obtain ⟨wo2, rfl⟩ : ∃ wo2, wo2 = wr := ⟨_, rfl⟩
            rcases tail with ⟨h5, hd5⟩ | ⟨h5, h6⟩
            all_goals (
              go_wp2
              go_loop [16] (fun i => ∃ m : Nat, (m : Int) ≤ ln ∧ i = .int .i64 (m : Int)) (fun i => ln - (intOf i).toNat)
              case atStart => exact ⟨0, by omega, rfl⟩
              case round =>
                obtain ⟨m, hm, rfl⟩ := hrel
                by_cases h7 : (m : Int) < ln
                · obtain ⟨b3, rfl, hc3⟩ := p.out.read HLN.out (Below.refl _ _) h7
                  have hmem : L2.getD m 0 ∈ L2 := by rw [getD_of _ _ (by have := HLN.out; omega)]; exact List.getElem_mem _
                  have hr := hq.out.rg p.out.x.al _ hmem
                  have HA : Hid (∀ _ : Unit, _) := fun _ => ghas_any (L2.getD m 0) (wf_small _ (by omega) (by omega)) p.out.x
                  rw [show haB K2 (L2.getD m 0) = true from Option.isSome_iff_ne_none.2 ((hq.out.mem _).1 hmem)] at HA
                  generalize L2.getD m 0 = y at *
                  clear hmem hr
                  go_wp2_with fail
                  refine (HA.out ()).mono ?_
                  rintro e u3 ⟨rfl, rfl⟩
                  go_wp2
                  go_round
                  case rel => exact ⟨m + 1, by omega, by go_num⟩
                  case measure => simp [intOf]; omega
                · have LD : Hid (∀ c : Int, _) := fun c => gload_any c p.out.x
                  have sm := li_load p.out.x.kn
                  rw [hq.out.len, HLN.out] at sm
                  have B9 : Hid (Below s w wo2) := p.out.bel
                  have L0 : Hid (∀ _ : Unit, _) := fun _ => LD.out 0
                  have L1 : Hid (∀ _ : Unit, _) := fun _ => LD.out 1
                  have L3 : Hid (∀ _ : Unit, _) := fun _ => LD.out 2
                  have L4 : Hid (∀ _ : Unit, _) := fun _ => LD.out (-1)
                  clear LD
                  generalize (wlL 3 K2 0).length = n0 at *
                  generalize (wlL 3 K2 1).length = n1 at *
                  generalize (wlL 3 K2 2).length = n2 at *
                  generalize (wlL 3 K2 (-1)).length = n3 at *
                  have s4 : ((n0 : Int) + n1 + n2 + n3 == (ln : Int)) = true := by simp; omega
                  have b0 : (n0 : Int) ≤ 32 := by omega
                  have b1 : (n1 : Int) ≤ 32 := by omega
                  have b2 : (n2 : Int) ≤ 32 := by omega
                  have b3 : (n3 : Int) ≤ 32 := by omega
                  clear p hq sm
                  go_wp2_with fail
                  refine (L0.out ()).mono ?_
                  rintro e u3 ⟨rfl, rfl⟩
                  go_wp2_with fail
                  refine (L1.out ()).mono ?_
                  rintro e u3 ⟨rfl, rfl⟩
                  go_wp2_with fail
                  refine (L3.out ()).mono ?_
                  rintro e u3 ⟨rfl, rfl⟩
                  go_wp2_with fail
                  refine (L4.out ()).mono ?_
                  rintro e u3 ⟨rfl, rfl⟩
                  go_wp2_with fail
                  refine (KN.out _ B9.out).mono ?_
                  rintro e w6 ⟨rfl, b6⟩
                  go_wp2
                  go_ret
                  exact ⟨rfl, B9.out.trans (b6.mono (by have := B9.out.size; have := HS.out; omega))⟩)
          · obtain ⟨b0, off, rfl, hc⟩ := row_cell (wr := wr) HM.out HL1.out (by rw [HS.out]; exact p.out.bel) h5
            generalize xs1.getD j 0 = d at *
            have TK : Hid (∀ _ : Unit, _) := fun _ => gtake_any d p.out.x
            have ST : Hid (∀ w1, GX w1 s 3 (taK 3 K2 d) → Fr wr.heap.size (gz s 3) wr w1 → GM w w1 s (taK 3 K2 d) (.slice a2 L2.length c2) L2) := fun w1 q f => p.out.act q f
            rcases li_take d p.out.x.al hq.out with ⟨e1, e2, e3, e4, e5, e6⟩ | ⟨e1, e2⟩
            · rw [e1] at TK
              have NX : Hid (LI (taK 3 K2 d) (wo L2 (taN 3 K2 d))) := e2
              have HB : Hid (haB (taK 3 K2 d) (taN 3 K2 d) = false) := e4
              have WX : Hid ((Lit.int .i64 (taN 3 K2 d)).wf = true) := wf_small _ (by omega) (by omega)
              have E3 : Hid ((wo L2 (taN 3 K2 d)).length + 1 = L2.length) := e3
              generalize taN 3 K2 d = x at *
              generalize taK 3 K2 d = K3 at *
              obtain ⟨ln, hln⟩ : ∃ ln, L2.length = ln := ⟨_, rfl⟩
              have HLN : Hid (L2.length = ln) := hln
              rw [hln] at ST hl32 E3 ⊢
              clear p hq e1 e2 e3 e4 e5 e6 hln
              go_wp2_with fail
              refine (TK.out ()).mono ?_
              rintro e w1 ⟨rfl, q, f⟩
              have G2 : Hid (GM w w1 s K3 (.slice a2 ln c2) L2) := ST.out w1 q f
              clear q f ST TK
              go_wp2
              go_loopw [14, 15] (fun v i wq => ∃ (m : Nat) (G : List Int), (m : Int) ≤ ln ∧ i = .int .i64 (m : Int) ∧ Gt w1 wq v G ∧ Hid (wo (L2.take m) x = G) ∧ (G.length : Int) ≤ m) (fun _ i _ => ln - (intOf i).toNat)
              case atStart => exact ⟨0, [], by omega, rfl, gt_start w1, rfl, by simp⟩
              case round =>
                obtain ⟨m, G, hm, rfl, g, hG, hgl⟩ := hrel
                by_cases h7 : (m : Int) < ln
                · obtain ⟨b3, rfl, hc3⟩ := G2.out.read HLN.out g.bel h7
                  have hs3 : wo (L2.take (m + 1)) x = if L2.getD m 0 = x then wo (L2.take m) x else wo (L2.take m) x ++ [L2.getD m 0] := by rw [take_snoc L2 m (by have := HLN.out; omega), gwo_snoc]
                  rw [hG.out] at hs3
                  generalize L2.getD m 0 = y at *
                  by_cases e : y = x
                  · subst e
                    have HS3 : Hid (wo (L2.take (m + 1)) y = G) := by rw [hs3, if_pos rfl]; exact rfl
                    clear hs3
                    go_wp2
                    go_roundw
                    case rel => exact ⟨m + 1, G, by omega, by go_num, g, HS3, by omega⟩
                    case measure => simp [intOf]; omega
                  · have HS3 : Hid (wo (L2.take (m + 1)) x = G ++ [y]) := by rw [hs3, if_neg e]; exact rfl
                    have e2 : (y != x) = true := by simpa using e
                    have hsz := g.bel.size
                    clear hs3 e
                    go_wp2_with (at_builtin; refine wpList_append_own _ rfl _ _ 38 rfl w1.heap.size 3 j0 (.int .i64 0) 1 8 Tryd.underlying38 hj hz0 hz1 hz2 rfl (by decide) _ _ _ rfl (g.own.alloc _) ⟨_, 0, none⟩ 1 1 [.int .i64 y] rfl rfl ?c1 ?c2 ?c3 ?c4 ?c5 ?_)
                    case c1 =>
                      intro j u hj
                      match j, hj with
                      | 0, hj => simp at hj; subst hj; exact (Blk.new _ [_] _).cell 0
                    case c2 => first | rfl | (intro u hu; simp at hu; subst hu; rfl)
                    case c3 => unfold maxLen; omega
                    case c4 => omega
                    case c5 => first | omega | (simp; omega)
                    intro v' w2 hown' hgrow _
                    have G3 := gt_app g hown' hgrow
                    clear hown' hgrow
                    go_wp2
                    go_roundw
                    case rel => exact ⟨m + 1, G ++ [y], by omega, by go_num, G3, HS3, by simp; omega⟩
                    case measure => simp [intOf]; omega
                · have e : G = wo L2 x := by
                    rw [← hG.out, List.take_of_length_le (by have := HLN.out; omega)]
                  obtain ⟨a4, c4, rfl⟩ := own_shape g.own
                  have lg : (G.length : Int) = (ln : Int) - 1 := by rw [e]; have := E3.out; omega
                  have lg2 : ((G.length : Int) != (ln : Int) - 1) = false := by simp; omega
                  have hg32 : (G.length : Int) ≤ 32 := by omega
                  have NX2 : Hid (LI K3 G) := by rw [e]; exact NX.out
                  have G5 : Hid (GM w wr s K3 (.slice a4 G.length c4) G) := G2.out.take g
                  have HA : Hid (∀ _ : Unit, _) := fun _ => ghas_any x WX.out G5.out.x
                  rw [HB.out] at HA
                  clear g e lg hG hgl
                  go_wp2_with fail
                  refine (HA.out ()).mono ?_
                  rintro e u3 ⟨rfl, rfl⟩
                  go_wp2
                  go_roundw
                  case rel => exact ⟨j + 1, G, K3, a4, c4, by omega, by omega, by go_num, rfl, G5, NX2⟩
                  case measure => simp [intOf]; omega
            · have e3 : (taE 3 K2 d != 0) = true := by simpa using e1
              rw [e2] at TK ST
              generalize taE 3 K2 d = ee at *
              generalize taN 3 K2 d = x at *
              clear p e1 e2
              go_wp2_with fail
              refine (TK.out ()).mono ?_
              rintro e w1 ⟨rfl, q, f⟩
              have G2 : Hid (GM w w1 s K2 (.slice a2 L2.length c2) L2) := ST.out w1 q f
              clear q f ST TK
              go_wp2
              go_roundw
              case rel => exact ⟨j + 1, L2, K2, a2, c2, by omega, by omega, by go_num, rfl, G2, hq⟩
              case measure => simp [intOf]; omega

set_option maxRecDepth 100000 in
theorem lifted (os : Os) (started : os.Started) (H : Type) (enc : TypeId × Value → H) :
    ReturnsInHanded {} Tryd.checked os 4 .any (fun w args => (Rows.workOnceSpec.pre enc Tryd.prog Tryd.f4 [] false w args ∧ laidMetH Tryd.prog laidTab w) ∧ sizedMet enc Tryd.prog Tryd.f4 (OpenSpec.ofChange Rows.workOnceSpec) false w args)
      (Rows.workOnceSpec.post enc Tryd.prog Tryd.f4 false true false false) := by
  refine returnsInHanded_of_change_and (C := Tryd.checked) (X := fun w _ => laidMetH Tryd.prog laidTab w) (fun _ _ _ hh h => h.of_heap hh) own started (by kernel_rfl) Tryd.func4
    (ChangeSpec.witness_shaped (enc := enc) (C := Tryd.checked) (os := os) (X := fun w _ => laidMetH Tryd.prog laidTab w) false (World.doorLaid Tryd.prog 400 os) #[.slice none 0 0, .slice none 0 0] 8 rfl (World.shaped_of_RefB (by kernel_rfl) (by kernel_rfl)) (by kernel_rfl) (by kernel_rfl) (by kernel_rfl) (door_met os _)) ?_
  intro W base args ds gs before hval0 hW _ _ hL _
  have hval : ∀ (j : Nat) t v, Tryd.f4.params[j]? = some t → args[j]? = some v → Value.okWide Tryd.prog W .any base t v := hval0
  have hW' := hW
  obtain ⟨p, q, hA0, hV, rfl, hfz, hnd⟩ := hW
  have hA : DataW.TrodAll enc Tryd.prog W 0 (fun _ => true) true Tryd.f4.params.toList args.toList ds p := hA0
  rw [Tryd.params4] at hA hval
  obtain ⟨v0, vs0, d0, ds0, p0, q0, hargs, rfl, rfl, h0, r0⟩ := trodAll_cons hA
  obtain ⟨v1, vs1, d1, ds1, p1, q1, rfl, rfl, rfl, h1, r1⟩ := trodAll_cons r0
  obtain ⟨rfl, rfl, rfl⟩ := trodAll_nil r1
  obtain rfl : args = #[v0, v1] := by cases args; simp_all
  obtain ⟨rfl, rfl⟩ := trodVars_none hV
  obtain ⟨a0, len0, cap0, rfl⟩ := okWide_slice Tryd.underlying38 (hval 0 38 v0 rfl rfl)
  have k0 := h0
  have lt0 : ∀ x ∈ p0, x.block < W.heap.size := by obtain ⟨m, hm⟩ := k0; exact DataW.trod_lt m _ _ _ hm
  obtain ⟨xs0, w0, l0, z0⟩ : ∃ xs, Row W (.slice a0 len0 cap0) xs ∧ xs.length = len0 ∧ ∀ n ∈ xs, (Lit.int .i64 n).wf = true := by
    obtain ⟨fuel, hf⟩ := h0
    rcases open_ints Tryd.underlying38 Tryd.underlying3 (by kernel_rfl) hf with ⟨hcs, _⟩ | ⟨x, l, c, zs, hcs, _, hl, hm, hz, _, hcell, hwz⟩
    · simp [Value.cells] at hcs
      obtain ⟨rfl, rfl, rfl⟩ := hcs
      exact ⟨[], Or.inl ⟨rfl, none, 0, rfl⟩, rfl, fun n hn => by simp at hn⟩
    · simp [Value.cells] at hcs
      obtain ⟨rfl, rfl, rfl⟩ := hcs
      obtain ⟨xs, r1, r2, r3⟩ := row_of_cells (zs := zs) (Or.inr ⟨_, rfl, hl, by simpa using hz, hcell⟩)
      exact ⟨xs, r1, r2, fun n hn => hwz n (r3 n hn)⟩
  obtain ⟨a1, len1, cap1, rfl⟩ := okWide_slice Tryd.underlying38 (hval 1 38 v1 rfl rfl)
  have k1 := h1
  have lt1 : ∀ x ∈ p1, x.block < W.heap.size := by obtain ⟨m, hm⟩ := k1; exact DataW.trod_lt m _ _ _ hm
  obtain ⟨xs1, w1, l1, z1⟩ : ∃ xs, Row W (.slice a1 len1 cap1) xs ∧ xs.length = len1 ∧ ∀ n ∈ xs, (Lit.int .i64 n).wf = true := by
    obtain ⟨fuel, hf⟩ := h1
    rcases open_ints Tryd.underlying38 Tryd.underlying3 (by kernel_rfl) hf with ⟨hcs, _⟩ | ⟨x, l, c, zs, hcs, _, hl, hm, hz, _, hcell, hwz⟩
    · simp [Value.cells] at hcs
      obtain ⟨rfl, rfl, rfl⟩ := hcs
      exact ⟨[], Or.inl ⟨rfl, none, 0, rfl⟩, rfl, fun n hn => by simp at hn⟩
    · simp [Value.cells] at hcs
      obtain ⟨rfl, rfl, rfl⟩ := hcs
      obtain ⟨xs, r1, r2, r3⟩ := row_of_cells (zs := zs) (Or.inr ⟨_, rfl, hl, by simpa using hz, hcell⟩)
      exact ⟨xs, r1, r2, fun n hn => hwz n (r3 n hn)⟩
  obtain ⟨hT, hS⟩ := of_laid hL
  clear hA0 hval0
  refine (walk a0 len0 cap0 xs0 a1 len1 cap1 xs1 W w0 l0 z0 w1 l1 z1 hT hS).mono fun e W' ⟨he, bel⟩ => ?_
  subst he
  exact ⟨_, rfl, _, _, _, [], _, [], hW', trodAll_mk1 (shut_bool Tryd.underlying4 _), (trodAll_cons_mk (Below.trod laidOut (by kernel_rfl) (of_decide_eq_true (by kernel_rfl)) k0 bel lt0) (trodAll_cons_mk (Below.trod laidOut (by kernel_rfl) (of_decide_eq_true (by kernel_rfl)) k1 bel lt1) trodAll_mk0)), rfl, bel.frame _, fun h => by cases h⟩

theorem over : Rows.WorkOnceSaid :=
  OpenClaim.holds_of_wide 4 Tryd.f4 rfl rfl rfl rfl rfl rfl rfl ⟨rfl, rfl, rfl, rfl, rfl⟩ rfl rfl rfl rfl rfl (by kernel_rfl) Tryd.func4 (by kernel_rfl)
    (of_decide_eq_true (by kernel_rfl)) (by unfold Func.isWrapper; first | (rw [if_pos (by decide +kernel)]; kernel_rfl) | (rw [if_neg (by decide +kernel)]; exact ⟨rfl, rfl⟩))
    (fun os started H enc _ => lifted os started H enc)
end Go.Proofs.YtofdhljgchefgaaDoor.workOnce

namespace Go.Proofs.YtofdhljgchefgaaDoor
open Go
theorem workOnce_card : Rows.WorkOnceCardSaid :=
  Claim7.holds_tied_plain_at .later [] [.data] true (true, "c2ca43f4ea73c02762d5147dd1f7580f6374eb27a6182fd3484bba9f58af2859") false
    workOnce.over (fun _ h => by cases h) (by kernel_rfl) (fun _ h => by cases h) workOnce_row_tie rfl ⟨rfl, rfl⟩ (by kernel_rfl) rfl
    (fun f fn hf hfn => by
      obtain rfl : f = 4 := Option.some.inj ((show Tryd.prog.funcNamed "davit/davitlaw17.WorkOnce" = some 4 by kernel_rfl).symm.trans hf) |>.symm
      obtain rfl : fn = Tryd.f4 := (Option.some.inj (Tryd.func4.symm.trans hfn)).symm
      exact ⟨by kernel_rfl, fun j t ht => by
        rw [Tryd.params4] at ht
        have hm : t ∈ [38, 38] := by simpa using Array.mem_of_getElem? ht
        have hall : ([38, 38].all fun u => !Tryd.prog.wantsStandIn u) = true := by kernel_rfl
        exact (show Tryd.prog.wantsStandIn t = false by simpa using List.all_eq_true.1 hall t hm)⟩)
    (by kernel_rfl)
#print axioms workOnce_card
end Go.Proofs.YtofdhljgchefgaaDoor
