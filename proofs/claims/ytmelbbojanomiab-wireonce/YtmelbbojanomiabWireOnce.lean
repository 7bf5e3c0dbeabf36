/- Proved: for all bytes b, davitlaw26.WireOnce(b) returns true: what is got, put, is the bytes that it has, and all events that bytes are, put, are the bytes (5000 at most, as the law itself says); what is no event is no bytes and no event, and b is left alone; no condition. -/
import Derived.Test.YtmelbbojanomiabRows
import Derived.Test.YtmelbbojanomiabFo
import Derived.Test.YtmelbbojanomiabWi9
import Derived.WalkKit
import Derived.ProofKit
import Derived.OpenShut
import Derived.Stop.Joined
import Derived.ShutString
import Derived.ChangeOld
import Derived.Below
import Derived.Carry
import Derived.Test.YtmelbbojanomiabOro
import Derived.Test.YtmelbbojanomiabObo
import Derived.Deep.RegionHeld3
namespace Go.Proofs.Ytmelbbojanomiab.wireOnce
open Go.ChangeShapes Go.WideShapes Go.ChangeAt Go.RowKit
open Wi0
set_option linter.unusedVariables false
set_option linter.unusedSimpArgs false

theorem own : ownKnob Try.prog.godebug = none := by kernel_rfl
theorem laidOut : laidOutB Try.prog = true := by kernel_rfl

set_option maxRecDepth 100000 in
set_option maxHeartbeats 4000000 in
theorem walk (a0 : Option Addr) (len0 cap0 : Nat) (xs0 : List Nat) (w : World) (w0 : ORow by8 w (.slice a0 len0 cap0) xs0) (l0 : xs0.length = len0) (z0 : ∀ n ∈ xs0, n < 256) (y0 : len0 ≤ cap0 ∧ (a0 = none → cap0 = 0)) :
    Calls Try.prog 5 #[.slice a0 len0 cap0] w fun e w' => e = .returned (.bool true) ∧ Below w.heap.size w w' := by
  have KN : Hid (∀ w, _) := fun w => wknown_yes w
  have CR : Hid (CRow w a0 len0 cap0 xs0) := ⟨w0, y0.1, z0⟩
  have HL : Hid (xs0.length = len0) := l0
  have HZ0 : Hid (∀ n ∈ xs0, n < 256) := z0
  clear w0 l0 z0 y0
  by_cases big : (5000 : Int) < len0
  · go_enter Try.func5, Try.ntmps5
    go_wp2_with fail
    refine (KN.out _).mono ?_
    rintro e u ⟨rfl, b⟩
    have B : Hid (Below w.heap.size w u) := b
    clear b
    go_wp2
    go_ret
    exact ⟨rfl, B.out⟩
  have G : Hid (∀ _ : Unit, _) := fun _ => get_any w a0 len0 cap0 xs0 CR.out (by omega)
  cases hg : getE xs0 with
  | error c =>
    have ce := getE_err hg
    have c1 : (c == 0) = false := by rw [beq_eq_false_iff_ne]; omega
    rw [hg, show geV (.error c) = .tuple #[.agg #[.int .i64 0, .int .i64 0, .int .i64 0, .int .u64 0, .int .i64 0], .int .i64 0, .int .i64 c] from rfl] at G
    clear hg ce
    go_enter Try.func5, Try.ntmps5
    go_wp2_with fail
    refine (G.out ()).mono ?_
    rintro e u ⟨rfl, b⟩
    have B : Hid (∀ o, Below w.heap.size w (u.alloc o)) := fun o => b.alloc b.size o
    clear b
    go_wp2_with fail
    refine (KN.out _).mono ?_
    rintro e u2 ⟨rfl, b2⟩
    have B2 : Hid (Below w.heap.size w u2) := (B.out _).trans (b2.mono (B.out _).size)
    clear b2
    go_wp2
    go_ret
    exact ⟨rfl, B2.out⟩
  | ok ep =>
    obtain ⟨ev, p⟩ := ep
    obtain ⟨p2, pl, oke, _, pe⟩ := put_get xs0 HZ0.out ev p hg
    rw [hg, show geV (.ok (ev, p)) = .tuple #[.agg #[.int .i64 ev.kind, .int .i64 ev.cpu, .int .i64 ev.id, .int .u64 ev.mask, .int .i64 ev.n], .int .i64 (p : Nat), .int .i64 0] from rfl] at G
    have OKE : Hid (Eok ev) := oke
    have pn0 : p ≤ len0 := by rw [← HL.out]; exact pl
    have pc0 : p ≤ cap0 := Nat.le_trans pn0 CR.out.cp
    have p1 : (0 : Int) < p := by omega
    have p3 : (p : Int) ≤ len0 := by omega
    have p4 : decide ((0 : Int) < p) = true := decide_eq_true p1
    have p5 : decide ((p : Int) ≤ len0) = true := decide_eq_true p3
    have P4 : Hid (decide ((0 : Int) < p) = true ∧ decide ((p : Int) ≤ len0) = true ∧ (0 : Int) < p ∧ (p : Int) ≤ len0) := ⟨p4, p5, p1, p3⟩
    clear p1 p3 p4 p5
    have RW : Hid (∀ u, Below w.heap.size w u → ORow by8 u (.slice (if cap0 = 0 then a0 else a0.map (·.add (0 * 1))) p cap0) (putE ev)) := fun u b => by rw [pe]; exact crow_to (CR.out.below b) pn0 (by omega)
    have SLA := fun u => sl_to u a0 len0 cap0 p pc0
    obtain ⟨a2, ha2⟩ : ∃ a2, (if cap0 = 0 then a0 else a0.map (·.add (0 * 1))) = a2 := ⟨_, rfl⟩
    rw [ha2] at RW SLA
    have SLH : Hid (∀ u, _) := SLA
    clear hg p2 pl oke pe pn0 pc0 ha2 SLA
    go_enter Try.func5, Try.ntmps5
    go_wp2_with fail
    refine (G.out ()).mono ?_
    rintro e u ⟨rfl, b⟩
    obtain ⟨u1, hu1⟩ : ∃ u1, u.alloc (.cells #[.int .i64 ev.kind, .int .i64 ev.cpu, .int .i64 ev.id, .int .u64 ev.mask, .int .i64 ev.n] 26) = u1 := ⟨_, rfl⟩
    obtain ⟨z, hz⟩ : ∃ z, u.heap.size = z := ⟨_, rfl⟩
    have HWA : Hid (u.alloc (.cells #[.int .i64 ev.kind, .int .i64 ev.cpu, .int .i64 ev.id, .int .u64 ev.mask, .int .i64 ev.n] 26) = u1) := hu1
    have HZZ : Hid (u.heap.size = z) := hz
    have E1 : Hid (Blk u1 z (evL ev) 26 ∧ Below w.heap.size w u1) := by
      rw [← hu1, ← hz]
      exact ⟨Blk.new u (evL ev) 26, b.alloc b.size _⟩
    have CRd : Hid (∀ _ : Unit, _) := fun _ => read_any u1 a0 len0 cap0 xs0 (CR.out.below E1.out.2) (by omega)
    clear b hu1 hz G
    go_wp2_with fail
    rw [HWA.out, HZZ.out]
    refine (CRd.out ()).mono ?_
    rintro e u2 ⟨v, c, Y, rfl, eg, alt⟩
    obtain ⟨la, lc, hv⟩ := owng_shape eg.own
    subst hv
    have E2 : Hid (Blk u2 z (evL ev) 26 ∧ Below w.heap.size w u2) := ⟨E1.out.1.keep (Fr.of_below eg.bel) E1.out.1.lt (by simp), E1.out.2.trans (eg.bel.mono E1.out.2.size)⟩
    have cut : (c = 0 ∧ readE [] xs0 = .ok Y) ∨ (c == 0) = false := by
      rcases alt with h | ⟨h, _⟩
      · exact Or.inl h
      · exact Or.inr (beq_eq_false_iff_ne.2 h)
    have LR : Hid (LRow evy u2 (.slice la Y.length lc) Y) := eg.row
    clear eg alt CRd HWA HZZ E1
    rcases cut with ⟨rfl, rok⟩ | cn
    · obtain ⟨fe, f600, fok⟩ := read_back xs0 HZ0.out Y rok
      have AL : Hid (∀ _ : Unit, _) := fun _ => all_any u2 _ Y LR.out fok (by omega)
      rw [fe] at AL
      have BY : Hid (∀ u3 v3, BG u2 u3 v3 xs0 → _) := fun u3 v3 g => bytes_yes u3 v3 (.slice a0 len0 cap0) xs0 g.row (CR.out.row.below (E2.out.2.trans (g.bel.mono E2.out.2.size)))
      generalize Y.length = M at *
      clear fe f600 fok rok LR
      go_wp2_with fail
      refine (AL.out ()).mono ?_
      rintro e u3 ⟨v3, rfl, g3⟩
      obtain ⟨a3, c3, hv3⟩ := g3.shape
      subst hv3
      have B3 : Hid (∀ _ : Unit, _) := fun _ => BY.out u3 _ g3
      have E3 : Hid (Blk u3 z (evL ev) 26 ∧ Below w.heap.size w u3) := ⟨E2.out.1.keep (Fr.of_below g3.bel) E2.out.1.lt (by simp), E2.out.2.trans (g3.bel.mono E2.out.2.size)⟩
      clear g3 AL BY E2
      go_wp2_with fail
      refine (B3.out ()).mono ?_
      rintro e w'' ⟨rfl, e0⟩
      subst e0
      obtain ⟨u3, hu3⟩ : ∃ u3, u3 = w'' := ⟨_, rfl⟩
      subst hu3
      clear B3
      have d0 : u3.cell? ⟨z, 0, none⟩ = some (.int .i64 ev.kind) := E3.out.1.cell 0
      have d1 : u3.cell? ⟨z, 1, none⟩ = some (.int .i64 ev.cpu) := E3.out.1.cell 1
      have d2 : u3.cell? ⟨z, 2, none⟩ = some (.int .i64 ev.id) := E3.out.1.cell 2
      have d3 : u3.cell? ⟨z, 3, none⟩ = some (.int .u64 ev.mask) := E3.out.1.cell 3
      have d4 : u3.cell? ⟨z, 4, none⟩ = some (.int .i64 ev.n) := E3.out.1.cell 4
      have KC : Hid (∀ t, Below u3.heap.size u3 t → t.cell? ⟨z, 0, none⟩ = some (.int .i64 ev.kind) ∧ t.cell? ⟨z, 1, none⟩ = some (.int .i64 ev.cpu) ∧ t.cell? ⟨z, 2, none⟩ = some (.int .i64 ev.id) ∧ t.cell? ⟨z, 3, none⟩ = some (.int .u64 ev.mask) ∧ t.cell? ⟨z, 4, none⟩ = some (.int .i64 ev.n)) := fun t b => by
        have k := E3.out.1.keep (Fr.of_below b) E3.out.1.lt (by simp)
        exact ⟨k.cell 0, k.cell 1, k.cell 2, k.cell 3, k.cell 4⟩
      have P1 : Hid (∀ t, Sm t u3 → _) := fun t s => put_sm u3 t ev OKE.out s
      have RR : Hid (ORow by8 u3 (.slice a2 p cap0) (putE ev)) := RW.out u3 E3.out.2
      have B1 : Hid (∀ w' t v, BG u3 w' v (putE ev) → Sm t w' → _) := fun w' t v g s => bytes_sm u3 w' t v (.slice a2 p cap0) (putE ev) g RR.out s
      have K1 : Hid (∀ w' t, Below u3.heap.size u3 w' → Sm t w' → _) := fun w' t b s => known_sm u3 w' t b s
      have FB : Hid (Below w.heap.size w u3) := E3.out.2
      have SL := SLH.out
      obtain ⟨p4, p5, p1, p3⟩ := P4.out
      clear P4 SLH
      generalize (p : Int) = pi at *
      clear E3 RR RW
      generalize putE ev = PE at *
      generalize ev.kind = y0 at *
      generalize ev.cpu = y1 at *
      generalize ev.id = y2 at *
      generalize ev.mask = y3 at *
      generalize ev.n = y4 at *
      go_wp2_with fail
      go_region_held3 (fun w' => w'.cell? ⟨z, 0, none⟩ = some (.int .i64 y0) ∧ w'.cell? ⟨z, 1, none⟩ = some (.int .i64 y1) ∧ w'.cell? ⟨z, 2, none⟩ = some (.int .i64 y2) ∧ w'.cell? ⟨z, 3, none⟩ = some (.int .u64 y3) ∧ w'.cell? ⟨z, 4, none⟩ = some (.int .i64 y4)) (go_keep)
        (first | (go_at_call 12; refine (P1.out _ ?_).mono ?_; exact ⟨rfl, rfl, rfl, rfl⟩; rintro e w' ⟨v4, rfl, g4⟩; have G4 : Hid (BG u3 w' v4 PE) := g4; obtain ⟨d0, d1, d2, d3, d4⟩ := KC.out _ g4.bel; clear g4 P1) | (go_at_call 13; refine (B1.out _ _ _ G4.out ?_).mono ?_; exact ⟨rfl, rfl, rfl, rfl⟩; rintro e w' ⟨rfl, b4⟩; have B4 : Hid (Below u3.heap.size u3 w') := b4; obtain ⟨d0, d1, d2, d3, d4⟩ := KC.out _ b4; clear b4 G4 B1) | (go_at_call 6; refine (K1.out _ _ B4.out ?_).mono ?_; exact ⟨rfl, rfl, rfl, rfl⟩; rintro e w' ⟨rfl, b5⟩; have B5 : Hid (Below w.heap.size w w') := FB.out.trans (b5.mono FB.out.size); obtain ⟨d0, d1, d2, d3, d4⟩ := KC.out _ b5; clear b5 K1))
      have FIN : Hid (Below w.heap.size w _) := B5.out
      go_wp2
      go_ret
      exact ⟨rfl, ⟨FIN.out.os, FIN.out.tape, FIN.out.output, FIN.out.size, FIN.out.block⟩⟩
    · have E3 : Hid (Blk u2 z (evL ev) 26 ∧ Below w.heap.size w u2) := E2.out
      generalize Y.length = M at *
      obtain ⟨u3, hu3⟩ : ∃ u3, u3 = u2 := ⟨_, rfl⟩
      subst hu3
      clear E2 LR
      have d0 : u3.cell? ⟨z, 0, none⟩ = some (.int .i64 ev.kind) := E3.out.1.cell 0
      have d1 : u3.cell? ⟨z, 1, none⟩ = some (.int .i64 ev.cpu) := E3.out.1.cell 1
      have d2 : u3.cell? ⟨z, 2, none⟩ = some (.int .i64 ev.id) := E3.out.1.cell 2
      have d3 : u3.cell? ⟨z, 3, none⟩ = some (.int .u64 ev.mask) := E3.out.1.cell 3
      have d4 : u3.cell? ⟨z, 4, none⟩ = some (.int .i64 ev.n) := E3.out.1.cell 4
      have KC : Hid (∀ t, Below u3.heap.size u3 t → t.cell? ⟨z, 0, none⟩ = some (.int .i64 ev.kind) ∧ t.cell? ⟨z, 1, none⟩ = some (.int .i64 ev.cpu) ∧ t.cell? ⟨z, 2, none⟩ = some (.int .i64 ev.id) ∧ t.cell? ⟨z, 3, none⟩ = some (.int .u64 ev.mask) ∧ t.cell? ⟨z, 4, none⟩ = some (.int .i64 ev.n)) := fun t b => by
        have k := E3.out.1.keep (Fr.of_below b) E3.out.1.lt (by simp)
        exact ⟨k.cell 0, k.cell 1, k.cell 2, k.cell 3, k.cell 4⟩
      have P1 : Hid (∀ t, Sm t u3 → _) := fun t s => put_sm u3 t ev OKE.out s
      have RR : Hid (ORow by8 u3 (.slice a2 p cap0) (putE ev)) := RW.out u3 E3.out.2
      have B1 : Hid (∀ w' t v, BG u3 w' v (putE ev) → Sm t w' → _) := fun w' t v g s => bytes_sm u3 w' t v (.slice a2 p cap0) (putE ev) g RR.out s
      have K1 : Hid (∀ w' t, Below u3.heap.size u3 w' → Sm t w' → _) := fun w' t b s => known_sm u3 w' t b s
      have FB : Hid (Below w.heap.size w u3) := E3.out.2
      have SL := SLH.out
      obtain ⟨p4, p5, p1, p3⟩ := P4.out
      clear P4 SLH
      generalize (p : Int) = pi at *
      clear E3 RR RW
      generalize putE ev = PE at *
      generalize ev.kind = y0 at *
      generalize ev.cpu = y1 at *
      generalize ev.id = y2 at *
      generalize ev.mask = y3 at *
      generalize ev.n = y4 at *
      go_wp2_with fail
      go_region_held3 (fun w' => w'.cell? ⟨z, 0, none⟩ = some (.int .i64 y0) ∧ w'.cell? ⟨z, 1, none⟩ = some (.int .i64 y1) ∧ w'.cell? ⟨z, 2, none⟩ = some (.int .i64 y2) ∧ w'.cell? ⟨z, 3, none⟩ = some (.int .u64 y3) ∧ w'.cell? ⟨z, 4, none⟩ = some (.int .i64 y4)) (go_keep)
        (first | (go_at_call 12; refine (P1.out _ ?_).mono ?_; exact ⟨rfl, rfl, rfl, rfl⟩; rintro e w' ⟨v4, rfl, g4⟩; have G4 : Hid (BG u3 w' v4 PE) := g4; obtain ⟨d0, d1, d2, d3, d4⟩ := KC.out _ g4.bel; clear g4 P1) | (go_at_call 13; refine (B1.out _ _ _ G4.out ?_).mono ?_; exact ⟨rfl, rfl, rfl, rfl⟩; rintro e w' ⟨rfl, b4⟩; have B4 : Hid (Below u3.heap.size u3 w') := b4; obtain ⟨d0, d1, d2, d3, d4⟩ := KC.out _ b4; clear b4 G4 B1) | (go_at_call 6; refine (K1.out _ _ B4.out ?_).mono ?_; exact ⟨rfl, rfl, rfl, rfl⟩; rintro e w' ⟨rfl, b5⟩; have B5 : Hid (Below w.heap.size w w') := FB.out.trans (b5.mono FB.out.size); obtain ⟨d0, d1, d2, d3, d4⟩ := KC.out _ b5; clear b5 K1))
      have FIN : Hid (Below w.heap.size w _) := B5.out
      go_wp2
      go_ret
      exact ⟨rfl, ⟨FIN.out.os, FIN.out.tape, FIN.out.output, FIN.out.size, FIN.out.block⟩⟩

set_option maxRecDepth 100000 in
theorem lifted (os : Os) (started : os.Started) (H : Type) (enc : TypeId × Value → H) :
    ReturnsInHanded {} Try.checked os 5 .any (Rows.wireOnceSpec.pre6 enc Try.prog Try.f5 Rows.wireOnceRow.domain false) (Rows.wireOnceSpec.post enc Try.prog Try.f5 false true false false) := by
  refine returnsInHanded_of_change (C := Try.checked) own started (by kernel_rfl) Try.func5
    (ChangeSpec.witness6 (enc := enc) (C := Try.checked) false ⟨#[], #[.slice none 0 0], []⟩ 8 (by kernel_rfl) (by kernel_rfl) (by kernel_rfl) (by kernel_rfl)) ?_
  intro W base args ds gs before hval0 hW hcnd _
  have hval : ∀ (j : Nat) t v, Try.f5.params[j]? = some t → args[j]? = some v → Value.okWide Try.prog W .any base t v := hval0
  have hW' := hW
  obtain ⟨p, q, hA0, hV, rfl, hfz, hnd⟩ := hW
  have hA : DataW.TrodAll enc Try.prog W 0 (fun _ => true) true Try.f5.params.toList args.toList ds p := hA0
  rw [Try.params5] at hA hval
  obtain ⟨v0, vs0, d0, ds0, p0, q0, hargs, rfl, rfl, h0, r0⟩ := trodAll_cons hA
  obtain ⟨rfl, rfl, rfl⟩ := trodAll_nil r0
  obtain rfl : args = #[v0] := by cases args; simp_all
  obtain ⟨rfl, rfl⟩ := trodVars_none hV
  obtain ⟨a0, len0, cap0, rfl⟩ := okWide_slice Try.underlying22 (hval 0 22 v0 rfl rfl)
  have k0 := h0
  have lt0 : ∀ x ∈ p0, x.block < W.heap.size := by obtain ⟨m, hm⟩ := k0; exact DataW.trod_lt m _ _ _ hm
  obtain ⟨xs0, w0, l0, z0⟩ : ∃ xs, ORow by8 W (.slice a0 len0 cap0) xs ∧ xs.length = len0 ∧ ∀ n ∈ xs, n < 256 := by
    obtain ⟨fuel, hf⟩ := h0
    exact open_ones (fun n => n < 256) Try.underlying22 (by kernel_rfl) (trod_by8 Try.underlying5) hf
  have y0 : len0 ≤ cap0 ∧ (a0 = none → cap0 = 0) := by
    obtain ⟨fuel, hf⟩ := h0
    exact open_cap Try.underlying22 hf
  clear hA0 hval0
  refine (walk a0 len0 cap0 xs0 W w0 l0 z0 y0).mono fun e W' ⟨he, bel⟩ => ?_
  subst he
  exact ⟨_, rfl, _, _, _, [], _, [], hW', trodAll_mk1 (shut_bool Try.underlying4 _), (trodAll_cons_mk (Below.trod laidOut (by kernel_rfl) (of_decide_eq_true (by kernel_rfl)) k0 bel lt0) trodAll_mk0), rfl, bel.frame _, fun h => by cases h⟩

theorem over : Rows.WireOnceSaid :=
  OpenClaim.holds_of_wide 5 Try.f5 rfl rfl rfl rfl rfl rfl rfl ⟨rfl, rfl, rfl, rfl, rfl⟩ rfl rfl rfl rfl rfl (by kernel_rfl) Try.func5 (by kernel_rfl)
    (of_decide_eq_true (by kernel_rfl)) (by unfold Func.isWrapper; first | (rw [if_pos (by decide +kernel)]; kernel_rfl) | (rw [if_neg (by decide +kernel)]; exact ⟨rfl, rfl⟩))
    (fun os started H enc _ => lifted os started H enc)
end Go.Proofs.Ytmelbbojanomiab.wireOnce

namespace Go.Proofs.Ytmelbbojanomiab
open Go
theorem wireOnce_holds : Rows.WireOnceSaid := wireOnce.over
#print axioms wireOnce_holds
end Go.Proofs.Ytmelbbojanomiab
