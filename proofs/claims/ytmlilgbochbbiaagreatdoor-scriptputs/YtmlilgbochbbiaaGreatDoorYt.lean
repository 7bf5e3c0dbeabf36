/- The texts Wr6 of one layer, laid together. -/
import Derived.Test.YtmlilgbochbbiaaGreatDoorRows
import Derived.Test.YtmlilgbochbbiaaGreatDoorYs
import Derived.Test.YtmlilgbochbbiaaGreatDoorYr
import Derived.WalkKit
import Derived.ProofKit
import Derived.OpenShut
import Derived.BigQuiet
namespace Go.Proofs.YtmlilgbochbbiaaGreatDoor.Wir
open Go.ChangeShapes Go.WideShapes Go.ChangeAt Go.RowKit
open Wi0
theorem meas_is {n q p : Nat} {x : Int} (h : x = ((q + p : Nat) : Int)) (h2 : 2 ≤ p) (h3 : q + p ≤ n) : n - (intOf (.int .i64 x)).toNat < n - (intOf (.int .i64 ((q : Nat) : Int))).toNat := by
  subst h
  show n - ((q + p : Nat) : Int).toNat < n - ((q : Nat) : Int).toNat
  rw [Int.toNat_natCast, Int.toNat_natCast]
  omega
set_option maxHeartbeats 4000000 in
set_option maxRecDepth 100000 in
theorem rread_any (w : World) (a : Option Addr) (n cap : Nat) (xs : List Nat) (h : CRow w a n cap xs) (hn : (n : Int) ≤ 100000) :
    Calls Tryz.prog 26 #[.slice a n cap] w fun e w' => ∃ v c Y, e = .returned (.tuple #[v, .int .i64 c]) ∧ RdP w w' xs v c Y := by
  have H0 : Hid (CRow w a n cap xs) := h
  have HN : Hid ((n : Int) ≤ 100000) := hn
  have HM : Hid (n = xs.length) := h.nn
  clear h hn
  go_enter Tryz.func26, Tryz.ntmps26
  go_wp2
  go_loopw [4, 5] (fun lv qv wr => ∃ (q : Nat) (Y : List Ev), (q : Int) ≤ n ∧ qv = .int .i64 q ∧ EG w wr lv Y ∧ Y.length ≤ 600 ∧ readE [] xs = readE Y (xs.drop q)) (fun _ q _ => n - (intOf q).toNat)
  case atStart => exact ⟨0, [], by omega, rfl, lg_start evy 50 w, by simp, by simp⟩
  case round =>
    obtain ⟨q, Y, hq, rfl, g, hY, hR⟩ := hrel
    have G : Hid (EG w wr u4 Y) := g
    have HRR : Hid (readE [] xs = readE Y (xs.drop q)) := hR
    obtain ⟨la, lcap, hlv⟩ := owng_shape g.own
    subst hlv
    by_cases qn : (q : Int) < n
    · have hne : xs.drop q ≠ [] := fun e => by
        have := congrArg List.length e
        rw [List.length_drop, ← HM.out] at this
        simp at this
        omega
      by_cases full : Y.length = 600
      · have FIN : Hid (RdP w wr xs (.slice none 0 0) 15 []) := ⟨⟨World.ownsRow_nil _ _ _ _, g.bel⟩, Or.inr ⟨by omega, rfl, HRR.out.trans (read_size Y _ hne full)⟩⟩
        rw [full]
        clear g hY hR G hne full
        go_wp2
        go_ret2
        first | exact ⟨_, _, _, rfl, FIN.out⟩ | exact ⟨_, _, rfl, _, FIN.out⟩
      · have f1 : ¬ (600 : Int) ≤ (Y.length : Int) := by omega
        have SLF := sl_from wr a n cap q (by omega)
        have CRX := crow_from (k := q) (H0.out.below g.bel) (by omega)
        obtain ⟨a2, ha2⟩ : ∃ a2, (if cap = q then a else a.map (·.add (q * 1))) = a2 := ⟨_, rfl⟩
        rw [ha2] at SLF CRX
        have C : Hid (∀ _ : Unit, _) := fun _ => rget_any wr a2 (n - q) (cap - q) (xs.drop q) CRX (by have := HN.out; omega)
        cases hg : getE (xs.drop q) with
        | error c =>
          have ce := getE_err hg
          have c1 : (c == 0) = false := by rw [beq_eq_false_iff_ne]; omega
          rw [hg, show geV (.error c) = .tuple #[.agg #[.int .i64 0, .int .i64 0, .int .i64 0, .int .u64 0, .int .i64 0], .int .i64 0, .int .i64 c] from rfl] at C
          have RE : Hid (readE [] xs = .error c) := HRR.out.trans (read_bad Y _ hne full c hg)
          have BL : Hid (Below w.heap.size w wr) := g.bel
          have CE : Hid (c ≠ 0) := by show c ≠ 0; omega
          generalize Y.length = M at *
          clear g hY hR G hne full hg ce CRX ha2
          go_wp2_with fail
          refine (C.out ()).mono ?_
          rintro e u1 ⟨rfl, b1⟩
          have FIN : Hid (∀ o, RdP w (u1.alloc o) xs (.slice none 0 0) c []) := fun o => ⟨⟨World.ownsRow_nil _ _ _ _, (BL.out.trans (b1.mono BL.out.size)).alloc (Nat.le_trans BL.out.size b1.size) o⟩, Or.inr ⟨CE.out, rfl, RE.out⟩⟩
          clear b1
          go_wp2
          go_ret2
          first | exact ⟨_, _, _, rfl, FIN.out _⟩ | exact ⟨_, _, rfl, _, FIN.out _⟩
        | ok ep =>
          obtain ⟨ev, p⟩ := ep
          rw [hg, show geV (.ok (ev, p)) = .tuple #[.agg #[.int .i64 ev.kind, .int .i64 ev.cpu, .int .i64 ev.id, .int .u64 ev.mask, .int .i64 ev.n], .int .i64 (p : Nat), .int .i64 0] from rfl] at C
          obtain ⟨p2, pl, oke, _, _⟩ := put_get _ CRX.lt ev p hg
          rw [List.length_drop, ← HM.out] at pl
          have RE : Hid (readE [] xs = readE (Y ++ [ev]) (xs.drop (q + p))) := by
            show readE [] xs = readE (Y ++ [ev]) (xs.drop (q + p))
            rw [← List.drop_drop]
            exact HRR.out.trans (read_more Y _ CRX.lt hne full ev p hg)
          have HY2 : Hid ((Y ++ [ev]).length ≤ 600) := by show (Y ++ [ev]).length ≤ 600; simp; omega
          have YL : Hid ((Y.length : Int) ≤ 10000) := by show (Y.length : Int) ≤ 10000; omega
          have PM : Hid (2 ≤ p ∧ q + p ≤ n) := ⟨p2, by omega⟩
          have AW : Hid (wrap64 ((q : Int) + (p : Int)) = ((q + p : Nat) : Int)) := aw_is (by have := HN.out; omega) (by have := HN.out; omega)
          clear hY hR hne full hg p2 pl oke CRX ha2 g
          go_wp2_with fail
          refine (C.out ()).mono ?_
          rintro e u1 ⟨rfl, b1⟩
          obtain ⟨wa, hwa⟩ : ∃ wa, u1.alloc (.cells #[.int .i64 ev.kind, .int .i64 ev.cpu, .int .i64 ev.id, .int .u64 ev.mask, .int .i64 ev.n] 50) = wa := ⟨_, rfl⟩
          have ba : Below wr.heap.size wr wa := by rw [← hwa]; exact b1.alloc b1.size _
          obtain ⟨v2, u2, hrun, g2⟩ := eg_app ev G.out ba YL.out
          have G2 : Hid (EG w u2 v2 (Y ++ [ev])) := g2
          have hrun2 : (Builtin.append_ #[22, 22] 22 #[.slice la Y.length lcap, .slice (some ⟨(u1.alloc (.cells #[.int .i64 ev.kind, .int .i64 ev.cpu, .int .i64 ev.id, .int .u64 ev.mask, .int .i64 ev.n] 50)).heap.size, 0, none⟩) 1 1]).run Tryz.prog ((u1.alloc (.cells #[.int .i64 ev.kind, .int .i64 ev.cpu, .int .i64 ev.id, .int .u64 ev.mask, .int .i64 ev.n] 50)).alloc (.cells #[.int .i64 ev.kind, .int .i64 ev.cpu, .int .i64 ev.id, .int .u64 ev.mask, .int .i64 ev.n] 50)) = .ok v2 u2 := by rw [hwa]; exact hrun
          have hsz : (u1.alloc (.cells #[.int .i64 ev.kind, .int .i64 ev.cpu, .int .i64 ev.id, .int .u64 ev.mask, .int .i64 ev.n] 50)).heap.size = u1.heap.size + 1 := by simp
          rw [hsz] at hrun2
          have aw := AW.out
          have NQ : Hid (((q + p : Nat) : Int) ≤ n) := by have := PM.out; show ((q + p : Nat) : Int) ≤ n; omega
          clear b1 g2 ba hwa hrun G hsz
          generalize Y.length = M at *
          go_wp2_with (at_builtin; refine wpList_rung rfl (.tmp 27) (.tmp 29) 22 rfl rfl rfl hrun2 ?_)
          go_roundw
          case rel => exact ⟨q + p, Y ++ [ev], NQ.out, congrArg _ aw, G2.out, HY2.out, RE.out⟩
          case measure => exact meas_is AW.out PM.out.1 PM.out.2
    · have hnil : xs.drop q = [] := List.drop_eq_nil_of_le (by rw [← HM.out]; omega)
      have FIN : Hid (RdP w wr xs (.slice la Y.length lcap) 0 Y) := ⟨g, Or.inl ⟨rfl, by rw [HRR.out, hnil]; exact read_nil Y⟩⟩
      clear g hY hR G hnil
      go_wp2
      go_ret2
      first | exact ⟨_, _, _, rfl, FIN.out⟩ | exact ⟨_, _, rfl, _, FIN.out⟩
theorem ev_cell {w : World} {a : Option Addr} {n cap : Nat} {Y : List Ev} (h : LRow evy w (.slice a n cap) Y) {k : Nat} (hk : k < Y.length) :
    ∃ b off, a = some ⟨b, off, none⟩ ∧ w.cell? ⟨b, off + k * 5, none⟩ = some (.int .i64 (Y.getD k z5).kind) ∧ w.cell? ⟨b, off + k * 5 + 1, none⟩ = some (.int .i64 (Y.getD k z5).cpu) ∧ w.cell? ⟨b, off + k * 5 + 2, none⟩ = some (.int .i64 (Y.getD k z5).id) ∧ w.cell? ⟨b, off + k * 5 + 3, none⟩ = some (.int .u64 (Y.getD k z5).mask) ∧ w.cell? ⟨b, off + k * 5 + 4, none⟩ = some (.int .i64 (Y.getD k z5).n) := by
  obtain ⟨b, off, e, _, hc⟩ := lrow_cell h hk
  have hc' : ∀ j, j < 5 → w.cell? ⟨b, off + k * 5 + j, none⟩ = (evL (Y.getD k z5))[j]? := hc
  exact ⟨b, off, e, hc' 0 (by omega), hc' 1 (by omega), hc' 2 (by omega), hc' 3 (by omega), hc' 4 (by omega)⟩
set_option maxHeartbeats 2000000 in
theorem rsame_any (Y : List Ev) (u v : Value) (w : World) (hl : (Y.length : Int) ≤ 1000) (hu : LRow evy w u Y) (hv : LRow evy w v Y) :
    Calls Tryz.prog 23 #[u, v] w fun e w' => e = .returned (.bool true) ∧ Sm w' w := by
  obtain ⟨a, cap, rfl⟩ := hu.shape
  obtain ⟨a2, cap2, rfl⟩ := hv.shape
  have HU : Hid (LRow evy w (.slice a Y.length cap) Y) := hu
  have HV : Hid (LRow evy w (.slice a2 Y.length cap2) Y) := hv
  obtain ⟨n, hn⟩ : ∃ n, Y.length = n := ⟨_, rfl⟩
  have HN : Hid (Y.length = n) := hn
  rw [hn] at hl HU HV ⊢
  clear hu hv hn
  go_enter Tryz.func23, Tryz.ntmps23
  go_wp2
  go_loopw [5] (fun i wr => ∃ k q : Nat, (k : Int) ≤ n ∧ wr = w.drewN q ∧ i = .int .i64 k) (fun i _ => n - (intOf i).toNat)
  case atStart => exact ⟨0, 0, by omega, rfl, rfl⟩
  case round =>
    obtain ⟨k, q, hk, rfl, rfl⟩ := hrel
    by_cases h : (k : Int) < n
    · obtain ⟨b, off, rfl, c0, c1, c2, c3, c4⟩ := ev_cell HU.out (k := k) (by have := HN.out; omega)
      obtain ⟨b2, off2, rfl, d0, d1, d2, d3, d4⟩ := ev_cell HV.out (k := k) (by have := HN.out; omega)
      generalize Y.getD k z5 = x at *
      go_wp2
      go_quiet (fail)
      go_wp2
      go_roundw
      case rel => exact ⟨k + 1, _, by omega, rfl, by go_num⟩
      case measure => simp [intOf]; omega
    · go_wp2
      go_ret
      exact ⟨rfl, rfl, rfl, rfl, rfl⟩
end Go.Proofs.YtmlilgbochbbiaaGreatDoor.Wir
