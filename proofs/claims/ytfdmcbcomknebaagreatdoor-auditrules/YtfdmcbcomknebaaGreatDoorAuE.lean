/- What audit.Of tells of a new kernel of two cores; davitlaw35's fixed calls. -/
import Derived.Test.YtfdmcbcomknebaaGreatDoorRows
import Derived.Test.YtfdmcbcomknebaaGreatDoorAu6
import Derived.Test.YtfdmcbcomknebaaGreatDoorZkd
import Derived.WalkKit
import Derived.ProofKit
import Derived.OpenShut
import Derived.BigQuiet
import Derived.BigGuard
import Derived.Carry
import Derived.Deep.RegionHeld3
namespace Go.Proofs.YtfdmcbcomknebaaGreatDoor.Aud
open Go.ChangeShapes Go.WideShapes Go.ChangeAt Go.RowKit
open Mm Krn
set_option linter.unusedVariables false

section
variable {B : Nat} {w0 : World} {A : List (Nat × List Value × TypeId)} {a : KA} {m : Nat} {S : KS} {w : World}
theorem tm_list (h : KX B w0 A a m S w) (c : Int) :
    Calls Tryz.prog 106 #[.pointer (some ⟨a.tm, 0, none⟩), .int .i64 c] w fun e w' => ∃ v X, e = .returned v ∧ KX B w0 (X ++ A) a m S w' ∧ Rw X v (Tim.txL a.n S.t c) := by
  obtain ⟨F, K, hB, hA⟩ := h.ex
  have t := K.p 3 (by omega)
  simp only [Part] at t
  refine (Tim.tlist_any c t).mono ?_
  rintro e w' ⟨v, rfl, q⟩
  obtain ⟨X, k, r⟩ := h.row q.own q.bel
  exact ⟨v, X, rfl, k, r⟩
theorem wk_list (h : KX B w0 A a m S w) (c : Int) :
    Calls Tryz.prog 54 #[.pointer (some ⟨a.wk + 6, 0, none⟩), .int .i64 c] w fun e w' => ∃ v X, e = .returned v ∧ KX B w0 (X ++ A) a m S w' ∧ Rw X v (Cm.wlL a.n S.wk c) := by
  obtain ⟨F, K, hB, hA⟩ := h.ex
  obtain ⟨t, e0⟩ := K.p 6 (by omega)
  refine (Wrk.glist_any c t).mono ?_
  rintro e w' ⟨v, rfl, q, f⟩
  obtain ⟨X, k, r⟩ := h.row q f
  exact ⟨v, X, rfl, k, r⟩
theorem cl_list (h : KX B w0 A a m S w) (c : Int) :
    Calls Tryz.prog 56 #[.pointer (some ⟨a.cl + 3, 0, none⟩), .int .i64 c] w fun e w' => ∃ v X, e = .returned v ∧ KX B w0 (X ++ A) a m S w' ∧ Rw X v (Cm.clL S.cl c) := by
  obtain ⟨F, K, hB, hA⟩ := h.ex
  obtain ⟨t, l0, e0⟩ := K.p 7 (by omega)
  refine (Wrk.clist_any c t).mono ?_
  rintro e w' ⟨v, rfl, q, f⟩
  obtain ⟨X, k, r⟩ := h.row q f
  exact ⟨v, X, rfl, k, r⟩
theorem ob_list (h : KX B w0 A a m S w) (c : Int) :
    Calls Tryz.prog 58 #[.pointer (some ⟨a.ob, 0, none⟩), .int .i64 c] w fun e w' => ∃ v X, e = .returned v ∧ KX B w0 (X ++ A) a m S w' ∧ Rw X v (Sta.kc a.n S.ok c) := by
  obtain ⟨F, K, hB, hA⟩ := h.ex
  obtain ⟨pb, lb, V, t, o, e0⟩ := K.p 8 (by omega)
  refine (Sta.skept_any c w t o.kl).mono ?_
  rintro e w' ⟨v, rfl, q⟩
  obtain ⟨X, k, r⟩ := h.row q.own q.bel
  exact ⟨v, X, rfl, k, r⟩
/-- A list that is empty: the kernel is as it was. -/
theorem empty_of {w' : World} {v : Value} {X : List (Nat × List Value × TypeId)} {L : List Int} (k : KX B w0 (X ++ A) a m S w') (r : Rw X v L) (e : L = []) : (∃ p c, v = .slice p 0 c) ∧ KX B w0 A a m S w' := by
  subst e
  obtain ⟨p, c, rfl⟩ := r.shape
  exact ⟨⟨p, c, rfl⟩, k.sub fun x hx => List.mem_append_right _ hx⟩
theorem new_q (c : Int) : Rqu.liL 2 (new 2).q c = [] := by unfold Rqu.liL; split <;> rfl
theorem new_t (c : Int) : Tim.txL 2 (new 2).t c = [] := by unfold Tim.txL; split <;> rfl
theorem new_th : Sl.li 32 (new 2).O = [] := by rfl
theorem new_i : wtL (new 2) = [] := by rfl
theorem getD_rep (n k : Nat) : (List.replicate n ([] : List Int)).getD k [] = [] := by
  rw [List.getD_eq_getElem?_getD, List.getElem?_replicate]
  split <;> rfl
theorem new_w (c : Int) : Cm.wlL 2 (new 2).wk c = [] := by unfold Cm.wlL; split <;> first | rfl | exact getD_rep _ _
theorem new_c (c : Int) : Cm.clL (new 2).cl c = [] := by unfold Cm.clL; split <;> first | rfl | exact getD_rep _ _
theorem new_k (c : Int) : Sta.kc 2 (new 2).ok c = [] := by unfold Sta.kc; split <;> first | rfl | exact getD_rep _ _
set_option maxRecDepth 100000 in
set_option maxHeartbeats 2000000 in
/-- Places of nothing. -/
theorem pl_any (h : KX B w0 A a m S w) (first n : Int) (f : Nat) (fst : Array Value) (hf : Fnc f) (h1 : -1 ≤ first) (h2 : first ≤ n) (h3 : n ≤ 64)
    (C : ∀ (c : Int) u, KX B w0 A a m S u → Calls Tryz.prog f (fst ++ #[.int .i64 c] ++ #[]) u fun e u' => ∃ p q, e = .returned (.slice p 0 q) ∧ KX B w0 A a m S u') :
    Calls Tryz.prog 48 #[.int .i64 first, .int .i64 n, .func (.func f) fst #[]] w fun e w' => e = .returned (.slice none 0 0) ∧ KX B w0 A a m S w' := by
  have HC : Hid (∀ (c : Int) u, KX B w0 A a m S u → _) := C
  have HK : Hid (KX B w0 A a m S w) := h
  have FF := hf
  unfold Fnc at FF
  clear C h hf
  go_enter Tryz.func48, Tryz.ntmps48
  go_wp2
  go_loopw [7, 8] (fun v i wr => ∃ c : Int, first ≤ c ∧ c ≤ n ∧ Hid (KX B w0 A a m S wr) ∧ v = .slice none 0 0 ∧ i = .int .i64 c) (fun _ i _ => (n - intOf i).toNat)
  case atStart => exact ⟨first, by omega, by omega, HK.out, rfl, rfl⟩
  case round =>
    obtain ⟨c, hc1, hc2, hm, rfl, rfl⟩ := hrel
    by_cases e : c < n
    · have CC : Hid (Calls Tryz.prog f _ _ _) := HC.out c wr hm.out
      go_wp2_with fail
      refine CC.out.mono ?_
      rintro e w1 ⟨p, q, rfl, k1⟩
      have K1 : Hid (KX B w0 A a m S w1) := k1
      clear k1
      go_wp2
      go_loopw [7, 21] (fun v i wr => Hid (KX B w0 A a m S wr) ∧ v = .slice none 0 0 ∧ i = .int .i64 0) (fun _ _ _ => 0)
      case atStart => exact ⟨K1.out, rfl, rfl⟩
      case round =>
        obtain ⟨hm2, rfl, rfl⟩ := hrel
        go_wp2
        go_roundw
        case rel => exact ⟨c + 1, by omega, by omega, hm2.out, rfl, by go_num⟩
        case measure => simp [intOf]; omega
    · have e2 : c = n := by omega
      subst e2
      go_wp2
      go_ret
      exact ⟨rfl, hm.out⟩
set_option maxRecDepth 100000 in
theorem k_Irqs (h : KX B w0 A a m S w) :
    Calls Tryz.prog 108 #[.pointer (some ⟨a.k, 0, none⟩)] w fun e w' => e = .returned (.pointer (some ⟨a.iq, 0, none⟩)) ∧ w' = w := by
  have c6 := h.c6
  have C : Hid (∀ _ : Unit, _) := fun _ => k_all a w
  clear h
  go_enter Tryz.func108, Tryz.ntmps108
  go_wp2_with fail
  refine (C.out ()).mono ?_
  rintro e w1 ⟨rfl, rfl⟩
  go_wp2
  go_ret
  exact ⟨rfl, rfl⟩
set_option maxRecDepth 100000 in
set_option maxHeartbeats 2000000 in
theorem power_new (h : KX B w0 A a m (new 2) w) (n2 : a.n = 2) :
    Calls Tryz.prog 46 #[.pointer (some ⟨a.k, 0, none⟩)] w fun e w' => e = .returned (.int .u64 3) ∧ KX B w0 A a m (new 2) w' := by
  have HK : Hid (KX B w0 A a m (new 2) w) := h
  have C0 : Hid (∀ _ : Unit, _) := fun _ => k_Cpus h
  rw [n2] at C0
  clear h
  go_enter Tryz.func46, Tryz.ntmps46
  go_wp2_with fail
  refine (C0.out ()).mono ?_
  rintro e w' ⟨rfl, rfl⟩
  go_wp2
  go_loopw [3, 9] (fun v i wr => ∃ c : Nat, (c : Int) ≤ 2 ∧ Hid (KX B w0 A a m (new 2) wr) ∧ v = .int .u64 ((up (c : Int) : Nat) : Int) ∧ i = .int .i64 (c : Int)) (fun _ i _ => 3 - (intOf i).toNat)
  case atStart => exact ⟨0, by omega, HK.out, rfl, rfl⟩
  case round =>
    obtain ⟨c, hc, hm, rfl, rfl⟩ := hrel
    by_cases e : (c : Int) < 2
    · have C1 : Hid (∀ _ : Unit, _) := fun _ => k_Cores hm.out
      have C2 : Hid (∀ _ : Unit, _) := fun _ => co_get hm.out (c : Int) (by rw [n2]; unfold isC; simp; omega)
      have hz : zc (new 2) (c : Int) = (true, false) := by
        have : c = 0 ∨ c = 1 := by omega
        rcases this with rfl | rfl <;> rfl
      rw [hz] at C2
      have UL := up_lt (c : Int)
      have HU : Hid (up (c : Int) < 18446744073709551616) := UL
      have HS : Hid (up (c : Int) ||| bv (c : Int) = up ((c + 1 : Nat) : Int)) := up_succ c (by omega)
      clear hz UL
      generalize up (c : Int) = u at *
      go_wp2_with fail
      refine (C1.out ()).mono ?_
      rintro e w1 ⟨rfl, rfl⟩
      go_wp2_with fail
      refine (C2.out ()).mono ?_
      rintro e w2 ⟨x, rfl, hx, k2⟩
      obtain ⟨xp, xi, xw, xs, xt, xb⟩ := x
      obtain ⟨rfl, rfl⟩ : xp = true ∧ xi = false := by
        have : (xp, xi) = (true, false) := hx
        exact ⟨congrArg Prod.fst this, congrArg Prod.snd this⟩
      have k3 := (k2.alloc (.cells #[.bool true, .bool false, .int .i64 xw, .int .i64 xs, .int .i64 xt, .int .i64 xb] 209)).alloc (.cells #[.int .i64 (c : Int)] 3)
      have HK3 : Hid (KX B w0 A a m (new 2) _) := k3
      have RW : Row ((w2.alloc (.cells #[.bool true, .bool false, .int .i64 xw, .int .i64 xs, .int .i64 xt, .int .i64 xb] 209)).alloc (.cells #[.int .i64 (c : Int)] 3)) (.slice (some ⟨(w2.alloc (.cells #[.bool true, .bool false, .int .i64 xw, .int .i64 xs, .int .i64 xt, .int .i64 xb] 209)).heap.size, 0, none⟩) 1 1) [(c : Int)] := row_of_blk (xs := [(c : Int)]) (t := 3) (Blk.new _ _ _) 1
      rw [show (w2.alloc (.cells #[.bool true, .bool false, .int .i64 xw, .int .i64 xs, .int .i64 xt, .int .i64 xb] 209)).heap.size = w2.heap.size + 1 by simp] at RW
      have CW : Hid (∀ _ : Unit, _) := fun _ => kwith_any u [(c : Int)] _ _ HU.out (by simp) RW
      rw [show wl u [(c : Int)] = u ||| bv (c : Int) from rfl, HS.out] at CW
      clear k2 k3 RW hx C1 C2 hm
      go_wp2_with fail
      refine (CW.out ()).mono ?_
      rintro e w5 ⟨rfl, rfl⟩
      go_wp2
      go_roundw
      case rel => exact ⟨c + 1, by omega, HK3.out, rfl, by go_num⟩
      case measure => simp [intOf]; omega
    · have e2 : c = 2 := by omega
      subst e2
      go_wp2
      go_ret
      exact ⟨rfl, hm.out⟩
set_option maxRecDepth 100000 in
set_option maxHeartbeats 2000000 in
theorem threads_new (h : KX B w0 A a m (new 2) w) :
    Calls Tryz.prog 47 #[.pointer (some ⟨a.k, 0, none⟩)] w fun e w' => e = .returned (.slice none 0 0) ∧ KX B w0 A a m (new 2) w' := by
  have C0 : Hid (∀ _ : Unit, _) := fun _ => k_Threads h
  have C1 : Hid (∀ _ : Unit, _) := fun _ => th_list h
  clear h
  go_enter Tryz.func47, Tryz.ntmps47
  go_wp2_with fail
  refine (C0.out ()).mono ?_
  rintro e w' ⟨rfl, rfl⟩
  go_wp2_with fail
  refine (C1.out ()).mono ?_
  rintro e w1 ⟨v, X, rfl, k, r⟩
  obtain ⟨⟨p, c, rfl⟩, k1⟩ := empty_of k r new_th
  have K1 : Hid (KX B w0 A a m (new 2) w1) := k1
  clear k r k1 C0 C1
  go_wp2
  go_loopw [3, 12] (fun v i wr => Hid (KX B w0 A a m (new 2) wr) ∧ v = .slice none 0 0 ∧ i = .int .i64 0) (fun _ _ _ => 0)
  case atStart => exact ⟨K1.out, rfl, rfl⟩
  case round =>
    obtain ⟨hm, rfl, rfl⟩ := hrel
    go_wp2
    go_ret
    exact ⟨rfl, hm.out⟩
set_option maxRecDepth 100000 in
set_option maxHeartbeats 2000000 in
theorem irqs_new (h : KX B w0 A a m (new 2) w) :
    Calls Tryz.prog 52 #[.pointer (some ⟨a.k, 0, none⟩)] w fun e w' => e = .returned (.slice none 0 0) ∧ KX B w0 A a m (new 2) w' := by
  have C0 : Hid (∀ _ : Unit, _) := fun _ => k_Irqs h
  have C1 : Hid (∀ _ : Unit, _) := fun _ => iq_list h
  clear h
  go_enter Tryz.func52, Tryz.ntmps52
  go_wp2_with fail
  refine (C0.out ()).mono ?_
  rintro e w' ⟨rfl, rfl⟩
  go_wp2_with fail
  refine (C1.out ()).mono ?_
  rintro e w1 ⟨v, X, rfl, k, r⟩
  obtain ⟨⟨p, c, rfl⟩, k1⟩ := empty_of k r new_i
  have K1 : Hid (KX B w0 A a m (new 2) w1) := k1
  clear k r k1 C0 C1
  go_wp2
  go_loopw [3, 12] (fun v i wr => Hid (KX B w0 A a m (new 2) wr) ∧ v = .slice none 0 0 ∧ i = .int .i64 0) (fun _ _ _ => 0)
  case atStart => exact ⟨K1.out, rfl, rfl⟩
  case round =>
    obtain ⟨hm, rfl, rfl⟩ := hrel
    go_wp2
    go_ret
    exact ⟨rfl, hm.out⟩
theorem app4 (x y : Value) : #[x] ++ #[y] ++ #[] = #[x, y] := rfl
theorem fnc_tl : Fnc 106 := fnc_of Tryz.func106 (by kernel_rfl) rfl
theorem fnc_ql : Fnc 50 := fnc_of Tryz.func50 (by kernel_rfl) rfl
theorem fnc_wl : Fnc 54 := fnc_of Tryz.func54 (by kernel_rfl) rfl
theorem fnc_cl : Fnc 56 := fnc_of Tryz.func56 (by kernel_rfl) rfl
theorem fnc_kl : Fnc 58 := fnc_of Tryz.func58 (by kernel_rfl) rfl
section
variable (n2 : a.n = 2)
include n2
theorem pl_t (h : KX B w0 A a m (new 2) w) : Calls Tryz.prog 48 #[.int .i64 0, .int .i64 2, .func (.func 106) #[.pointer (some ⟨a.tm, 0, none⟩)] #[]] w fun e w' => e = .returned (.slice none 0 0) ∧ KX B w0 A a m (new 2) w' :=
  pl_any h 0 2 _ _ fnc_tl (by decide) (by decide) (by decide) fun c u k => by
    rw [app4]
    refine (tm_list k c).mono ?_
    rintro e u' ⟨v, X, rfl, k2, r⟩
    rw [n2] at r
    obtain ⟨⟨p, q, rfl⟩, k3⟩ := empty_of k2 r (new_t c)
    exact ⟨p, q, rfl, k3⟩
theorem pl_q (h : KX B w0 A a m (new 2) w) : Calls Tryz.prog 48 #[.int .i64 0, .int .i64 2, .func (.func 50) #[.pointer (some ⟨a.rq + 2, 0, none⟩)] #[]] w fun e w' => e = .returned (.slice none 0 0) ∧ KX B w0 A a m (new 2) w' :=
  pl_any h 0 2 _ _ fnc_ql (by decide) (by decide) (by decide) fun c u k => by
    rw [app4]
    refine (rq_list k c).mono ?_
    rintro e u' ⟨v, X, rfl, k2, r⟩
    rw [n2] at r
    obtain ⟨⟨p, q, rfl⟩, k3⟩ := empty_of k2 r (new_q c)
    exact ⟨p, q, rfl, k3⟩
theorem pl_w (h : KX B w0 A a m (new 2) w) : Calls Tryz.prog 48 #[.int .i64 (-1), .int .i64 2, .func (.func 54) #[.pointer (some ⟨a.wk + 6, 0, none⟩)] #[]] w fun e w' => e = .returned (.slice none 0 0) ∧ KX B w0 A a m (new 2) w' :=
  pl_any h (-1) 2 _ _ fnc_wl (by decide) (by decide) (by decide) fun c u k => by
    rw [app4]
    refine (wk_list k c).mono ?_
    rintro e u' ⟨v, X, rfl, k2, r⟩
    rw [n2] at r
    obtain ⟨⟨p, q, rfl⟩, k3⟩ := empty_of k2 r (new_w c)
    exact ⟨p, q, rfl, k3⟩
omit n2 in
theorem pl_c (h : KX B w0 A a m (new 2) w) : Calls Tryz.prog 48 #[.int .i64 0, .int .i64 2, .func (.func 56) #[.pointer (some ⟨a.cl + 3, 0, none⟩)] #[]] w fun e w' => e = .returned (.slice none 0 0) ∧ KX B w0 A a m (new 2) w' :=
  pl_any h 0 2 _ _ fnc_cl (by decide) (by decide) (by decide) fun c u k => by
    rw [app4]
    refine (cl_list k c).mono ?_
    rintro e u' ⟨v, X, rfl, k2, r⟩
    obtain ⟨⟨p, q, rfl⟩, k3⟩ := empty_of k2 r (new_c c)
    exact ⟨p, q, rfl, k3⟩
theorem pl_k (h : KX B w0 A a m (new 2) w) : Calls Tryz.prog 48 #[.int .i64 0, .int .i64 2, .func (.func 58) #[.pointer (some ⟨a.ob, 0, none⟩)] #[]] w fun e w' => e = .returned (.slice none 0 0) ∧ KX B w0 A a m (new 2) w' :=
  pl_any h 0 2 _ _ fnc_kl (by decide) (by decide) (by decide) fun c u k => by
    rw [app4]
    refine (ob_list k c).mono ?_
    rintro e u' ⟨v, X, rfl, k2, r⟩
    rw [n2] at r
    obtain ⟨⟨p, q, rfl⟩, k3⟩ := empty_of k2 r (new_k c)
    exact ⟨p, q, rfl, k3⟩
set_option maxRecDepth 100000 in
set_option maxHeartbeats 2000000 in
theorem timers_new (h : KX B w0 A a m (new 2) w) :
    Calls Tryz.prog 51 #[.pointer (some ⟨a.k, 0, none⟩)] w fun e w' => e = .returned (.slice none 0 0) ∧ KX B w0 A a m (new 2) w' := by
  have C0 : Hid (∀ _ : Unit, _) := fun _ => k_Cpus h
  rw [n2] at C0
  have C1 : Hid (∀ _ : Unit, _) := fun _ => k_Timers h
  have C2 : Hid (∀ _ : Unit, _) := fun _ => pl_t n2 h
  have hmf := run_mkf Tryz.prog
  clear h
  go_enter Tryz.func51, Tryz.ntmps51
  go_wp2_with fail
  refine (C0.out ()).mono ?_
  rintro e w' ⟨rfl, rfl⟩
  go_wp2_with fail
  refine (C1.out ()).mono ?_
  rintro e w' ⟨rfl, rfl⟩
  go_wp2_with fail
  refine (C2.out ()).mono ?_
  rintro e w1 ⟨rfl, k1⟩
  have K1 : Hid (KX B w0 A a m (new 2) w1) := k1
  clear k1 C0 C1 C2
  go_wp2
  go_loopw [14] (fun i wr => Hid (KX B w0 A a m (new 2) wr) ∧ i = .int .i64 0) (fun _ _ => 0)
  case atStart => exact ⟨K1.out, rfl⟩
  case round =>
    obtain ⟨hm, rfl⟩ := hrel
    go_wp2
    go_ret
    exact ⟨rfl, hm.out⟩
end
end
end Go.Proofs.YtfdmcbcomknebaaGreatDoor.Aud
