/- The texts Wi7 Wi8 Wi9 of one layer, laid together. -/
import Derived.Test.YtmlilgbochbbiaaGreatDoorRows
import Derived.Test.YtmlilgbochbbiaaGreatDoorYq
import Derived.WalkKit
import Derived.ProofKit
import Derived.OpenShut
import Derived.BigQuiet
import Derived.Laws.BytesArg
import Derived.Laws.StructEq
namespace Go.Proofs.YtmlilgbochbbiaaGreatDoor.Wir
open Go.ChangeShapes Go.WideShapes Go.ChangeAt Go.RowKit
open Wi0
/-- Bytes as a string. -/
def st8 (xs : List Nat) : ByteArray := strOfNums (xs.map fun x : Nat => (x : Int))
theorem conv_st8 (w : World) (v : Value) (xs : List Nat) (h : ORow by8 w v xs) : (convert 26 9 v).run Tryz.prog w = .ok (.string (st8 xs)) w := by
  rcases h with ⟨rfl, a, cap, rfl⟩ | ⟨b, off, cap, rfl, _, hc⟩
  · cases a with
    | none =>
      rw [run_convert_bytes_string w 26 9 5 none 0 cap Tryz.underlying26 Tryz.underlying5 Tryz.underlying9]
      rfl
    | some p =>
      rw [run_convert_bytes_string w 26 9 5 (some p) 0 cap Tryz.underlying26 Tryz.underlying5 Tryz.underlying9, run_bytesToString w p 0 cap [] (by rfl)]
      rfl
  · have e := run_convert_bytes_arg (P := Tryz.prog) w 26 5 Tryz.underlying26 Tryz.underlying5 b off xs.length cap (xs.map fun x : Nat => (x : Int)) (by simp) (fun i hi => by
      rw [hc i hi, List.getElem?_eq_getElem hi, List.getD_eq_getElem?_getD, List.getElem?_map, List.getElem?_eq_getElem hi]
      rfl) 9 Tryz.underlying9
    exact e
theorem crow_of {w wr : World} {a : Option Addr} {n cap : Nat} {xs : List Nat} (g : BG w wr (.slice a n cap) xs) (hb : ∀ x ∈ xs, x < 256) : CRow wr a n cap xs := by
  refine ⟨g.row, ?_, hb⟩
  rcases g.own.2 with ⟨hv, hn⟩ | ⟨b, c, cur, hv, _, _, hn, _⟩
  · simp only [Value.slice.injEq] at hv; omega
  · simp only [Value.slice.injEq] at hv
    omega
theorem bytes_yes (w : World) (v u : Value) (xs : List Nat) (h : ORow by8 w v xs) (k : ORow by8 w u xs) :
    Calls Tryz.prog 10 #[v, u] w fun e w' => e = .returned (.bool true) ∧ w' = w := by
  have c1 := conv_st8 w v xs h
  have c2 := conv_st8 w u xs k
  obtain ⟨a1, p1, rfl⟩ := h.shape
  obtain ⟨a2, p2, rfl⟩ := k.shape
  generalize st8 xs = s at *
  clear h k
  go_enter Tryz.func10, Tryz.ntmps10
  go_wp2
  go_ret
  exact ⟨rfl, rfl⟩
end Go.Proofs.YtmlilgbochbbiaaGreatDoor.Wir
namespace Go.Proofs.YtmlilgbochbbiaaGreatDoor.Wir
open Go.ChangeShapes Go.WideShapes Go.ChangeAt Go.RowKit
open Wi0
/-- How events lie in memory. -/
def evy : Lay Ev where
  n := 5
  f := evL
  z := z5
  len := fun _ => rfl
  one := fun x u hu => by
    simp only [evL, List.mem_cons, List.not_mem_nil, or_false] at hu
    rcases hu with rfl | rfl | rfl | rfl | rfl <;> rfl
  pos := by decide
theorem nil_room {w wr : World} {v : Value} {xs : List Nat} (g : BG w wr v xs) : ∀ a cap, v = .slice a 0 cap → a = none → cap = 0 := fun a cap h h2 => by
  rcases g.own.2 with ⟨hv, _⟩ | ⟨b, c, cur, hv, _⟩
  · rw [hv] at h; simp only [Value.slice.injEq] at h; exact h.2.2.symm
  · rw [hv] at h; simp only [Value.slice.injEq] at h; rw [h2] at h; simp at h
theorem flat_len (Y : List Ev) : (Y.flatMap putE).length ≤ Y.length * 38 := by
  induction Y with
  | nil => simp
  | cons e r ih => rw [List.flatMap_cons, List.length_append, List.length_cons]; have := putE_len e; omega
theorem flat_take (Y : List Ev) (k : Nat) (h : k < Y.length) : (Y.take (k + 1)).flatMap putE = (Y.take k).flatMap putE ++ putE (Y.getD k z5) := by
  rw [take_one' Y z5 h, List.flatMap_append]
  simp
theorem flat_by (Y : List Ev) : ∀ x ∈ Y.flatMap putE, x < 256 := fun x hx => by
  obtain ⟨e, _, he⟩ := List.mem_flatMap.1 hx
  exact putE_by e x he
theorem Tryz.infoEv : (Tryz.prog.info? 50).map (fun i => (i.zero, i.size, i.bytes)) = some (some (.agg #[.int .i64 0, .int .i64 0, .int .i64 0, .int .u64 0, .int .i64 0]), 5, 40) := by kernel_rfl
abbrev EG := LG evy 50
theorem eg_app {w wr w1 : World} {v : Value} {Y : List Ev} (x : Ev) (g : EG w wr v Y) (e : Below wr.heap.size wr w1) (hl : (Y.length : Int) ≤ 10000) :
    ∃ v' w2, (Builtin.append_ #[22, 22] 22 #[v, .slice (some ⟨w1.heap.size, 0, none⟩) 1 1]).run Tryz.prog (w1.alloc (.cells #[.int .i64 x.kind, .int .i64 x.cpu, .int .i64 x.id, .int .u64 x.mask, .int .i64 x.n] 50)) = .ok v' w2 ∧ EG w w2 v' (Y ++ [x]) := by
  obtain ⟨i0, hi, hz0, hz1, hz2⟩ := info_parts Tryz.infoEv
  exact lg_app (L := evy) 50 22 22 i0 _ 40 Tryz.underlying22 hi hz0 hz1 hz2 rfl x g e ⟨rfl, rfl, rfl, rfl⟩ (by simp only [maxLen]; omega) (by omega)
theorem getE_err {b : List Nat} {c : Int} (h : getE b = .error c) : c = 13 ∨ c = 14 := by
  match b, h with
  | [], h => simp [getE] at h; omega
  | [k], h => simp only [getE] at h; split at h <;> simp at h <;> omega
  | k :: wh :: r, h =>
    simp only [getE] at h
    split at h
    · simp at h; omega
    · split at h
      · simp at h; omega
      · split at h
        · rename_i e he
          simp at h
          subst h
          have : ∀ i, gl (k :: wh :: r) wh i = .error e → e = 13 ∨ e = 14 := by
            intro i
            induction i with
            | zero => intro q; simp [gl] at q
            | succ i ih =>
              intro q
              simp only [gl] at q
              split at q
              · rename_i e2 h2; simp at q; subst q; exact ih h2
              · split at q
                · simp at q
                · split at q
                  · rename_i e2 h2; simp at q; subst q; exact gn_err h2
                  · simp at q
          exact this 4 he
        · simp at h
def lnOf : Value → Nat
  | .slice _ n _ => n
  | _ => 0
def RdP (w w' : World) (xs : List Nat) (v : Value) (c : Int) (Y : List Ev) : Prop := EG w w' v Y ∧ ((c = 0 ∧ readE [] xs = .ok Y) ∨ (c ≠ 0 ∧ Y = [] ∧ readE [] xs = .error c))
set_option maxHeartbeats 4000000 in
set_option maxRecDepth 100000 in
theorem read_any (w : World) (a : Option Addr) (n cap : Nat) (xs : List Nat) (h : CRow w a n cap xs) (hn : (n : Int) ≤ 100000) :
    Calls Tryz.prog 25 #[.slice a n cap] w fun e w' => ∃ v c Y, e = .returned (.tuple #[v, .int .i64 c]) ∧ RdP w w' xs v c Y := by
  have H0 : Hid (CRow w a n cap xs) := h
  have HN : Hid ((n : Int) ≤ 100000) := hn
  clear h hn
  go_enter Tryz.func25, Tryz.ntmps25
  go_wp2
  go_loopw [0, 4] (fun bv lv wr => ∃ (a' : Option Addr) (m cap' : Nat) (cs : List Nat) (Y : List Ev), bv = .slice a' m cap' ∧ (m : Int) ≤ 100000 ∧ CRow w a' m cap' cs ∧ EG w wr lv Y ∧ Y.length ≤ 600 ∧ readE [] xs = readE Y cs) (fun b _ _ => lnOf b)
  case atStart => exact ⟨a, n, cap, xs, [], rfl, HN.out, H0.out, lg_start evy 50 w, by simp, rfl⟩
  case round =>
    obtain ⟨a', m, cap', cs, Y, rfl, hm, hc, g, hY, hR⟩ := hrel
    clear H0 HN
    have G : Hid (EG w wr u4 Y) := g
    have HC : Hid (CRow w a' m cap' cs) := hc
    have HM : Hid (m = cs.length) := hc.nn
    have HRR : Hid (readE [] xs = readE Y cs) := hR
    have HYL : Hid (Y.length ≤ 600) := hY
    obtain ⟨la, lcap, hlv⟩ := owng_shape g.own
    subst hlv
    by_cases q : (0 : Int) < m
    · have hne : cs ≠ [] := fun e => by rw [HM.out, e] at q; simp at q
      by_cases full : Y.length = 600
      · have FIN : Hid (RdP w wr xs (.slice none 0 0) 15 []) := ⟨⟨World.ownsRow_nil _ _ _ _, g.bel⟩, Or.inr ⟨by omega, rfl, HRR.out.trans (read_size Y cs hne full)⟩⟩
        rw [full]
        clear hc g hY hR G hne full
        go_wp2
        go_ret2
        exact ⟨_, _, _, rfl, FIN.out⟩
      · have f1 : ((Y.length : Int) == 600) = false := by rw [beq_eq_false_iff_ne]; omega
        have C : Hid (∀ _ : Unit, _) := fun _ => get_any wr a' m cap' cs (hc.below g.bel) hm
        cases hg : getE cs with
        | error c =>
          have ce := getE_err hg
          have c1 : (c == 0) = false := by rw [beq_eq_false_iff_ne]; omega
          rw [hg, show geV (.error c) = .tuple #[evV z5, .int .i64 0, .int .i64 c] from rfl] at C
          have RE : Hid (readE [] xs = .error c) := HRR.out.trans (read_bad Y cs hne full c hg)
          have BL : Hid (Below w.heap.size w wr) := g.bel
          have EVV : Hid (evV z5 = .agg #[.int .i64 0, .int .i64 0, .int .i64 0, .int .u64 0, .int .i64 0]) := rfl
          rw [EVV.out] at C
          have CE : Hid (c ≠ 0) := by show c ≠ 0; omega
          generalize Y.length = M at *
          clear hc g hY hR G hne full hg ce
          go_wp2_with fail
          refine (C.out ()).mono ?_
          rintro e u1 ⟨rfl, b1⟩
          have FIN : Hid (∀ o, RdP w (u1.alloc o) xs (.slice none 0 0) c []) := fun o => ⟨⟨World.ownsRow_nil _ _ _ _, (BL.out.trans (b1.mono BL.out.size)).alloc (Nat.le_trans BL.out.size b1.size) o⟩, Or.inr ⟨CE.out, rfl, RE.out⟩⟩
          clear b1
          go_wp2
          go_ret2
          exact ⟨_, _, _, rfl, FIN.out _⟩
        | ok ep =>
          obtain ⟨ev, p⟩ := ep
          rw [hg, show geV (.ok (ev, p)) = .tuple #[evV ev, .int .i64 (p : Nat), .int .i64 0] from rfl] at C
          obtain ⟨p2, pl, oke, _, _⟩ := put_get cs hc.lt ev p hg
          have RE : Hid (readE [] xs = readE (Y ++ [ev]) (cs.drop p)) := HRR.out.trans (read_more Y cs hc.lt hne full ev p hg)
          have EVV : Hid (evV ev = .agg #[.int .i64 ev.kind, .int .i64 ev.cpu, .int .i64 ev.id, .int .u64 ev.mask, .int .i64 ev.n]) := rfl
          rw [EVV.out] at C
          have pm : p ≤ m := by rw [HM.out]; exact pl
          have CR2 := crow_from (k := p) hc pm
          have SLF : Hid (∀ u : World, (Instr.slice 26 (.slice a' m cap') (some (.int .i64 (p : Int))) none none).run Tryz.prog u = .ok (.slice (if cap' = p then a' else a'.map (·.add (p * 1))) (m - p) (cap' - p)) u) := fun u => sl_from u a' m cap' p pm
          obtain ⟨a2, ha2⟩ : ∃ a2, (if cap' = p then a' else a'.map (·.add (p * 1))) = a2 := ⟨_, rfl⟩
          rw [ha2] at CR2 SLF
          have HC2 : Hid (CRow w a2 (m - p) (cap' - p) (cs.drop p)) := CR2
          have HY2 : Hid ((Y ++ [ev]).length ≤ 600) := by show (Y ++ [ev]).length ≤ 600; simp; omega
          have YL : Hid ((Y.length : Int) ≤ 10000) := by show (Y.length : Int) ≤ 10000; omega
          have PM : Hid (2 ≤ p ∧ p ≤ m) := ⟨p2, pm⟩
          have f2 : Hid (((Y.length : Nat) : Int) = ((Y.length : Nat) : Int)) := rfl
          clear hc hY hR hne full hg p2 pl oke CR2 ha2 pm g f2
          go_wp2_with fail
          refine (C.out ()).mono ?_
          rintro e u1 ⟨rfl, b1⟩
          obtain ⟨wa, hwa⟩ : ∃ wa, u1.alloc (.cells #[.int .i64 ev.kind, .int .i64 ev.cpu, .int .i64 ev.id, .int .u64 ev.mask, .int .i64 ev.n] 50) = wa := ⟨_, rfl⟩
          have ba : Below wr.heap.size wr wa := by rw [← hwa]; exact b1.alloc b1.size _
          obtain ⟨v2, u2, hrun, g2⟩ := eg_app ev G.out ba YL.out
          have G2 : Hid (EG w u2 v2 (Y ++ [ev])) := g2
          have s2 := SLF.out u2
          have hrun2 : (Builtin.append_ #[22, 22] 22 #[.slice la Y.length lcap, .slice (some ⟨(u1.alloc (.cells #[.int .i64 ev.kind, .int .i64 ev.cpu, .int .i64 ev.id, .int .u64 ev.mask, .int .i64 ev.n] 50)).heap.size, 0, none⟩) 1 1]).run Tryz.prog ((u1.alloc (.cells #[.int .i64 ev.kind, .int .i64 ev.cpu, .int .i64 ev.id, .int .u64 ev.mask, .int .i64 ev.n] 50)).alloc (.cells #[.int .i64 ev.kind, .int .i64 ev.cpu, .int .i64 ev.id, .int .u64 ev.mask, .int .i64 ev.n] 50)) = .ok v2 u2 := by rw [hwa]; exact hrun
          have hsz : (u1.alloc (.cells #[.int .i64 ev.kind, .int .i64 ev.cpu, .int .i64 ev.id, .int .u64 ev.mask, .int .i64 ev.n] 50)).heap.size = u1.heap.size + 1 := by simp
          rw [hsz] at hrun2
          clear b1 g2 ba hwa hrun G hsz SLF
          generalize Y.length = M at *
          go_wp2_with (at_builtin; refine wpList_rung rfl (.tmp 23) (.tmp 25) 22 rfl rfl rfl hrun2 ?_)
          go_roundw
          case rel => exact ⟨a2, m - p, cap' - p, cs.drop p, Y ++ [ev], rfl, by omega, HC2.out, G2.out, HY2.out, RE.out⟩
          case measure => simp only [lnOf]; have := PM.out; omega
    · obtain rfl : m = 0 := by omega
      have hnil : cs = [] := List.eq_nil_of_length_eq_zero HM.out.symm
      have FIN : Hid (RdP w wr xs (.slice la Y.length lcap) 0 Y) := ⟨g, Or.inl ⟨rfl, by rw [HRR.out, hnil]; exact read_nil Y⟩⟩
      clear hc g hY hR G hnil
      go_wp2
      go_ret2
      exact ⟨_, _, rfl, _, FIN.out⟩
end Go.Proofs.YtmlilgbochbbiaaGreatDoor.Wir
namespace Go.Proofs.YtmlilgbochbbiaaGreatDoor.Wir
open Go.ChangeShapes Go.WideShapes Go.ChangeAt Go.RowKit
open Wi0
theorem bg_sm {t u w' : World} {v : Value} {xs : List Nat} (s : Sm t u) (g : BG t w' v xs) : BG u w' v xs := by
  have e : t.heap.size = u.heap.size := by rw [s.1]
  refine ⟨by rw [← e]; exact g.own, ?_⟩
  rw [← e]
  exact s.from g.bel
theorem put_sm (u t : World) (ev : Ev) (ok : Eok ev) (s : Sm t u) : Calls Tryz.prog 20 #[.agg #[.int .i64 ev.kind, .int .i64 ev.cpu, .int .i64 ev.id, .int .u64 ev.mask, .int .i64 ev.n]] t fun r w' => ∃ v, r = .returned v ∧ BG u w' v (putE ev) :=
  (put_any t ev ok).mono fun _ _ ⟨v, e, g⟩ => ⟨v, e, bg_sm s g⟩
end Go.Proofs.YtmlilgbochbbiaaGreatDoor.Wir
