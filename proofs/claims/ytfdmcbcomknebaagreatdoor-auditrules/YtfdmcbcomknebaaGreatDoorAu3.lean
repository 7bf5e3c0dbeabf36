/- What audit's number, sleep, by and every answer, for any things and any question. -/
import Derived.Test.YtfdmcbcomknebaaGreatDoorRows
import Derived.Test.YtfdmcbcomknebaaGreatDoorAu2
import Derived.WalkKit
import Derived.ProofKit
import Derived.OpenShut
import Derived.BigQuiet
import Derived.Conc.MuLone
import Derived.Carry
import Derived.Laws.ResultCell
import Derived.Test.YtfdmcbcomknebaaGreatDoorZo
import Derived.BigGuard
namespace Go.Proofs.YtfdmcbcomknebaaGreatDoor.Aud
open Go.ChangeShapes Go.WideShapes Go.ChangeAt Go.RowKit

theorem run_mapH {P : Program} {t k e : TypeId} (h : P.underlying t = some (.map k e)) (n : Int) (w : World) : (Instr.makeMap t (some (.int .i64 n))).run P w = .ok (.map (some w.heap.size)) (w.alloc (.map #[] 0)) := by
  simp [Instr.makeMap, run_underlying h, asInt, Result.andThen]
  rfl
theorem wrs {n : Int} (h0 : 0 ≤ n) (h1 : n < 9223372036854775808) : IntKind.i64.wrap n = n := by rw [IntKind.wrap_i64]; omega
/-- A function of the program that is entered when it is called. -/
def Fnc (f : Nat) : Prop := ∀ (args : Array Value) (w : World), (callFunc f args).run Tryz.prog w = .ok (.enter f args) w
theorem fnc_of {f : Nat} {fn : Func} {c : Code} (hf : Tryz.prog.funcs[f]? = some fn) (hn : (fn.name == "runtime.NumGoroutine") = false) (hb : fn.body = some c) : Fnc f := fun args w => MuLone.run_callFunc_enter hf hn hb args w

theorem results_one {fn : Func} {p : Tmp} {ty : TypeId} (h : fn.results = #[.cell p ty]) (tmps : Array Value) (P : Program) (w : World) :
    (results fn tmps).run P w = ((asAddr (tmps.getD p undef)).run P w).andThen fun a w₁ => (loadVar ty a).run P w₁ := by
  simp only [results, h]
  simp [Sem.run_bind, Result.andThen]
/-- A field of a struct that is at hand, its value known. -/
theorem wpList_field {P : Program} {w : World} {ops : Array Oper} {rest : List Oper} {o : Oper} {a : Act} {Q : Exit → Act → World → Prop} {v u : Value}
    (hg : o.guard = none) (x : Operand) (t : TypeId) (n : Nat) (hop : o.op = Op.field t x n) (hx : a.eval x = v) (hrun : (Instr.field t v n).run P w = .ok u w) (hK : wpList P ops Q rest (a.put o.dst u) w) : wpList P ops Q (o :: rest) a w := by
  refine wpList_plain hg fun K hK' => ?_
  unfold Oper.wp
  simp [execOp, hop, hx, hrun, Result.andThen]
  exact hK' _ _ hK
theorem yield_field {P : Program} {o : Oper} {a : Act} {x : Operand} {t n : Nat} {v u : Value} (hop : o.op = Op.field t x n) (hx : a.eval x = v) (hrun : ∀ w, (Instr.field t v n).run P w = .ok u w) (w : World) : (execOp a.eval o).run P w = .ok (.value u) w := by
  simp [execOp, hop, hx, hrun, Result.andThen]
/-- An entry's store whose outcome is known, as one step of a region that draws its order. -/
theorem step_upd {P : Program} {ops : Array Oper} {o : Oper} {a : Act} {w : World} {K : Act → World → Prop} {Q : Exit → Act → World → Prop} {E : Prop} {vm vk vv : Value} {R : World → Prop}
    (hg : o.guard = none) (m k v : Operand) (t : TypeId) (hop : o.op = Op.mapUpdate t m k v) (hm : a.eval m = vm) (hk : a.eval k = vk) (hv : a.eval v = vv)
    (hrun : ∃ w', (Instr.mapUpdate t vm vk vv).run P w = .ok () w' ∧ R w') (hK : ∀ w', R w' → K (a.put o.dst undef) w') :
    if Region.wanted o (yielded ops a.tmps) = true then Oper.wp P o a w K Q else E := by
  have hw : Region.wanted o (yielded ops a.tmps) = true := by simp [Region.wanted, hg]
  rw [if_pos hw]
  obtain ⟨w', hr, h⟩ := hrun
  unfold Oper.wp
  simp [execOp, hop, hm, hk, hv, hr, Result.andThen]
  exact hK w' h
theorem fieldP (c : Int) (x : Tr) (w : World) : (Instr.field 132 (qv c x) 0).run Tryz.prog w = .ok (.int .i64 c) w := by kernel_rfl
theorem fieldT (c : Int) (x : Tr) (w : World) : (Instr.field 136 (qv c x) 0).run Tryz.prog w = .ok (.int .i64 c) w := by kernel_rfl
theorem slp_ret {z : Nat} {a c : Int} {w : World} {tmps : Array Value} (h : Blk w z [.int .i64 a, .int .i64 c] 141) (h2 : tmps.getD 2 undef = .pointer (some ⟨z, 0, none⟩)) :
    (results Tryz.f75 tmps).run Tryz.prog w = .ok (.agg #[.int .i64 a, .int .i64 c]) w := by
  have q0 : w.cell? ⟨z, 0, none⟩ = some (.int .i64 a) := h.cell 0
  have q1 : w.cell? ⟨z, 1, none⟩ = some (.int .i64 c) := h.cell 1
  rw [results_one (p := 2) (ty := 141) rfl, h2]
  simp [go_sem, q0, q1]
theorem pnum_any (x : Tr) (w : World) : Calls Tryz.prog 67 #[.agg #[.int .i64 x.a, .int .i64 x.b, .int .i64 x.c]] w fun e w' => e = .returned (.int .i64 x.a) ∧ Below w.heap.size w w' := by
  have B : Hid (∀ o, Below w.heap.size w (w.alloc o)) := fun o => (Below.refl _ _).alloc (Nat.le_refl _) o
  go_enter Tryz.func67, Tryz.ntmps67
  go_wp2
  go_ret
  exact ⟨rfl, B.out _⟩
theorem tnum_any (x : Tr) (w : World) : Calls Tryz.prog 69 #[.agg #[.int .i64 x.a, .int .i64 x.b, .int .i64 x.c]] w fun e w' => e = .returned (.int .i64 x.a) ∧ Below w.heap.size w w' := by
  have B : Hid (∀ o, Below w.heap.size w (w.alloc o)) := fun o => (Below.refl _ _).alloc (Nat.le_refl _) o
  go_enter Tryz.func69, Tryz.ntmps69
  go_wp2
  go_ret
  exact ⟨rfl, B.out _⟩
theorem slp_any (x : Tr) (w : World) : Calls Tryz.prog 75 #[.agg #[.int .i64 x.a, .int .i64 x.b, .int .i64 x.c]] w fun e w' => e = .returned (.agg #[.int .i64 x.a, .int .i64 x.c]) ∧ Below w.heap.size w w' := by
  have B : Hid (∀ o, Below w.heap.size w (w.alloc o)) := fun o => (Below.refl _ _).alloc (Nat.le_refl _) o
  go_enter Tryz.func75, Tryz.ntmps75
  go_wp2
  exact bodyPost_ret (slp_ret (z := w.heap.size + 1) (by have := Blk.new (w.alloc (.cells #[.int .i64 x.a, .int .i64 x.b, .int .i64 x.c] 49)) [.int .i64 x.a, .int .i64 x.c] 141; simpa using this) rfl) rfl ⟨rfl, (B.out _).alloc (by simp) _⟩

set_option maxRecDepth 100000 in
set_option maxHeartbeats 4000000 in
theorem byP_any (L : List Tr) (v : Value) (w : World) (h : LRow tr w v L) (ok : Okl L) (hl : (L.length : Int) ≤ 1000) :
    Calls Tryz.prog 66 #[v, .func (.func 67) #[] #[]] w fun e w' => ∃ b, e = .returned (.map (some b)) ∧ w.heap.size ≤ b ∧ BM TP K1 w' b L ∧ Below w.heap.size w w' := by
  obtain ⟨a, cap, rfl⟩ := h.shape
  have HR : Hid (LRow tr w (.slice a L.length cap) L) := h
  have HO : Hid (Okl L) := ok
  have HE : Hid (L.take L.length = L) := List.take_of_length_le (Nat.le_refl _)
  obtain ⟨l, hl2⟩ : ∃ l, L.length = l := ⟨_, rfl⟩
  have HN : Hid (L.length = l) := hl2
  have mk : ∀ (n : Int) (w : World), (Instr.makeMap 124 (some (.int .i64 n))).run Tryz.prog w = .ok (.map (some w.heap.size)) (w.alloc (.map #[] 0)) := fun n w => run_mapH (P := Tryz.prog) TP.map n w
  have M0 : Hid (BM TP K1 (w.alloc (.map #[] 0)) w.heap.size (L.take 0)) := bm_new TP K1 w
  have B0 : Hid (Below w.heap.size w (w.alloc (.map #[] 0))) := (Below.refl _ _).alloc (Nat.le_refl _) _
  rw [hl2] at hl HR HE ⊢
  clear h hl2 ok
  go_enter Tryz.func66, Tryz.ntmps66
  go_wp2
  go_loopw [14] (fun i wr => ∃ (k : Nat), (k : Int) ≤ l ∧ Hid (BM TP K1 wr w.heap.size (L.take k) ∧ Below w.heap.size w wr) ∧ i = .int .i64 (k : Int)) (fun i _ => l - (intOf i).toNat)
  case atStart => exact ⟨0, by omega, ⟨M0.out, B0.out⟩, rfl⟩
  case round =>
    obtain ⟨k, hk, hm, rfl⟩ := hrel
    by_cases e : (k : Int) < l
    · obtain ⟨b, off, rfl, hbl, c0, c1, c2⟩ := trow_at (HR.out.below hm.out.2) (k := k) (by have := HN.out; omega)
      have ox : Hid (Ok1 (L.getD k tz)) := HO.out.at (by have := HN.out; omega)
      have s : Hid (L.take k ++ [L.getD k tz] = L.take (k + 1)) := (take_one' L tz (by have := HN.out; omega)).symm
      have ll : Hid ((L.take k).length ≤ 1000) := by have := HN.out; show (L.take k).length ≤ 1000; rw [List.length_take]; omega
      generalize L.getD k tz = x at *
      generalize L.take k = G at *
      have SZ : Hid (w.heap.size ≤ wr.heap.size) := hm.out.2.size
      have nx : Hid (∀ w1, Below wr.heap.size (wr.alloc (.cells #[.int .i64 x.a, .int .i64 x.b, .int .i64 x.c] 122)) w1 → BM TP K1 w1 w.heap.size G ∧ Below w.heap.size w w1) := fun w1 b1 => by
        have f := ((Below.refl wr.heap.size wr).alloc (Nat.le_refl _) (.cells #[.int .i64 x.a, .int .i64 x.b, .int .i64 x.c] 122)).trans b1
        exact ⟨hm.out.1.below f, hm.out.2.trans (f.mono SZ.out)⟩
      have KB : Hid (Blk (wr.alloc (.cells #[.int .i64 x.a, .int .i64 x.b, .int .i64 x.c] 122)) wr.heap.size [.int .i64 x.a, .int .i64 x.b, .int .i64 x.c] 122) := Blk.new wr _ _
      clear hm hbl
      go_wp2_with fail
      refine (pnum_any x _).mono ?_
      rintro e w1 ⟨rfl, b1⟩
      have b2 := b1.mono (show wr.heap.size ≤ (wr.alloc (.cells #[.int .i64 x.a, .int .i64 x.b, .int .i64 x.c] 122)).heap.size by simp)
      obtain ⟨m1, bb⟩ := nx.out w1 b2
      have kb := KB.out.keep (Fr.of_below b1) KB.out.lt (by simp)
      have d0 : w1.cell? ⟨wr.heap.size, 0, none⟩ = some (.int .i64 x.a) := kb.cell 0
      have d1 : w1.cell? ⟨wr.heap.size, 1, none⟩ = some (.int .i64 x.b) := kb.cell 1
      have d2 : w1.cell? ⟨wr.heap.size, 2, none⟩ = some (.int .i64 x.c) := kb.cell 2
      have hlk : (Instr.lookup 124 (.map (some w.heap.size)) (.int .i64 x.a) false).run Tryz.prog w1 = .ok (qv (cn K1 G (K1 x) : Nat) (la K1 G (K1 x))) w1 := bm_look m1 (k := K1 x) ox.out.1
      obtain ⟨w2, hput0, m2, f2⟩ := bm_put m1 (by have := ll.out; omega) x ox.out.1
      have hput : (Instr.mapUpdate 124 (.map (some w.heap.size)) (.int .i64 x.a) (qv ((cn K1 G (K1 x) : Nat) + 1 : Int) x)).run Tryz.prog w1 = .ok () w2 := hput0
      clear hput0
      have cl := cn_le K1 G (K1 x)
      have wn : IntKind.i64.wrap ((cn K1 G (K1 x) : Nat) + 1 : Int) = (cn K1 G (K1 x) : Nat) + 1 := wrs (by omega) (by have := ll.out; omega)
      unfold qv at hlk hput
      have M2 : Hid (BM TP K1 w2 w.heap.size (G ++ [x]) ∧ Below w.heap.size w w2) := ⟨m2, bb.trans ((f2.less bb.size).below (by simp))⟩
      generalize ((cn K1 G (K1 x) : Nat) : Int) = c at *
      generalize la K1 G (K1 x) = y at *
      obtain ⟨c', hc'⟩ : ∃ c', c + 1 = c' := ⟨_, rfl⟩
      rw [hc'] at wn hput
      go_wp2_with (guard_target =~ wpList _ _ _ (Oper.mk (some 26) _ _ _ _ _ :: _) _ _; refine wpList_field rfl (.tmp 25) 132 0 rfl rfl (fieldP c y w1) ?_)
      go_roundw
      case rel => exact ⟨k + 1, by omega, by rw [← s.out]; exact M2.out, by go_num⟩
      case measure => simp [intOf]; omega
    · have e2 : k = l := by omega
      subst e2
      rw [HE.out] at hm
      go_wp2
      go_ret
      exact ⟨_, rfl, Nat.le_refl _, hm.out.1, hm.out.2⟩

set_option maxRecDepth 100000 in
set_option maxHeartbeats 4000000 in
theorem byT_any (L : List Tr) (v : Value) (w : World) (h : LRow tr w v L) (ok : Okl L) (hl : (L.length : Int) ≤ 1000) :
    Calls Tryz.prog 68 #[v, .func (.func 69) #[] #[]] w fun e w' => ∃ b, e = .returned (.map (some b)) ∧ w.heap.size ≤ b ∧ BM TT K1 w' b L ∧ Below w.heap.size w w' := by
  obtain ⟨a, cap, rfl⟩ := h.shape
  have HR : Hid (LRow tr w (.slice a L.length cap) L) := h
  have HO : Hid (Okl L) := ok
  have HE : Hid (L.take L.length = L) := List.take_of_length_le (Nat.le_refl _)
  obtain ⟨l, hl2⟩ : ∃ l, L.length = l := ⟨_, rfl⟩
  have HN : Hid (L.length = l) := hl2
  have mk : ∀ (n : Int) (w : World), (Instr.makeMap 127 (some (.int .i64 n))).run Tryz.prog w = .ok (.map (some w.heap.size)) (w.alloc (.map #[] 0)) := fun n w => run_mapH (P := Tryz.prog) TT.map n w
  have M0 : Hid (BM TT K1 (w.alloc (.map #[] 0)) w.heap.size (L.take 0)) := bm_new TT K1 w
  have B0 : Hid (Below w.heap.size w (w.alloc (.map #[] 0))) := (Below.refl _ _).alloc (Nat.le_refl _) _
  rw [hl2] at hl HR HE ⊢
  clear h hl2 ok
  go_enter Tryz.func68, Tryz.ntmps68
  go_wp2
  go_loopw [14] (fun i wr => ∃ (k : Nat), (k : Int) ≤ l ∧ Hid (BM TT K1 wr w.heap.size (L.take k) ∧ Below w.heap.size w wr) ∧ i = .int .i64 (k : Int)) (fun i _ => l - (intOf i).toNat)
  case atStart => exact ⟨0, by omega, ⟨M0.out, B0.out⟩, rfl⟩
  case round =>
    obtain ⟨k, hk, hm, rfl⟩ := hrel
    by_cases e : (k : Int) < l
    · obtain ⟨b, off, rfl, hbl, c0, c1, c2⟩ := trow_at (HR.out.below hm.out.2) (k := k) (by have := HN.out; omega)
      have ox : Hid (Ok1 (L.getD k tz)) := HO.out.at (by have := HN.out; omega)
      have s : Hid (L.take k ++ [L.getD k tz] = L.take (k + 1)) := (take_one' L tz (by have := HN.out; omega)).symm
      have ll : Hid ((L.take k).length ≤ 1000) := by have := HN.out; show (L.take k).length ≤ 1000; rw [List.length_take]; omega
      generalize L.getD k tz = x at *
      generalize L.take k = G at *
      have SZ : Hid (w.heap.size ≤ wr.heap.size) := hm.out.2.size
      have nx : Hid (∀ w1, Below wr.heap.size (wr.alloc (.cells #[.int .i64 x.a, .int .i64 x.b, .int .i64 x.c] 49)) w1 → BM TT K1 w1 w.heap.size G ∧ Below w.heap.size w w1) := fun w1 b1 => by
        have f := ((Below.refl wr.heap.size wr).alloc (Nat.le_refl _) (.cells #[.int .i64 x.a, .int .i64 x.b, .int .i64 x.c] 49)).trans b1
        exact ⟨hm.out.1.below f, hm.out.2.trans (f.mono SZ.out)⟩
      have KB : Hid (Blk (wr.alloc (.cells #[.int .i64 x.a, .int .i64 x.b, .int .i64 x.c] 49)) wr.heap.size [.int .i64 x.a, .int .i64 x.b, .int .i64 x.c] 49) := Blk.new wr _ _
      clear hm hbl
      go_wp2_with fail
      refine (tnum_any x _).mono ?_
      rintro e w1 ⟨rfl, b1⟩
      have b2 := b1.mono (show wr.heap.size ≤ (wr.alloc (.cells #[.int .i64 x.a, .int .i64 x.b, .int .i64 x.c] 49)).heap.size by simp)
      obtain ⟨m1, bb⟩ := nx.out w1 b2
      have kb := KB.out.keep (Fr.of_below b1) KB.out.lt (by simp)
      have d0 : w1.cell? ⟨wr.heap.size, 0, none⟩ = some (.int .i64 x.a) := kb.cell 0
      have d1 : w1.cell? ⟨wr.heap.size, 1, none⟩ = some (.int .i64 x.b) := kb.cell 1
      have d2 : w1.cell? ⟨wr.heap.size, 2, none⟩ = some (.int .i64 x.c) := kb.cell 2
      have hlk : (Instr.lookup 127 (.map (some w.heap.size)) (.int .i64 x.a) false).run Tryz.prog w1 = .ok (qv (cn K1 G (K1 x) : Nat) (la K1 G (K1 x))) w1 := bm_look m1 (k := K1 x) ox.out.1
      obtain ⟨w2, hput0, m2, f2⟩ := bm_put m1 (by have := ll.out; omega) x ox.out.1
      have hput : (Instr.mapUpdate 127 (.map (some w.heap.size)) (.int .i64 x.a) (qv ((cn K1 G (K1 x) : Nat) + 1 : Int) x)).run Tryz.prog w1 = .ok () w2 := hput0
      clear hput0
      have cl := cn_le K1 G (K1 x)
      have wn : IntKind.i64.wrap ((cn K1 G (K1 x) : Nat) + 1 : Int) = (cn K1 G (K1 x) : Nat) + 1 := wrs (by omega) (by have := ll.out; omega)
      unfold qv at hlk hput
      have M2 : Hid (BM TT K1 w2 w.heap.size (G ++ [x]) ∧ Below w.heap.size w w2) := ⟨m2, bb.trans ((f2.less bb.size).below (by simp))⟩
      generalize ((cn K1 G (K1 x) : Nat) : Int) = c at *
      generalize la K1 G (K1 x) = y at *
      obtain ⟨c', hc'⟩ : ∃ c', c + 1 = c' := ⟨_, rfl⟩
      rw [hc'] at wn hput
      go_wp2_with (guard_target =~ wpList _ _ _ (Oper.mk (some 26) _ _ _ _ _ :: _) _ _; refine wpList_field rfl (.tmp 25) 136 0 rfl rfl (fieldT c y w1) ?_)
      go_roundw
      case rel => exact ⟨k + 1, by omega, by rw [← s.out]; exact M2.out, by go_num⟩
      case measure => simp [intOf]; omega
    · have e2 : k = l := by omega
      subst e2
      rw [HE.out] at hm
      go_wp2
      go_ret
      exact ⟨_, rfl, Nat.le_refl _, hm.out.1, hm.out.2⟩

set_option maxRecDepth 100000 in
set_option maxHeartbeats 4000000 in
theorem byS_any (L : List Tr) (v : Value) (w : World) (h : LRow tr w v L) (ok : Okl L) (hl : (L.length : Int) ≤ 1000) :
    Calls Tryz.prog 74 #[v, .func (.func 75) #[] #[]] w fun e w' => ∃ b, e = .returned (.map (some b)) ∧ w.heap.size ≤ b ∧ BM TS K2 w' b L ∧ Below w.heap.size w w' := by
  obtain ⟨a, cap, rfl⟩ := h.shape
  have HR : Hid (LRow tr w (.slice a L.length cap) L) := h
  have HO : Hid (Okl L) := ok
  have HE : Hid (L.take L.length = L) := List.take_of_length_le (Nat.le_refl _)
  obtain ⟨l, hl2⟩ : ∃ l, L.length = l := ⟨_, rfl⟩
  have HN : Hid (L.length = l) := hl2
  have mk : ∀ (n : Int) (w : World), (Instr.makeMap 138 (some (.int .i64 n))).run Tryz.prog w = .ok (.map (some w.heap.size)) (w.alloc (.map #[] 0)) := fun n w => run_mapH (P := Tryz.prog) TS.map n w
  have M0 : Hid (BM TS K2 (w.alloc (.map #[] 0)) w.heap.size (L.take 0)) := bm_new TS K2 w
  have B0 : Hid (Below w.heap.size w (w.alloc (.map #[] 0))) := (Below.refl _ _).alloc (Nat.le_refl _) _
  rw [hl2] at hl HR HE ⊢
  clear h hl2 ok
  go_enter Tryz.func74, Tryz.ntmps74
  go_wp2
  go_loopw [14] (fun i wr => ∃ (k : Nat), (k : Int) ≤ l ∧ Hid (BM TS K2 wr w.heap.size (L.take k) ∧ Below w.heap.size w wr) ∧ i = .int .i64 (k : Int)) (fun i _ => l - (intOf i).toNat)
  case atStart => exact ⟨0, by omega, ⟨M0.out, B0.out⟩, rfl⟩
  case round =>
    obtain ⟨k, hk, hm, rfl⟩ := hrel
    by_cases e : (k : Int) < l
    · obtain ⟨b, off, rfl, hbl, c0, c1, c2⟩ := trow_at (HR.out.below hm.out.2) (k := k) (by have := HN.out; omega)
      have ox : Hid (Ok1 (L.getD k tz)) := HO.out.at (by have := HN.out; omega)
      have s : Hid (L.take k ++ [L.getD k tz] = L.take (k + 1)) := (take_one' L tz (by have := HN.out; omega)).symm
      have ll : Hid ((L.take k).length ≤ 1000) := by have := HN.out; show (L.take k).length ≤ 1000; rw [List.length_take]; omega
      generalize L.getD k tz = x at *
      generalize L.take k = G at *
      have SZ : Hid (w.heap.size ≤ wr.heap.size) := hm.out.2.size
      have nx : Hid (∀ w1, Below wr.heap.size (wr.alloc (.cells #[.int .i64 x.a, .int .i64 x.b, .int .i64 x.c] 49)) w1 → BM TS K2 w1 w.heap.size G ∧ Below w.heap.size w w1) := fun w1 b1 => by
        have f := ((Below.refl wr.heap.size wr).alloc (Nat.le_refl _) (.cells #[.int .i64 x.a, .int .i64 x.b, .int .i64 x.c] 49)).trans b1
        exact ⟨hm.out.1.below f, hm.out.2.trans (f.mono SZ.out)⟩
      have KB : Hid (Blk (wr.alloc (.cells #[.int .i64 x.a, .int .i64 x.b, .int .i64 x.c] 49)) wr.heap.size [.int .i64 x.a, .int .i64 x.b, .int .i64 x.c] 49) := Blk.new wr _ _
      clear hm hbl
      go_wp2_with fail
      refine (slp_any x _).mono ?_
      rintro e w1 ⟨rfl, b1⟩
      have b3 : Below w1.heap.size w1 (w1.alloc (.cells #[.int .i64 x.a, .int .i64 x.c] 141)) := (Below.refl _ _).alloc (Nat.le_refl _) _
      have g1 := b1.size
      have b2 : Below wr.heap.size (wr.alloc (.cells #[.int .i64 x.a, .int .i64 x.b, .int .i64 x.c] 49)) (w1.alloc (.cells #[.int .i64 x.a, .int .i64 x.c] 141)) := (b1.mono (by simp)).trans (b3.mono (by simp at g1; omega))
      obtain ⟨m1, bb⟩ := nx.out _ b2
      have kb := KB.out.keep (Fr.of_below b1) KB.out.lt (by simp)
      have kc := kb.keep (Fr.of_below b3) kb.lt (by simp)
      have kz := Blk.new w1 [.int .i64 x.a, .int .i64 x.c] 141
      obtain ⟨w3, hw3⟩ : ∃ w3, w1.alloc (.cells #[.int .i64 x.a, .int .i64 x.c] 141) = w3 := ⟨_, rfl⟩
      have HW3 : Hid (w1.alloc (.cells #[.int .i64 x.a, .int .i64 x.c] 141) = w3) := hw3
      rw [hw3] at m1 bb kc
      have kz : Blk w3 w1.heap.size [.int .i64 x.a, .int .i64 x.c] 141 := hw3 ▸ kz
      have cl := cn_le K2 G (K2 x)
      have wn : IntKind.i64.wrap ((cn K2 G (K2 x) : Nat) + 1 : Int) = (cn K2 G (K2 x) : Nat) + 1 := wrs (by omega) (by have := ll.out; omega)
      have LK : Hid (∀ u, u.heap = w3.heap → (Instr.lookup 138 (.map (some w.heap.size)) (.agg #[.int .i64 x.a, .int .i64 x.c]) false).run Tryz.prog u = .ok (qv (cn K2 G (K2 x) : Nat) (la K2 G (K2 x))) u) := fun u e => bm_look (m1.heap e) (k := K2 x) ⟨ox.out.1, ox.out.2.2⟩
      have PT : Hid (∀ u, Sm u w3 → ∃ w2, (Instr.mapUpdate 138 (.map (some w.heap.size)) (.agg #[.int .i64 x.a, .int .i64 x.c]) (qv ((cn K2 G (K2 x) : Nat) + 1 : Int) x)).run Tryz.prog u = .ok () w2 ∧ (BM TS K2 w2 w.heap.size (G ++ [x]) ∧ Below w.heap.size w w2)) := fun u e => by
        obtain ⟨w2, h2, m2, f2⟩ := bm_put (m1.heap e.1) (by have := ll.out; omega) x ⟨ox.out.1, ox.out.2.2⟩
        have be := e.below bb
        exact ⟨w2, h2, m2, be.trans ((f2.less be.size).below (by simp))⟩
      unfold qv at LK PT
      have FT : ∀ (c : Int) (y : Tr) (w : World), (Instr.field 136 (.agg #[.int .i64 c, .int .i64 y.a, .int .i64 y.b, .int .i64 y.c]) 0).run Tryz.prog w = .ok (.int .i64 c) w := fieldT
      have d0 : w3.cell? ⟨wr.heap.size, 0, none⟩ = some (.int .i64 x.a) := kc.cell 0
      have d1 : w3.cell? ⟨wr.heap.size, 1, none⟩ = some (.int .i64 x.b) := kc.cell 1
      have d2 : w3.cell? ⟨wr.heap.size, 2, none⟩ = some (.int .i64 x.c) := kc.cell 2
      have z0 : w3.cell? ⟨w1.heap.size, 0, none⟩ = some (.int .i64 x.a) := kz.cell 0
      have z1 : w3.cell? ⟨w1.heap.size, 1, none⟩ = some (.int .i64 x.c) := kz.cell 1
      generalize ((cn K2 G (K2 x) : Nat) : Int) = c at *
      generalize la K2 G (K2 x) = y at *
      obtain ⟨c', hc'⟩ : ∃ c', c + 1 = c' := ⟨_, rfl⟩
      rw [hc'] at wn PT
      clear m1 bb kc kz kb b1 b2 b3 hw3
      go_wp2_with fail
      simp only [HW3.out]
      refine wp_region_J 9 (fun w' => w'.cell? ⟨wr.heap.size, 0, none⟩ = some (.int .i64 x.a) ∧ w'.cell? ⟨wr.heap.size, 1, none⟩ = some (.int .i64 x.b) ∧ w'.cell? ⟨wr.heap.size, 2, none⟩ = some (.int .i64 x.c) ∧ w'.cell? ⟨w1.heap.size, 0, none⟩ = some (.int .i64 x.a) ∧ w'.cell? ⟨w1.heap.size, 1, none⟩ = some (.int .i64 x.c) ∧ (Instr.lookup 138 (.map (some w.heap.size)) (.agg #[.int .i64 x.a, .int .i64 x.c]) false).run Tryz.prog w' = .ok (.agg #[.int .i64 c, .int .i64 y.a, .int .i64 y.b, .int .i64 y.c]) w') (by kernel_rfl) (by exact ⟨d0, d1, d2, z0, z1, LK.out _ rfl⟩) (fun hHeld => ?_)
      refine wpAnyJ_take (i := 0) (oi := { dst := some 21, op := Op.move (Operand.tmp 5), type := 138, pos := "rule.go:29", after := #[], guard := none }) (v := ?va0) rfl (by kernel_rfl) (by kernel_rfl) (by kernel_rfl) (by decide) (by kernel_rfl) (by kernel_rfl) (fun _ _ _ h => h) (Or.inl ⟨by rfl, ?ha0⟩) (by assumption) ?ra0
      case ha0 => (intro wz hSw; (try dsimp only at hSw); go_simp <;> with_reducible rfl)
      try simp only [Act.put, List.setIfInBounds_toArray, List.set_cons_zero, List.set_cons_succ]
      refine wpAnyJ_take (i := 1) (oi := { dst := some 22, op := Op.load 141 (Operand.tmp 8), type := 141, pos := "rule.go:29", after := #[], guard := none }) (v := ?va1) rfl (by kernel_rfl) (by kernel_rfl) (by kernel_rfl) (by decide) (by kernel_rfl) (by kernel_rfl) (fun _ _ _ h => h) (Or.inl ⟨by rfl, ?ha1⟩) (by assumption) ?ra1
      case ha1 => (intro wz hSw; (try dsimp only at hSw); go_simp <;> with_reducible rfl)
      try simp only [Act.put, List.setIfInBounds_toArray, List.set_cons_zero, List.set_cons_succ]
      refine wpAnyJ_take (i := 2) (oi := { dst := some 23, op := Op.move (Operand.tmp 5), type := 138, pos := "rule.go:29", after := #[], guard := none }) (v := ?va2) rfl (by kernel_rfl) (by kernel_rfl) (by kernel_rfl) (by decide) (by kernel_rfl) (by kernel_rfl) (fun _ _ _ h => h) (Or.inl ⟨by rfl, ?ha2⟩) (by assumption) ?ra2
      case ha2 => (intro wz hSw; (try dsimp only at hSw); go_simp <;> with_reducible rfl)
      try simp only [Act.put, List.setIfInBounds_toArray, List.set_cons_zero, List.set_cons_succ]
      refine wpAnyJ_take (i := 3) (oi := { dst := some 24, op := Op.load 141 (Operand.tmp 8), type := 141, pos := "rule.go:29", after := #[], guard := none }) (v := ?va3) rfl (by kernel_rfl) (by kernel_rfl) (by kernel_rfl) (by decide) (by kernel_rfl) (by kernel_rfl) (fun _ _ _ h => h) (Or.inl ⟨by rfl, ?ha3⟩) (by assumption) ?ra3
      case ha3 => (intro wz hSw; (try dsimp only at hSw); go_simp <;> with_reducible rfl)
      try simp only [Act.put, List.setIfInBounds_toArray, List.set_cons_zero, List.set_cons_succ]
      refine wpAnyJ_take (i := 4) (oi := { dst := some 25, op := Op.lookup 138 (Operand.tmp 23) (Operand.tmp 24) false, type := 136, pos := "rule.go:29", after := #[{ on := 2, ground := Ground.data }, { on := 3, ground := Ground.data }], guard := none }) (v := ?va4) rfl (by kernel_rfl) (by kernel_rfl) (by kernel_rfl) (by decide) (by kernel_rfl) (by kernel_rfl) (fun _ _ _ h => h) (Or.inl ⟨by rfl, ?ha4⟩) (by assumption) ?ra4
      case ha4 => (intro wz hSw; (try dsimp only at hSw); go_simp <;> with_reducible rfl)
      try simp only [Act.put, List.setIfInBounds_toArray, List.set_cons_zero, List.set_cons_succ]
      refine wpAnyJ_take (i := 5) (oi := { dst := some 26, op := Op.field 136 (Operand.tmp 25) 0, type := 3, pos := "rule.go:29", after := #[{ on := 4, ground := Ground.data }], guard := none }) (v := ?va5) rfl (by kernel_rfl) (by kernel_rfl) (by kernel_rfl) (by decide) (by kernel_rfl) (by kernel_rfl) (fun _ _ _ h => h) (Or.inl ⟨by rfl, ?ha5⟩) (by assumption) ?ra5
      case ha5 => (intro wz hSw; refine yield_field (x := .tmp 25) (t := 136) (n := 0) (v := .agg #[.int .i64 c, .int .i64 y.a, .int .i64 y.b, .int .i64 y.c]) ?_ ?_ (FT c y) wz <;> rfl)
      try simp only [Act.put, List.setIfInBounds_toArray, List.set_cons_zero, List.set_cons_succ]
      refine wpAnyJ_take (i := 6) (oi := { dst := some 27, op := Op.binOp BinOp.add 3 (Operand.tmp 26) (Operand.const (Value.int IntKind.i64 1)) 3, type := 3, pos := "rule.go:29", after := #[{ on := 5, ground := Ground.data }], guard := none }) (v := ?va6) rfl (by kernel_rfl) (by kernel_rfl) (by kernel_rfl) (by decide) (by kernel_rfl) (by kernel_rfl) (fun _ _ _ h => h) (Or.inl ⟨by rfl, ?ha6⟩) (by assumption) ?ra6
      case ha6 => (intro wz hSw; (try dsimp only at hSw); go_simp <;> with_reducible rfl)
      try simp only [Act.put, List.setIfInBounds_toArray, List.set_cons_zero, List.set_cons_succ]
      refine wpAnyJ_take (i := 7) (oi := { dst := some 28, op := Op.load 49 (Operand.tmp 7), type := 49, pos := "rule.go:29", after := #[], guard := none }) (v := ?va7) rfl (by kernel_rfl) (by kernel_rfl) (by kernel_rfl) (by decide) (by kernel_rfl) (by kernel_rfl) (fun _ _ _ h => h) (Or.inl ⟨by rfl, ?ha7⟩) (by assumption) ?ra7
      case ha7 => (intro wz hSw; (try dsimp only at hSw); go_simp <;> with_reducible rfl)
      try simp only [Act.put, List.setIfInBounds_toArray, List.set_cons_zero, List.set_cons_succ]
      refine wpAnyJ_take (i := 8) (oi := { dst := some 29, op := Op.build 136 #[(0, Operand.tmp 27), (1, Operand.tmp 28)], type := 136, pos := "rule.go:29", after := #[{ on := 6, ground := Ground.data }, { on := 7, ground := Ground.data }], guard := none }) (v := ?va8) rfl (by kernel_rfl) (by kernel_rfl) (by kernel_rfl) (by decide) (by kernel_rfl) (by kernel_rfl) (fun _ _ _ h => h) (Or.inl ⟨by rfl, ?ha8⟩) (by assumption) ?ra8
      case ha8 => (intro wz hSw; (try dsimp only at hSw); go_simp <;> with_reducible rfl)
      try simp only [Act.put, List.setIfInBounds_toArray, List.set_cons_zero, List.set_cons_succ]
      refine wpAnyJ_one (i := 9) (o := { dst := none, op := Op.mapUpdate 138 (Operand.tmp 21) (Operand.tmp 22) (Operand.tmp 29), type := 0, pos := "rule.go:29", after := #[{ on := 0, ground := Ground.data }, { on := 1, ground := Ground.data }, { on := 8, ground := Ground.data }, { on := 0, ground := Ground.phase }, { on := 1, ground := Ground.phase }, { on := 2, ground := Ground.phase }, { on := 3, ground := Ground.phase }, { on := 4, ground := Ground.phase }, { on := 5, ground := Ground.phase }, { on := 6, ground := Ground.phase }, { on := 7, ground := Ground.phase }, { on := 8, ground := Ground.phase }], guard := none }) (by kernel_rfl) rfl (fun K hK => ?_)
      refine step_upd rfl (.tmp 21) (.tmp 22) (.tmp 29) 138 rfl rfl rfl rfl (PT.out _ ⟨rfl, rfl, rfl, rfl⟩) ?_
      intro w2 M2
      have M2 : Hid (BM TS K2 w2 w.heap.size (G ++ [x]) ∧ Below w.heap.size w w2) := M2
      refine hK.out _ _ (fun hz => absurd hz (by decide)) (fun hHeld => ?_)
      clear hK K hHeld
      simp only [Act.put]
      refine wpAnyJ_done (by kernel_rfl) ?_ _
      go_wp2
      go_roundw
      case rel => exact ⟨k + 1, by omega, by rw [← s.out]; exact M2.out, by go_num⟩
      case measure => simp [intOf]; omega
    · have e2 : k = l := by omega
      subst e2
      rw [HE.out] at hm
      go_wp2
      go_ret
      exact ⟨_, rfl, Nat.le_refl _, hm.out.1, hm.out.2⟩

set_option maxRecDepth 100000 in
set_option maxHeartbeats 4000000 in
theorem evP_any (L : List Tr) (v : Value) (f : Nat) (fst cap : Array Value) (pr : Tr → Bool) (w : World) (h : LRow tr w v L) (hf : Fnc f) (hl : (L.length : Int) ≤ 1000)
    (C : ∀ x ∈ L, ∀ u, Below w.heap.size w u → Calls Tryz.prog f (fst ++ #[.agg #[.int .i64 x.a, .int .i64 x.b, .int .i64 x.c]] ++ cap) u fun e u' => e = .returned (.bool (pr x)) ∧ Below u.heap.size u u') :
    Calls Tryz.prog 72 #[v, .func (.func f) fst cap] w fun e w' => e = .returned (.bool (L.all pr)) ∧ Below w.heap.size w w' := by
  obtain ⟨a, n, rfl⟩ := h.shape
  have HR : Hid (LRow tr w (.slice a L.length n) L) := h
  have HE : Hid (L.take L.length = L) := List.take_of_length_le (Nat.le_refl _)
  obtain ⟨l, hl2⟩ : ∃ l, L.length = l := ⟨_, rfl⟩
  have HN : Hid (L.length = l) := hl2
  have FF := hf
  unfold Fnc at FF
  obtain ⟨R, hR⟩ : ∃ R, L.all pr = R := ⟨_, rfl⟩
  have HA : Hid (L.all pr = R) := hR
  have HC : Hid (∀ x ∈ L, ∀ u, Below w.heap.size w u → _) := C
  rw [hl2] at hl HR HE ⊢
  rw [hR]
  clear h hl2 C hf hR
  go_enter Tryz.func72, Tryz.ntmps72
  go_wp2
  go_loopw [9] (fun i wr => ∃ (k : Nat), (k : Int) ≤ l ∧ Hid (Below w.heap.size w wr ∧ (L.take k).all pr = true) ∧ i = .int .i64 (k : Int)) (fun i _ => l - (intOf i).toNat)
  case atStart => exact ⟨0, by omega, ⟨Below.refl _ _, rfl⟩, rfl⟩
  case round =>
    obtain ⟨k, hk, hm, rfl⟩ := hrel
    by_cases e : (k : Int) < l
    · obtain ⟨b, off, rfl, hbl, c0, c1, c2⟩ := trow_at (HR.out.below hm.out.1) (k := k) (by have := HN.out; omega)
      have hmem : L.getD k tz ∈ L := by
        rw [List.getD_eq_getElem?_getD, List.getElem?_eq_getElem (by have := HN.out; omega)]
        exact List.getElem_mem _
      have s : Hid ((L.take (k + 1)).all pr = pr (L.getD k tz)) := by
        show (L.take (k + 1)).all pr = pr (L.getD k tz)
        rw [take_one' L tz (by have := HN.out; omega), List.all_append, hm.out.2]
        simp
      have no : Hid (pr (L.getD k tz) = false → R = false) := fun q => by
        rw [← HA.out]
        exact List.all_eq_false.2 ⟨_, hmem, by simpa using q⟩
      have nx : Hid (Below w.heap.size w (wr.alloc (.cells #[.int .i64 (L.getD k tz).a, .int .i64 (L.getD k tz).b, .int .i64 (L.getD k tz).c] 122))) := hm.out.1.alloc hm.out.1.size _
      have CC : Hid (Calls Tryz.prog f _ _ _) := HC.out _ hmem _ nx.out
      clear hmem
      generalize L.getD k tz = x at *
      cases hq : pr x
      · have r0 := no.out hq
        subst r0
        rw [hq] at CC
        clear hm hbl s no
        go_wp2_with fail
        refine CC.out.mono ?_
        rintro e w1 ⟨rfl, b1⟩
        have B1 : Hid (Below w.heap.size w w1) := nx.out.trans (b1.mono nx.out.size)
        clear b1
        go_wp2
        go_ret
        exact ⟨rfl, B1.out⟩
      · rw [hq] at CC s
        clear hm hbl no
        go_wp2_with fail
        refine CC.out.mono ?_
        rintro e w1 ⟨rfl, b1⟩
        have B1 : Hid (Below w.heap.size w w1) := nx.out.trans (b1.mono nx.out.size)
        clear b1
        go_wp2
        go_roundw
        case rel => exact ⟨k + 1, by omega, ⟨B1.out, s.out⟩, by go_num⟩
        case measure => simp [intOf]; omega
    · have e2 : k = l := by omega
      subst e2
      rw [HE.out, HA.out] at hm
      obtain ⟨b1, rfl⟩ := hm.out
      have B1 : Hid (Below w.heap.size w wr) := b1
      clear b1 hm
      go_wp2
      go_ret
      exact ⟨rfl, B1.out⟩

set_option maxRecDepth 100000 in
set_option maxHeartbeats 4000000 in
theorem evT_any (L : List Tr) (v : Value) (f : Nat) (fst cap : Array Value) (pr : Tr → Bool) (w : World) (h : LRow tr w v L) (hf : Fnc f) (hl : (L.length : Int) ≤ 1000)
    (C : ∀ x ∈ L, ∀ u, Below w.heap.size w u → Calls Tryz.prog f (fst ++ #[.agg #[.int .i64 x.a, .int .i64 x.b, .int .i64 x.c]] ++ cap) u fun e u' => e = .returned (.bool (pr x)) ∧ Below u.heap.size u u') :
    Calls Tryz.prog 70 #[v, .func (.func f) fst cap] w fun e w' => e = .returned (.bool (L.all pr)) ∧ Below w.heap.size w w' := by
  obtain ⟨a, n, rfl⟩ := h.shape
  have HR : Hid (LRow tr w (.slice a L.length n) L) := h
  have HE : Hid (L.take L.length = L) := List.take_of_length_le (Nat.le_refl _)
  obtain ⟨l, hl2⟩ : ∃ l, L.length = l := ⟨_, rfl⟩
  have HN : Hid (L.length = l) := hl2
  have FF := hf
  unfold Fnc at FF
  obtain ⟨R, hR⟩ : ∃ R, L.all pr = R := ⟨_, rfl⟩
  have HA : Hid (L.all pr = R) := hR
  have HC : Hid (∀ x ∈ L, ∀ u, Below w.heap.size w u → _) := C
  rw [hl2] at hl HR HE ⊢
  rw [hR]
  clear h hl2 C hf hR
  go_enter Tryz.func70, Tryz.ntmps70
  go_wp2
  go_loopw [9] (fun i wr => ∃ (k : Nat), (k : Int) ≤ l ∧ Hid (Below w.heap.size w wr ∧ (L.take k).all pr = true) ∧ i = .int .i64 (k : Int)) (fun i _ => l - (intOf i).toNat)
  case atStart => exact ⟨0, by omega, ⟨Below.refl _ _, rfl⟩, rfl⟩
  case round =>
    obtain ⟨k, hk, hm, rfl⟩ := hrel
    by_cases e : (k : Int) < l
    · obtain ⟨b, off, rfl, hbl, c0, c1, c2⟩ := trow_at (HR.out.below hm.out.1) (k := k) (by have := HN.out; omega)
      have hmem : L.getD k tz ∈ L := by
        rw [List.getD_eq_getElem?_getD, List.getElem?_eq_getElem (by have := HN.out; omega)]
        exact List.getElem_mem _
      have s : Hid ((L.take (k + 1)).all pr = pr (L.getD k tz)) := by
        show (L.take (k + 1)).all pr = pr (L.getD k tz)
        rw [take_one' L tz (by have := HN.out; omega), List.all_append, hm.out.2]
        simp
      have no : Hid (pr (L.getD k tz) = false → R = false) := fun q => by
        rw [← HA.out]
        exact List.all_eq_false.2 ⟨_, hmem, by simpa using q⟩
      have nx : Hid (Below w.heap.size w (wr.alloc (.cells #[.int .i64 (L.getD k tz).a, .int .i64 (L.getD k tz).b, .int .i64 (L.getD k tz).c] 49))) := hm.out.1.alloc hm.out.1.size _
      have CC : Hid (Calls Tryz.prog f _ _ _) := HC.out _ hmem _ nx.out
      clear hmem
      generalize L.getD k tz = x at *
      cases hq : pr x
      · have r0 := no.out hq
        subst r0
        rw [hq] at CC
        clear hm hbl s no
        go_wp2_with fail
        refine CC.out.mono ?_
        rintro e w1 ⟨rfl, b1⟩
        have B1 : Hid (Below w.heap.size w w1) := nx.out.trans (b1.mono nx.out.size)
        clear b1
        go_wp2
        go_ret
        exact ⟨rfl, B1.out⟩
      · rw [hq] at CC s
        clear hm hbl no
        go_wp2_with fail
        refine CC.out.mono ?_
        rintro e w1 ⟨rfl, b1⟩
        have B1 : Hid (Below w.heap.size w w1) := nx.out.trans (b1.mono nx.out.size)
        clear b1
        go_wp2
        go_roundw
        case rel => exact ⟨k + 1, by omega, ⟨B1.out, s.out⟩, by go_num⟩
        case measure => simp [intOf]; omega
    · have e2 : k = l := by omega
      subst e2
      rw [HE.out, HA.out] at hm
      obtain ⟨b1, rfl⟩ := hm.out
      have B1 : Hid (Below w.heap.size w wr) := b1
      clear b1 hm
      go_wp2
      go_ret
      exact ⟨rfl, B1.out⟩
end Go.Proofs.YtfdmcbcomknebaaGreatDoor.Aud
