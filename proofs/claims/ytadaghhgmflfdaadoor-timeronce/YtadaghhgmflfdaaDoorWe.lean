/- What comes of comparing two things, and where a thing stands in a list that is in order. -/
import Derived.Test.YtadaghhgmflfdaaDoorRows
import Derived.Test.YtadaghhgmflfdaaDoorWd
import Derived.WalkKit
import Derived.ProofKit
import Derived.OpenShut
import Derived.BigQuiet
import Derived.Deep.RegionHeld3
namespace Go.Proofs.YtadaghhgmflfdaaDoor
open Go.ChangeShapes Go.WideShapes Go.ChangeAt Go.RowKit
open Wm

theorem delete_any {w : World} {v : Value} {L : List It} {i : Nat} (ho : Own 95 w v L) (hi : i < L.length) :
    Calls Tryd.prog 65 #[v, .int .i64 (i : Nat), .int .i64 ((i : Int) + 1)] w fun e w' =>
      ∃ v', e = .returned v' ∧ Own 95 w' v' (L.take i ++ L.drop (i + 1)) ∧ Fr w.heap.size (ob v) w w' ∧ ob v' = ob v := by
  rcases ho.cases with ⟨rfl, rfl⟩ | ⟨g, cap, cur, rfl, hb, h1, h2, h3, h4⟩
  · simp at hi
  obtain ⟨m, hl⟩ : ∃ m, L.length = i + 1 + m := ⟨L.length - (i + 1), by omega⟩
  have key := delete_run hb hl h1 h2 h3 h4
  rw [← hl] at key
  refine key.mono ?_
  rintro e w' ⟨rfl, rfl⟩
  have hdl : (cls (L.drop (i + 1))).length = m * 2 := by rw [cls_len, List.length_drop]; omega
  have f1 : i * 2 + (cls (L.drop (i + 1))).length ≤ cur.length := by rw [hdl]; omega
  have b1 := blk_setCells g 95 (cls (L.drop (i + 1))) (i * 2) cur w.drew hb f1
  have f2 : (i + m) * 2 + ([.int .i64 0, .int .i64 0] : List Value).length ≤ (cur.take (i * 2) ++ cls (L.drop (i + 1)) ++ cur.drop (i * 2 + (cls (L.drop (i + 1))).length)).length := by rw [sp_len _ _ _ f1]; simp; omega
  have b2 := blk_setCells g 95 [.int .i64 0, .int .i64 0] ((i + m) * 2) _ _ b1 f2
  have hle : (L.take i ++ L.drop (i + 1)).length = i + m := by simp; omega
  have e1 : (cls (L.take i)).length = i * 2 := by rw [cls_len, List.length_take]; omega
  refine ⟨_, rfl, own_mk b2 hle.symm (by omega) h2 (by rw [sp_len _ _ _ f2, sp_len _ _ _ f1]; exact h3) ?_, ?_, rfl⟩
  · rw [hle]
    refine take_is (by rw [cls_len, hle]) fun j hj => ?_
    rw [sp_get _ _ _ f2, if_neg (by omega), sp_get _ _ _ f1, cls_app, List.getElem?_append, e1]
    by_cases c1 : j < i * 2
    · rw [if_neg (by omega), if_pos c1, ← cls_take, List.getElem?_take, if_pos c1, ← h4, List.getElem?_take, if_pos (by omega)]
    · rw [if_pos (by rw [hdl]; omega), if_neg c1]
  · rw [ob_some]
    exact fr_setCells g (Or.inr (by simp)) _ _ _ (fr_setCells g (Or.inr (by simp)) _ _ _ (Fr.refl _ _ w).drew)

/-- What comes of comparing two numbers. -/
def cp (a b : Int) : Int := if a < b then -1 else if b < a then 1 else 0

theorem nan64_any (a : Int) (w : World) : Calls Tryd.prog 79 #[.int .i64 a] w fun e w' => e = .returned (.bool false) ∧ w' = w := by
  go_enter Tryd.func79, Tryd.ntmps79
  go_wp2
  go_ret
  exact ⟨rfl, rfl⟩
theorem nan_any (a : Int) (w : World) : Calls Tryd.prog 80 #[.int .i64 a] w fun e w' => e = .returned (.bool false) ∧ w' = w := by
  go_enter Tryd.func80, Tryd.ntmps80
  go_wp2
  go_ret
  exact ⟨rfl, rfl⟩
theorem cmp64_any (a b : Int) (w : World) : Calls Tryd.prog 74 #[.int .i64 a, .int .i64 b] w fun e w' => e = .returned (.int .i64 (cp a b)) ∧ w' = w := by
  unfold cp
  by_cases c1 : a < b
  · rw [if_pos c1]
    go_enter Tryd.func74, Tryd.ntmps74
    go_wp2
    all_goals (go_ret; exact ⟨rfl, rfl⟩)
  · rw [if_neg c1]
    by_cases c2 : b < a
    · rw [if_pos c2]
      go_enter Tryd.func74, Tryd.ntmps74
      go_wp2
      all_goals (go_ret; exact ⟨rfl, rfl⟩)
    · rw [if_neg c2]
      go_enter Tryd.func74, Tryd.ntmps74
      go_wp2
      all_goals (go_ret; exact ⟨rfl, rfl⟩)
theorem cmp_any (a b : Int) (w : World) : Calls Tryd.prog 75 #[.int .i64 a, .int .i64 b] w fun e w' => e = .returned (.int .i64 (cp a b)) ∧ w' = w := by
  unfold cp
  by_cases c1 : a < b
  · rw [if_pos c1]
    go_enter Tryd.func75, Tryd.ntmps75
    go_wp2
    all_goals (go_ret; exact ⟨rfl, rfl⟩)
  · rw [if_neg c1]
    by_cases c2 : b < a
    · rw [if_pos c2]
      go_enter Tryd.func75, Tryd.ntmps75
      go_wp2
      all_goals (go_ret; exact ⟨rfl, rfl⟩)
    · rw [if_neg c2]
      go_enter Tryd.func75, Tryd.ntmps75
      go_wp2
      all_goals (go_ret; exact ⟨rfl, rfl⟩)
set_option maxHeartbeats 1000000 in
theorem or_any (a b : Int) (w : World) (g off c : Nat) (h0 : w.cell? ⟨g, off, none⟩ = some (.int .i64 a)) (h1 : w.cell? ⟨g, off + 1, none⟩ = some (.int .i64 b)) :
    Calls Tryd.prog 73 #[.slice (some ⟨g, off, none⟩) 2 c] w fun e w' => e = .returned (.int .i64 (if a = 0 then b else a)) ∧ w' = w := by
  by_cases c1 : a = 0
  · rw [if_pos c1]
    subst c1
    by_cases c2 : b = 0
    · subst c2
      go_enter Tryd.func73, Tryd.ntmps73
      go_wp2
      go_loopw [8] (fun i wr => wr = w ∧ ∃ k : Nat, (k : Int) ≤ 2 ∧ i = .int .i64 k) (fun i _ => 2 - (intOf i).toNat)
      case atStart => exact ⟨rfl, 0, by omega, rfl⟩
      case round =>
        obtain ⟨rfl, k, hk, rfl⟩ := hrel
        by_cases h : (k : Int) < 2
        · have hc : wr.cell? ⟨g, off + k, none⟩ = some (.int .i64 0) := by
            rcases (by omega : k = 0 ∨ k = 1) with rfl | rfl
            · exact h0
            · exact h1
          clear h0 h1
          go_wp2
          go_roundw
          case rel => exact ⟨trivial, k + 1, by omega, by go_num⟩
          case measure => simp [intOf]; omega
        · go_wp2
          go_ret
          exact ⟨rfl, rfl⟩
    · go_enter Tryd.func73, Tryd.ntmps73
      go_wp2
      go_loopw [8] (fun i wr => wr = w ∧ ∃ k : Nat, (k : Int) ≤ 1 ∧ i = .int .i64 k) (fun i _ => 2 - (intOf i).toNat)
      case atStart => exact ⟨rfl, 0, by omega, rfl⟩
      case round =>
        obtain ⟨rfl, k, hk, rfl⟩ := hrel
        have hlt : (k : Int) < 2 := by omega
        rcases (by omega : k = 0 ∨ k = 1) with rfl | rfl
        · go_wp2
          go_roundw
          case rel => exact ⟨trivial, 1, by omega, by go_num⟩
          case measure => simp [intOf]
        · go_wp2
          go_ret
          exact ⟨rfl, rfl⟩
  · rw [if_neg c1]
    go_enter Tryd.func73, Tryd.ntmps73
    go_wp2
    go_loopw [8] (fun i wr => wr = w ∧ i = .int .i64 0) (fun i _ => 2 - (intOf i).toNat)
    case atStart => exact ⟨rfl, rfl⟩
    case round =>
      obtain ⟨rfl, rfl⟩ := hrel
      go_wp2
      go_ret
      exact ⟨rfl, rfl⟩

theorem cm_or (x y : It) : (if cp x.1 y.1 = 0 then cp x.2 y.2 else cp x.1 y.1) = cm x y := by
  unfold cp cm
  by_cases c1 : x.1 < y.1
  · simp [c1]
  · by_cases c2 : y.1 < x.1
    · simp [c1, c2]
    · simp [c1, c2]

set_option maxRecDepth 100000 in
set_option maxHeartbeats 4000000 in
theorem clo_any (x y : It) (w : World) :
    Calls Tryd.prog 72 #[.agg #[.int .i64 x.2, .int .i64 x.1], .agg #[.int .i64 y.2, .int .i64 y.1]] w fun e w' => e = .returned (.int .i64 (cm x y)) ∧ Below w.heap.size w w' := by
  rw [← cm_or]
  have C1 : Hid (∀ w, _) := fun w => cmp64_any x.1 y.1 w
  have C2 : Hid (∀ w, _) := fun w => cmp_any x.2 y.2 w
  generalize cp x.1 y.1 = p at *
  generalize cp x.2 y.2 = q at *
  have C3 : Hid (∀ (w : World) (g off c : Nat), _) := fun w g off c => or_any p q w g off c
  obtain ⟨a, b⟩ := x
  obtain ⟨c, d⟩ := y
  dsimp only at *
  obtain ⟨r, hr⟩ : ∃ r, r = if p = 0 then q else p := ⟨_, rfl⟩
  rw [← hr] at C3 ⊢
  clear hr
  have W0 : Hid (Below w.heap.size w ((w.alloc (.cells #[.int .i64 b, .int .i64 a] 95)).alloc (.cells #[.int .i64 d, .int .i64 c] 95))) := ((Below.refl _ _).alloc (Nat.le_refl _) _).alloc (by simp) _
  go_enter Tryd.func72, Tryd.ntmps72
  go_wp2
  have W1 := W0.out
  have k1 : ((w.alloc (.cells #[.int .i64 b, .int .i64 a] 95)).alloc (.cells #[.int .i64 d, .int .i64 c] 95)).cell? ⟨w.heap.size, 0, none⟩ = some (.int .i64 b) := ((Blk.new w [.int .i64 b, .int .i64 a] 95).alloc _).cell 0
  have k2 : ((w.alloc (.cells #[.int .i64 b, .int .i64 a] 95)).alloc (.cells #[.int .i64 d, .int .i64 c] 95)).cell? ⟨w.heap.size, 1, none⟩ = some (.int .i64 a) := ((Blk.new w [.int .i64 b, .int .i64 a] 95).alloc _).cell 1
  have k3 : ((w.alloc (.cells #[.int .i64 b, .int .i64 a] 95)).alloc (.cells #[.int .i64 d, .int .i64 c] 95)).cell? ⟨w.heap.size + 1, 0, none⟩ = some (.int .i64 d) := by simp
  have k4 : ((w.alloc (.cells #[.int .i64 b, .int .i64 a] 95)).alloc (.cells #[.int .i64 d, .int .i64 c] 95)).cell? ⟨w.heap.size + 1, 1, none⟩ = some (.int .i64 c) := by simp
  clear W0
  generalize (w.alloc (.cells #[.int .i64 b, .int .i64 a] 95)).alloc (.cells #[.int .i64 d, .int .i64 c] 95) = u at *
  have BU : Hid (Below w.heap.size w u) := W1
  clear W1
  go_region_held3 (fun w' => w'.cell? ⟨w.heap.size, 0, none⟩ = some (.int .i64 b) ∧ w'.cell? ⟨w.heap.size, 1, none⟩ = some (.int .i64 a) ∧ w'.cell? ⟨w.heap.size + 1, 0, none⟩ = some (.int .i64 d) ∧ w'.cell? ⟨w.heap.size + 1, 1, none⟩ = some (.int .i64 c)) (go_keep) (first | (go_at_call 74; refine (C1.out _).mono ?_; rintro e v1 ⟨rfl, rfl⟩) | (go_at_call 75; refine (C2.out _).mono ?_; rintro e v1 ⟨rfl, rfl⟩) | (go_at_call 73; refine (C3.out _ _ _ _ ?_ ?_).mono ?_; go_keep; go_keep; rintro e v1 ⟨rfl, rfl⟩))
  have B2 : Hid (Below w.heap.size w (u.alloc (.cells #[.int .i64 p, .int .i64 q] 3)).drew) := (BU.out.alloc BU.out.size _).drew
  go_wp2
  go_ret
  exact ⟨rfl, B2.out⟩

theorem at_is {L : List It} {x : It} {i : Nat} (hi : i ≤ L.length) (h1 : ∀ t y, t < i → L[t]? = some y → lt y x) (h2 : ∀ t y, i ≤ t → L[t]? = some y → ¬ lt y x) : at_ L x = i := by
  unfold at_
  have e : L = L.take i ++ L.drop i := (List.take_append_drop i L).symm
  have f1 : (L.take i).filter (fun y => decide (lt y x)) = L.take i := List.filter_eq_self.2 fun y hy => by
    obtain ⟨t, ht, e⟩ := List.mem_iff_getElem.1 hy
    have ht2 : t < i := by simp at ht; omega
    simpa using h1 t y ht2 (by rw [← e, List.getElem_take]; exact List.getElem?_eq_getElem _)
  have f2 : (L.drop i).filter (fun y => decide (lt y x)) = [] := List.filter_eq_nil_iff.2 fun y hy => by
    obtain ⟨t, ht, e⟩ := List.mem_iff_getElem.1 hy
    simpa using h2 (i + t) y (by omega) (by rw [← e, List.getElem_drop]; exact List.getElem?_eq_getElem _)
  rw [e, List.filter_append, f1, f2]
  simp
  omega

theorem srt_le {L : List It} (h : Srt L) {a b : Nat} {y z : It} (hab : a ≤ b) (ha : L[a]? = some y) (hb : L[b]? = some z) : y = z ∨ lt y z := by
  by_cases e : a = b
  · subst e
    rw [ha] at hb
    exact Or.inl (by simpa using hb)
  · obtain ⟨h1, e1⟩ := List.getElem?_eq_some_iff.1 ha
    obtain ⟨h2, e2⟩ := List.getElem?_eq_some_iff.1 hb
    have := List.pairwise_iff_getElem.1 h a b h1 h2 (by omega)
    rw [e1, e2] at this
    exact Or.inr this

theorem own_at {w : World} {a : Option Addr} {n cap : Nat} {L : List It} (ho : Own 95 w (.slice a n cap) L) {i : Nat} (hi : i < L.length) : ∃ g y, a = some ⟨g, 0, none⟩ ∧ g < w.heap.size ∧ L[i]? = some y ∧ w.cell? ⟨g, i * 2, none⟩ = some (.int .i64 y.2) ∧ w.cell? ⟨g, i * 2 + 1, none⟩ = some (.int .i64 y.1) := by
  obtain ⟨g, e, h⟩ := ho.cell hi
  have hy := List.getElem?_eq_getElem hi
  obtain ⟨h1, h2⟩ := h _ hy
  exact ⟨g, L[i], e, World.block_lt_of_cell? w _ h1, hy, h1, h2⟩

set_option maxRecDepth 100000 in
set_option maxHeartbeats 4000000 in
theorem bsf_any {w : World} {a : Option Addr} {cap : Nat} {L : List It} (x : It) (ho : Own 95 w (.slice a L.length cap) L) (hs : Srt L) (hl : L.length ≤ 2900) :
    Calls Tryd.prog 71 #[.slice a L.length cap, .agg #[.int .i64 x.2, .int .i64 x.1], .func (.func 72) #[] #[]] w fun e w' => (∃ b, e = .returned (.tuple #[.int .i64 (at_ L x : Nat), .bool b])) ∧ Below w.heap.size w w' := by
  obtain ⟨r, hr⟩ : ∃ r, r = at_ L x := ⟨_, rfl⟩
  rw [← hr]
  have AT : Hid (∀ i, i ≤ L.length → (∀ t y, t < i → L[t]? = some y → lt y x) → (∀ t y, i ≤ t → L[t]? = some y → ¬ lt y x) → r = i) := fun i h0 h1 h2 => hr.trans (at_is h0 h1 h2)
  have MO : Hid (∀ {p q : Nat} {y z : It}, p ≤ q → L[p]? = some y → L[q]? = some z → y = z ∨ lt y z) := fun h1 h2 h3 => srt_le hs h1 h2 h3
  have CE : Hid (∀ (wr : World) (i : Nat), Below (w.heap.size + 1) (w.alloc (.cells #[.int .i64 x.2, .int .i64 x.1] 95)) wr → i < L.length → ∃ g y, a = some ⟨g, 0, none⟩ ∧ L[i]? = some y ∧ wr.cell? ⟨g, i * 2, none⟩ = some (.int .i64 y.2) ∧ wr.cell? ⟨g, i * 2 + 1, none⟩ = some (.int .i64 y.1) ∧ wr.cell? ⟨w.heap.size, 0, none⟩ = some (.int .i64 x.2) ∧ wr.cell? ⟨w.heap.size, 1, none⟩ = some (.int .i64 x.1)) := fun wr i hB hi => by
    obtain ⟨g, y, e, hg, hy, h1, h2⟩ := own_at ho hi
    have hb := (Blk.new w [.int .i64 x.2, .int .i64 x.1] 95)
    have ha : ∀ k, (w.alloc (.cells #[.int .i64 x.2, .int .i64 x.1] 95)).cell? ⟨g, k, none⟩ = w.cell? ⟨g, k, none⟩ := fun k => World.cell?_of_block (Below.heap_alloc _ _ _ hg)
    refine ⟨g, y, e, hy, ?_, ?_, ?_, ?_⟩
    · rw [hB.cell (p := ⟨g, i * 2, none⟩) (by show g < _; omega), ha]; exact h1
    · rw [hB.cell (p := ⟨g, i * 2 + 1, none⟩) (by show g < _; omega), ha]; exact h2
    · rw [hB.cell (p := ⟨w.heap.size, 0, none⟩) (by show w.heap.size < _; omega)]; exact hb.cell 0
    · rw [hB.cell (p := ⟨w.heap.size, 1, none⟩) (by show w.heap.size < _; omega)]; exact hb.cell 1
  have FIN : Hid (∀ wr, Below (w.heap.size + 1) (w.alloc (.cells #[.int .i64 x.2, .int .i64 x.1] 95)) wr → Below w.heap.size w wr) := fun wr hB => ((Below.refl w.heap.size w).alloc (Nat.le_refl _) _).trans (hB.mono (by omega))
  have CC : Hid (∀ (y : It) (w : World), _) := fun y w => clo_any y x w
  obtain ⟨n, hn⟩ : ∃ n, L.length = n := ⟨_, rfl⟩
  rw [hn] at AT CE ⊢
  have z1 : (n : Int) ≤ 2900 := by omega
  have LL : Hid (L.length = n) := hn
  clear hr hs ho hl hn
  go_enter Tryd.func71, Tryd.ntmps71
  go_wp2
  go_loopw [9, 10] (fun s9 s10 wr => ∃ lo hi : Nat, s9 = .int .i64 lo ∧ s10 = .int .i64 hi ∧ (lo : Int) ≤ hi ∧ (hi : Int) ≤ n ∧ Hid (Below (w.heap.size + 1) (w.alloc (.cells #[.int .i64 x.2, .int .i64 x.1] 95)) wr) ∧ Hid ((∀ t y, t < lo → L[t]? = some y → lt y x) ∧ (∀ t y, hi ≤ t → L[t]? = some y → ¬ lt y x))) (fun s9 s10 _ => (intOf s10).toNat - (intOf s9).toNat)
  case atStart => exact ⟨0, n, rfl, rfl, by omega, Int.le_refl _, Below.mono (Below.refl _ _) (Nat.le_refl _), ⟨fun t y h => absurd h (Nat.not_lt_zero _), fun t y h1 h2 => by have := (List.getElem?_eq_some_iff.1 h2).1; have := LL.out; omega⟩⟩
  case round =>
    obtain ⟨lo, hi, rfl, rfl, h1, h2, B, I⟩ := hrel
    have SZ : w.heap.size + 1 ≤ wr.heap.size := by have := B.out.size; simpa using this
    have KP : Hid (∀ W v1 : World, Below W.heap.size W v1 → Sm W wr → Below (w.heap.size + 1) (w.alloc (.cells #[.int .i64 x.2, .int .i64 x.1] 95)) v1) := fun W v1 hb hs => B.out.trans (hs.from (hb.mono (by rw [hs.1]; exact SZ)))
    have KC : Hid (∀ (W v1 : World) (p : Addr) (u : Value), Below W.heap.size W v1 → Sm W wr → wr.cell? p = some u → v1.cell? p = some u) := fun W v1 p u hb hs hp => by
      have := World.block_lt_of_cell? wr _ hp
      rw [hb.cell (by rw [hs.1]; exact this), World.cell?_of_block (w := wr) (by rw [hs.1])]
      exact hp
    clear SZ
    by_cases hlt : (lo : Int) < hi
    · have hm : (((lo : Int) + hi) / 2) = (((lo + hi) / 2 : Nat) : Int) := by omega
      obtain ⟨g, y, rfl, hy, k1, k2, k3, k4⟩ := CE.out wr ((lo + hi) / 2) B.out (by omega)
      have hmn : (((lo + hi) / 2 : Nat) : Int) < n := by omega
      have hml : (lo : Int) ≤ (((lo + hi) / 2 : Nat) : Int) := by omega
      have hmh : (((lo + hi) / 2 : Nat) : Int) < hi := by omega
      have HY : Hid (L[(lo + hi) / 2]? = some y) := hy
      clear hy
      obtain ⟨m, em⟩ : ∃ m, m = (lo + hi) / 2 := ⟨_, rfl⟩
      rw [← em] at HY k1 k2 hmn hml hmh hm
      clear em
      have C := CC.out y
      by_cases hc : cm y x < 0
      · have C1 : Hid (∀ w, _) := fun w => C w
        have I2 : Hid ((∀ t y, t < m + 1 → L[t]? = some y → lt y x) ∧ (∀ t y, hi ≤ t → L[t]? = some y → ¬ lt y x)) := ⟨fun t z ht hz => by
          rcases MO.out (by omega : t ≤ m) hz HY.out with e | e
          · rw [e]; exact (cm_lt y x).1 hc
          · exact lt_trans e ((cm_lt y x).1 hc), I.out.2⟩
        generalize cm y x = cr at *
        clear C I
        go_wp2_with fail
        go_region_held3 (fun w' => w'.cell? ⟨g, m * 2, none⟩ = some (.int .i64 y.2) ∧ w'.cell? ⟨g, m * 2 + 1, none⟩ = some (.int .i64 y.1) ∧ w'.cell? ⟨w.heap.size, 0, none⟩ = some (.int .i64 x.2) ∧ w'.cell? ⟨w.heap.size, 1, none⟩ = some (.int .i64 x.1)) (go_keep) (first | (go_at_call 72; refine (C1.out _).mono ?_; rintro e v1 ⟨rfl, b1⟩; have j1 := KC.out _ v1 _ _ b1 ⟨rfl, rfl, rfl, rfl⟩ k1; have j2 := KC.out _ v1 _ _ b1 ⟨rfl, rfl, rfl, rfl⟩ k2; have j3 := KC.out _ v1 _ _ b1 ⟨rfl, rfl, rfl, rfl⟩ k3; have j4 := KC.out _ v1 _ _ b1 ⟨rfl, rfl, rfl, rfl⟩ k4; have J5 := KP.out _ v1 b1 ⟨rfl, rfl, rfl, rfl⟩))
        go_wp2
        go_roundw
        case rel => exact ⟨m + 1, hi, by go_num, rfl, by omega, h2, J5, I2.out⟩
        case measure => simp [intOf]; omega
      · have C1 : Hid (∀ w, _) := fun w => C w
        have I2 : Hid ((∀ t y, t < lo → L[t]? = some y → lt y x) ∧ (∀ t y, m ≤ t → L[t]? = some y → ¬ lt y x)) := ⟨I.out.1, fun t z ht hz hlz => by
          rcases MO.out ht HY.out hz with e | e
          · rw [e] at hc; exact hc ((cm_lt z x).2 hlz)
          · exact hc ((cm_lt y x).2 (lt_trans e hlz))⟩
        generalize cm y x = cr at *
        clear C I
        go_wp2_with fail
        go_region_held3 (fun w' => w'.cell? ⟨g, m * 2, none⟩ = some (.int .i64 y.2) ∧ w'.cell? ⟨g, m * 2 + 1, none⟩ = some (.int .i64 y.1) ∧ w'.cell? ⟨w.heap.size, 0, none⟩ = some (.int .i64 x.2) ∧ w'.cell? ⟨w.heap.size, 1, none⟩ = some (.int .i64 x.1)) (go_keep) (first | (go_at_call 72; refine (C1.out _).mono ?_; rintro e v1 ⟨rfl, b1⟩; have j1 := KC.out _ v1 _ _ b1 ⟨rfl, rfl, rfl, rfl⟩ k1; have j2 := KC.out _ v1 _ _ b1 ⟨rfl, rfl, rfl, rfl⟩ k2; have j3 := KC.out _ v1 _ _ b1 ⟨rfl, rfl, rfl, rfl⟩ k3; have j4 := KC.out _ v1 _ _ b1 ⟨rfl, rfl, rfl, rfl⟩ k4; have J5 := KP.out _ v1 b1 ⟨rfl, rfl, rfl, rfl⟩))
        go_wp2
        go_roundw
        case rel => exact ⟨lo, m, rfl, rfl, by omega, by omega, J5, I2.out⟩
        case measure => simp [intOf]; omega
    · obtain rfl : hi = lo := by omega
      obtain rfl := AT.out hi (by omega) I.out.1 I.out.2
      clear I h1 hlt
      by_cases hn : (r : Int) < n
      · have hd : decide ((r : Int) < (n : Int)) = true := decide_eq_true hn
        obtain ⟨g, y, rfl, hy, k1, k2, k3, k4⟩ := CE.out wr r B.out (by omega)
        have C1 : Hid (∀ w, _) := fun w => CC.out y w
        generalize cm y x = cr at *
        go_wp2_with fail
        go_region_held3 (fun w' => w'.cell? ⟨g, r * 2, none⟩ = some (.int .i64 y.2) ∧ w'.cell? ⟨g, r * 2 + 1, none⟩ = some (.int .i64 y.1) ∧ w'.cell? ⟨w.heap.size, 0, none⟩ = some (.int .i64 x.2) ∧ w'.cell? ⟨w.heap.size, 1, none⟩ = some (.int .i64 x.1)) (go_keep) (first | (go_at_call 72; refine (C1.out _).mono ?_; rintro e v1 ⟨rfl, b1⟩; have j1 := KC.out _ v1 _ _ b1 ⟨rfl, rfl, rfl, rfl⟩ k1; have j2 := KC.out _ v1 _ _ b1 ⟨rfl, rfl, rfl, rfl⟩ k2; have j3 := KC.out _ v1 _ _ b1 ⟨rfl, rfl, rfl, rfl⟩ k3; have j4 := KC.out _ v1 _ _ b1 ⟨rfl, rfl, rfl, rfl⟩ k4; have J5 := KP.out _ v1 b1 ⟨rfl, rfl, rfl, rfl⟩))
        go_wp2
        go_ret2
        exact ⟨⟨_, rfl⟩, FIN.out _ J5⟩
      · obtain rfl : r = n := by omega
        clear hn
        have BB : Hid (Below w.heap.size w wr) := FIN.out wr B.out
        go_wp2_with fail
        go_quiet (fail)
        go_wp2
        go_ret2
        exact ⟨⟨_, rfl⟩, ⟨BB.out.os, BB.out.tape, BB.out.output, BB.out.size, BB.out.block⟩⟩
end Go.Proofs.YtadaghhgmflfdaaDoor
