/- What the rules of audit, Rule and Check answer. -/
import Derived.Test.YtfdmcbcomknebaaGreatDoorRows
import Derived.Test.YtfdmcbcomknebaaGreatDoorAu4
import Derived.WalkKit
import Derived.ProofKit
import Derived.OpenShut
import Derived.BigQuiet
import Derived.BigGuard
import Derived.Carry
import Derived.Deep.RegionHeld3
namespace Go.Proofs.YtfdmcbcomknebaaGreatDoor.Aud
open Go.ChangeShapes Go.WideShapes Go.ChangeAt Go.RowKit
open Mm

/-- A picture of few things. -/
structure Few (p : Pic) : Prop where
  th : (p.th.length : Int) ≤ 1000
  qu : (p.qu.length : Int) ≤ 1000
  ti : (p.ti.length : Int) ≤ 1000
  ir : (p.ir.length : Int) ≤ 1000
  wo : (p.wo.length : Int) ≤ 1000
  ca : (p.ca.length : Int) ≤ 1000
  ke : (p.ke.length : Int) ≤ 1000
theorem ob {a b : Bool} (h : a = b) : Ending.returned (.bool a) = Ending.returned (.bool b) := by rw [h]
set_option maxRecDepth 100000 in
set_option maxHeartbeats 2000000 in
theorem wq_any (p : Pic) (v4 v5 v6 v7 v8 v9 v10 : Value) (w : World) (h : PV w p v4 v5 v6 v7 v8 v9 v10) (hl : Few p) :
    Calls Tryz.prog 15 #[.agg #[.int .i64 p.cp, .int .u64 (p.on : Int), .int .u64 (p.ac : Int), .int .u64 (p.pw : Int), v4, v5, v6, v7, v8, v9, v10, .bool p.bu, .bool p.up, .int .i64 p.cc, .int .i64 p.by']] w fun e w' => e = .returned (.bool (rl2 p)) ∧ Below w.heap.size w w' := by
  have b0 : Below w.heap.size w (w.alloc (.cells #[.int .i64 p.cp, .int .u64 (p.on : Int), .int .u64 (p.ac : Int), .int .u64 (p.pw : Int), v4, v5, v6, v7, v8, v9, v10, .bool p.bu, .bool p.up, .int .i64 p.cc, .int .i64 p.by'] 33)) := (Below.refl _ _).alloc (Nat.le_refl _) _
  have h0 := h.below b0
  have K0 : Blk (w.alloc (.cells #[.int .i64 p.cp, .int .u64 (p.on : Int), .int .u64 (p.ac : Int), .int .u64 (p.pw : Int), v4, v5, v6, v7, v8, v9, v10, .bool p.bu, .bool p.up, .int .i64 p.cc, .int .i64 p.by'] 33)) w.heap.size [.int .i64 p.cp, .int .u64 (p.on : Int), .int .u64 (p.ac : Int), .int .u64 (p.pw : Int), v4, v5, v6, v7, v8, v9, v10, .bool p.bu, .bool p.up, .int .i64 p.cc, .int .i64 p.by'] 33 := Blk.new w _ _
  have CA : Hid (∀ _ : Unit, _) := fun _ => byP_any p.qu v5 (w.alloc (.cells #[.int .i64 p.cp, .int .u64 (p.on : Int), .int .u64 (p.ac : Int), .int .u64 (p.pw : Int), v4, v5, v6, v7, v8, v9, v10, .bool p.bu, .bool p.up, .int .i64 p.cc, .int .i64 p.by'] 33)) h0.qu h0.oqu hl.qu
  have HB0 : Hid (Below w.heap.size w (w.alloc (.cells #[.int .i64 p.cp, .int .u64 (p.on : Int), .int .u64 (p.ac : Int), .int .u64 (p.pw : Int), v4, v5, v6, v7, v8, v9, v10, .bool p.bu, .bool p.up, .int .i64 p.cc, .int .i64 p.by'] 33))) := b0
  have HH0 : Hid (PV _ _ _ _ _ _ _ _ _) := h0
  have HK0 : Hid (Blk _ _ _ _) := K0
  have HL : Hid (Few p) := hl
  obtain ⟨R, hR⟩ : ∃ R, p.th.all (rl2a p) = R := ⟨_, rfl⟩
  obtain ⟨S, hS⟩ : ∃ S, p.qu.all (rl2b p) = S := ⟨_, rfl⟩
  have HR : Hid (p.th.all (rl2a p) = R) := hR
  have HS : Hid (p.qu.all (rl2b p) = S) := hS
  rw [show rl2 p = (R && S) by rw [← hR, ← hS]; rfl]
  clear h h0 b0 K0 hl hR hS
  go_enter Tryz.func15, Tryz.ntmps15
  go_wp2_with fail
  refine (CA.out ()).mono ?_
  rintro e w1 ⟨b1, rfl, z1, M1, B1⟩
  have a1 : Below w1.heap.size w1 (w1.alloc (.cells #[.map (some b1)] 124)) := (Below.refl _ _).alloc (Nat.le_refl _) _
  have k1 := HK0.out.keep (Fr.of_below B1) HK0.out.lt (by simp)
  have k2 := k1.keep (Fr.of_below a1) k1.lt (by simp)
  have HQ2 : Hid (Blk (w1.alloc (.cells #[.map (some b1)] 124)) w1.heap.size [.map (some b1)] 124) := Blk.new w1 _ _
  have h2 := (HH0.out.below B1).below a1
  have g1 := HB0.out.trans (B1.mono HB0.out.size)
  have CB : Hid (∀ _ : Unit, _) := fun _ => byT_any p.th v4 (w1.alloc (.cells #[.map (some b1)] 124)) h2.th h2.oth HL.out.th
  have HM2 : Hid (BM _ _ _ _ _) := M1.below a1
  have HH2 : Hid (PV _ _ _ _ _ _ _ _ _) := h2
  have HB2 : Hid (Below w.heap.size w (w1.alloc (.cells #[.map (some b1)] 124))) := g1.trans (a1.mono g1.size)
  have HK2 : Hid (Blk _ _ _ _) := k2
  have d4 := k2.cell 4
  simp only [List.getElem?_cons_zero, List.getElem?_cons_succ] at d4
  clear M1 B1 a1 k1 k2 h2 g1 CA HB0 HH0 HK0
  go_wp2_with fail
  refine (CB.out ()).mono ?_
  rintro e w3 ⟨b2, rfl, z2, M3, B3⟩
  have a3 : Below w3.heap.size w3 (w3.alloc (.cells #[.map (some b2)] 127)) := (Below.refl _ _).alloc (Nat.le_refl _) _
  have k3 := HK2.out.keep (Fr.of_below B3) HK2.out.lt (by simp)
  have k4 := k3.keep (Fr.of_below a3) k3.lt (by simp)
  have h4 := (HH2.out.below B3).below a3
  have g3 := HB2.out.trans (B3.mono HB2.out.size)
  have M4 := (HM2.out.below B3).below a3
  have Q3 := HQ2.out.keep (Fr.of_below B3) HQ2.out.lt (by simp)
  have Q4 := Q3.keep (Fr.of_below a3) Q3.lt (by simp)
  have HN4 : Hid (BM _ _ _ _ _) := M3.below a3
  have HP4 : Hid (Blk (w3.alloc (.cells #[.map (some b2)] 127)) w3.heap.size [.map (some b2)] 127) := Blk.new w3 _ _
  have CE : Hid (∀ _ : Unit, _) := fun _ => evT_any p.th v4 71 #[] #[.pointer (some ⟨w1.heap.size, 0, none⟩)] (rl2a p) (w3.alloc (.cells #[.map (some b2)] 127)) h4.th fnc_wq1 HL.out.th (fun x hx u bu => by rw [app2]; exact wq1_any p x w1.heap.size b1 u (below_cell bu (Q4.cell 0)) (M4.below bu) (h4.oth x hx))
  rw [HR.out] at CE
  have HH4 : Hid (PV _ _ _ _ _ _ _ _ _) := h4
  have HB4 : Hid (Below w.heap.size w (w3.alloc (.cells #[.map (some b2)] 127))) := g3.trans (a3.mono g3.size)
  have HK4 : Hid (Blk _ _ _ _) := k4
  have d4 := k4.cell 4
  simp only [List.getElem?_cons_zero, List.getElem?_cons_succ] at d4
  have hmf := run_mkf Tryz.prog
  clear M3 B3 a3 k3 k4 h4 g3 CB HB2 HH2 HK2 M4 Q3 Q4 HM2 HQ2
  go_wp2_with fail
  refine (CE.out ()).mono ?_
  rintro e w5 ⟨rfl, B5⟩
  have k5 := HK4.out.keep (Fr.of_below B5) HK4.out.lt (by simp)
  have g5 := HB4.out.trans (B5.mono HB4.out.size)
  have h5 := HH4.out.below B5
  have Q5 := HP4.out.keep (Fr.of_below B5) HP4.out.lt (by simp)
  have N5 := HN4.out.below B5
  have CF : Hid (∀ _ : Unit, _) := fun _ => evP_any p.qu v5 73 #[] #[.pointer (some ⟨w3.heap.size, 0, none⟩)] (rl2b p) w5 h5.qu fnc_wq2 HL.out.qu (fun x hx u bu => by rw [app2]; exact wq2_any p x w3.heap.size b2 u (below_cell bu (Q5.cell 0)) (N5.below bu) (h5.oqu x hx))
  rw [HS.out] at CF
  have HB5 : Hid (Below w.heap.size w w5) := g5
  have d5 := k5.cell 5
  simp only [List.getElem?_cons_zero, List.getElem?_cons_succ] at d5
  clear k5 g5 h5 Q5 N5 B5 CE HB4 HH4 HK4 HP4 HN4 d4
  cases R
  · go_wp2
    go_ret
    exact ⟨rfl, HB5.out⟩
  · go_wp2_with fail
    refine (CF.out ()).mono ?_
    rintro e w6 ⟨rfl, B6⟩
    have HB6 : Hid (Below w.heap.size w w6) := HB5.out.trans (B6.mono HB5.out.size)
    clear B6 d5
    go_wp2
    go_ret
    exact ⟨by simp, HB6.out⟩

set_option maxRecDepth 100000 in
set_option maxHeartbeats 2000000 in
theorem sh_any (p : Pic) (v4 v5 v6 v7 v8 v9 v10 : Value) (w : World) (h : PV w p v4 v5 v6 v7 v8 v9 v10) (hl : Few p) :
    Calls Tryz.prog 16 #[.agg #[.int .i64 p.cp, .int .u64 (p.on : Int), .int .u64 (p.ac : Int), .int .u64 (p.pw : Int), v4, v5, v6, v7, v8, v9, v10, .bool p.bu, .bool p.up, .int .i64 p.cc, .int .i64 p.by']] w fun e w' => e = .returned (.bool (rl3 p)) ∧ Below w.heap.size w w' := by
  have b0 : Below w.heap.size w (w.alloc (.cells #[.int .i64 p.cp, .int .u64 (p.on : Int), .int .u64 (p.ac : Int), .int .u64 (p.pw : Int), v4, v5, v6, v7, v8, v9, v10, .bool p.bu, .bool p.up, .int .i64 p.cc, .int .i64 p.by'] 33)) := (Below.refl _ _).alloc (Nat.le_refl _) _
  have h0 := h.below b0
  have K0 : Blk (w.alloc (.cells #[.int .i64 p.cp, .int .u64 (p.on : Int), .int .u64 (p.ac : Int), .int .u64 (p.pw : Int), v4, v5, v6, v7, v8, v9, v10, .bool p.bu, .bool p.up, .int .i64 p.cc, .int .i64 p.by'] 33)) w.heap.size [.int .i64 p.cp, .int .u64 (p.on : Int), .int .u64 (p.ac : Int), .int .u64 (p.pw : Int), v4, v5, v6, v7, v8, v9, v10, .bool p.bu, .bool p.up, .int .i64 p.cc, .int .i64 p.by'] 33 := Blk.new w _ _
  have CA : Hid (∀ _ : Unit, _) := fun _ => byP_any p.ti v6 (w.alloc (.cells #[.int .i64 p.cp, .int .u64 (p.on : Int), .int .u64 (p.ac : Int), .int .u64 (p.pw : Int), v4, v5, v6, v7, v8, v9, v10, .bool p.bu, .bool p.up, .int .i64 p.cc, .int .i64 p.by'] 33)) h0.ti h0.oti hl.ti
  have HB0 : Hid (Below w.heap.size w (w.alloc (.cells #[.int .i64 p.cp, .int .u64 (p.on : Int), .int .u64 (p.ac : Int), .int .u64 (p.pw : Int), v4, v5, v6, v7, v8, v9, v10, .bool p.bu, .bool p.up, .int .i64 p.cc, .int .i64 p.by'] 33))) := b0
  have HH0 : Hid (PV _ _ _ _ _ _ _ _ _) := h0
  have HK0 : Hid (Blk _ _ _ _) := K0
  have HL : Hid (Few p) := hl
  obtain ⟨R, hR⟩ : ∃ R, p.th.all (rl3a p) = R := ⟨_, rfl⟩
  obtain ⟨S, hS⟩ : ∃ S, p.ti.all (rl3b p) = S := ⟨_, rfl⟩
  have HR : Hid (p.th.all (rl3a p) = R) := hR
  have HS : Hid (p.ti.all (rl3b p) = S) := hS
  rw [show rl3 p = (R && S) by rw [← hR, ← hS]; rfl]
  clear h h0 b0 K0 hl hR hS
  go_enter Tryz.func16, Tryz.ntmps16
  go_wp2_with fail
  refine (CA.out ()).mono ?_
  rintro e w1 ⟨b1, rfl, z1, M1, B1⟩
  have a1 : Below w1.heap.size w1 (w1.alloc (.cells #[.map (some b1)] 124)) := (Below.refl _ _).alloc (Nat.le_refl _) _
  have k1 := HK0.out.keep (Fr.of_below B1) HK0.out.lt (by simp)
  have k2 := k1.keep (Fr.of_below a1) k1.lt (by simp)
  have HQ2 : Hid (Blk (w1.alloc (.cells #[.map (some b1)] 124)) w1.heap.size [.map (some b1)] 124) := Blk.new w1 _ _
  have h2 := (HH0.out.below B1).below a1
  have g1 := HB0.out.trans (B1.mono HB0.out.size)
  have CB : Hid (∀ _ : Unit, _) := fun _ => byS_any p.th v4 (w1.alloc (.cells #[.map (some b1)] 124)) h2.th h2.oth HL.out.th
  have HM2 : Hid (BM _ _ _ _ _) := M1.below a1
  have HH2 : Hid (PV _ _ _ _ _ _ _ _ _) := h2
  have HB2 : Hid (Below w.heap.size w (w1.alloc (.cells #[.map (some b1)] 124))) := g1.trans (a1.mono g1.size)
  have HK2 : Hid (Blk _ _ _ _) := k2
  have d4 := k2.cell 4
  simp only [List.getElem?_cons_zero, List.getElem?_cons_succ] at d4
  clear M1 B1 a1 k1 k2 h2 g1 CA HB0 HH0 HK0
  go_wp2_with fail
  refine (CB.out ()).mono ?_
  rintro e w3 ⟨b2, rfl, z2, M3, B3⟩
  have a3 : Below w3.heap.size w3 (w3.alloc (.cells #[.map (some b2)] 138)) := (Below.refl _ _).alloc (Nat.le_refl _) _
  have k3 := HK2.out.keep (Fr.of_below B3) HK2.out.lt (by simp)
  have k4 := k3.keep (Fr.of_below a3) k3.lt (by simp)
  have h4 := (HH2.out.below B3).below a3
  have g3 := HB2.out.trans (B3.mono HB2.out.size)
  have M4 := (HM2.out.below B3).below a3
  have Q3 := HQ2.out.keep (Fr.of_below B3) HQ2.out.lt (by simp)
  have Q4 := Q3.keep (Fr.of_below a3) Q3.lt (by simp)
  have HN4 : Hid (BM _ _ _ _ _) := M3.below a3
  have HP4 : Hid (Blk (w3.alloc (.cells #[.map (some b2)] 138)) w3.heap.size [.map (some b2)] 138) := Blk.new w3 _ _
  have CE : Hid (∀ _ : Unit, _) := fun _ => evT_any p.th v4 76 #[] #[.pointer (some ⟨w1.heap.size, 0, none⟩)] (rl3a p) (w3.alloc (.cells #[.map (some b2)] 138)) h4.th fnc_sh1 HL.out.th (fun x hx u bu => by rw [app2]; exact sh1_any p x w1.heap.size b1 u (below_cell bu (Q4.cell 0)) (M4.below bu) (h4.oth x hx))
  rw [HR.out] at CE
  have HH4 : Hid (PV _ _ _ _ _ _ _ _ _) := h4
  have HB4 : Hid (Below w.heap.size w (w3.alloc (.cells #[.map (some b2)] 138))) := g3.trans (a3.mono g3.size)
  have HK4 : Hid (Blk _ _ _ _) := k4
  have d4 := k4.cell 4
  simp only [List.getElem?_cons_zero, List.getElem?_cons_succ] at d4
  have hmf := run_mkf Tryz.prog
  clear M3 B3 a3 k3 k4 h4 g3 CB HB2 HH2 HK2 M4 Q3 Q4 HM2 HQ2
  go_wp2_with fail
  refine (CE.out ()).mono ?_
  rintro e w5 ⟨rfl, B5⟩
  have k5 := HK4.out.keep (Fr.of_below B5) HK4.out.lt (by simp)
  have g5 := HB4.out.trans (B5.mono HB4.out.size)
  have h5 := HH4.out.below B5
  have Q5 := HP4.out.keep (Fr.of_below B5) HP4.out.lt (by simp)
  have N5 := HN4.out.below B5
  have CF : Hid (∀ _ : Unit, _) := fun _ => evP_any p.ti v6 77 #[] #[.pointer (some ⟨w3.heap.size, 0, none⟩)] (rl3b p) w5 h5.ti fnc_sh2 HL.out.ti (fun x hx u bu => by rw [app2]; exact sh2_any p x w3.heap.size b2 u (below_cell bu (Q5.cell 0)) (N5.below bu) (h5.oti x hx))
  rw [HS.out] at CF
  have HB5 : Hid (Below w.heap.size w w5) := g5
  have d5 := k5.cell 6
  simp only [List.getElem?_cons_zero, List.getElem?_cons_succ] at d5
  clear k5 g5 h5 Q5 N5 B5 CE HB4 HH4 HK4 HP4 HN4 d4
  cases R
  · go_wp2
    go_ret
    exact ⟨rfl, HB5.out⟩
  · go_wp2_with fail
    refine (CF.out ()).mono ?_
    rintro e w6 ⟨rfl, B6⟩
    have HB6 : Hid (Below w.heap.size w w6) := HB5.out.trans (B6.mono HB5.out.size)
    clear B6 d5
    go_wp2
    go_ret
    exact ⟨by simp, HB6.out⟩

set_option maxRecDepth 100000 in
set_option maxHeartbeats 2000000 in
theorem pm_any (p : Pic) (v4 v5 v6 v7 v8 v9 v10 : Value) (w : World) (h : PV w p v4 v5 v6 v7 v8 v9 v10) (hl : Few p) :
    Calls Tryz.prog 17 #[.agg #[.int .i64 p.cp, .int .u64 (p.on : Int), .int .u64 (p.ac : Int), .int .u64 (p.pw : Int), v4, v5, v6, v7, v8, v9, v10, .bool p.bu, .bool p.up, .int .i64 p.cc, .int .i64 p.by']] w fun e w' => e = .returned (.bool (rl4 p)) ∧ Below w.heap.size w w' := by
  obtain ⟨a5, kc5, rfl⟩ := h.qu.shape
  obtain ⟨a6, kc6, rfl⟩ := h.ti.shape
  obtain ⟨a7, kc7, rfl⟩ := h.ir.shape
  obtain ⟨a9, kc9, rfl⟩ := h.ca.shape
  obtain ⟨a10, kc10, rfl⟩ := h.ke.shape
  have b0 : Below w.heap.size w (w.alloc (.cells #[.int .i64 p.cp, .int .u64 (p.on : Int), .int .u64 (p.ac : Int), .int .u64 (p.pw : Int), v4, (.slice a5 p.qu.length kc5), (.slice a6 p.ti.length kc6), (.slice a7 p.ir.length kc7), v8, (.slice a9 p.ca.length kc9), (.slice a10 p.ke.length kc10), .bool p.bu, .bool p.up, .int .i64 p.cc, .int .i64 p.by'] 33)) := (Below.refl _ _).alloc (Nat.le_refl _) _
  have a1 : Below (w.alloc (.cells #[.int .i64 p.cp, .int .u64 (p.on : Int), .int .u64 (p.ac : Int), .int .u64 (p.pw : Int), v4, (.slice a5 p.qu.length kc5), (.slice a6 p.ti.length kc6), (.slice a7 p.ir.length kc7), v8, (.slice a9 p.ca.length kc9), (.slice a10 p.ke.length kc10), .bool p.bu, .bool p.up, .int .i64 p.cc, .int .i64 p.by'] 33)).heap.size (w.alloc (.cells #[.int .i64 p.cp, .int .u64 (p.on : Int), .int .u64 (p.ac : Int), .int .u64 (p.pw : Int), v4, (.slice a5 p.qu.length kc5), (.slice a6 p.ti.length kc6), (.slice a7 p.ir.length kc7), v8, (.slice a9 p.ca.length kc9), (.slice a10 p.ke.length kc10), .bool p.bu, .bool p.up, .int .i64 p.cc, .int .i64 p.by'] 33)) ((w.alloc (.cells #[.int .i64 p.cp, .int .u64 (p.on : Int), .int .u64 (p.ac : Int), .int .u64 (p.pw : Int), v4, (.slice a5 p.qu.length kc5), (.slice a6 p.ti.length kc6), (.slice a7 p.ir.length kc7), v8, (.slice a9 p.ca.length kc9), (.slice a10 p.ke.length kc10), .bool p.bu, .bool p.up, .int .i64 p.cc, .int .i64 p.by'] 33)).alloc (.cells #[(.slice a5 p.qu.length kc5), (.slice a6 p.ti.length kc6), (.slice a7 p.ir.length kc7), (.slice a9 p.ca.length kc9), (.slice a10 p.ke.length kc10)] 31)) := (Below.refl _ _).alloc (Nat.le_refl _) _
  have g1 : Below w.heap.size w ((w.alloc (.cells #[.int .i64 p.cp, .int .u64 (p.on : Int), .int .u64 (p.ac : Int), .int .u64 (p.pw : Int), v4, (.slice a5 p.qu.length kc5), (.slice a6 p.ti.length kc6), (.slice a7 p.ir.length kc7), v8, (.slice a9 p.ca.length kc9), (.slice a10 p.ke.length kc10), .bool p.bu, .bool p.up, .int .i64 p.cc, .int .i64 p.by'] 33)).alloc (.cells #[(.slice a5 p.qu.length kc5), (.slice a6 p.ti.length kc6), (.slice a7 p.ir.length kc7), (.slice a9 p.ca.length kc9), (.slice a10 p.ke.length kc10)] 31)) := b0.trans (a1.mono b0.size)
  have h1 := h.below g1
  have k0 : Blk (w.alloc (.cells #[.int .i64 p.cp, .int .u64 (p.on : Int), .int .u64 (p.ac : Int), .int .u64 (p.pw : Int), v4, (.slice a5 p.qu.length kc5), (.slice a6 p.ti.length kc6), (.slice a7 p.ir.length kc7), v8, (.slice a9 p.ca.length kc9), (.slice a10 p.ke.length kc10), .bool p.bu, .bool p.up, .int .i64 p.cc, .int .i64 p.by'] 33)) w.heap.size [.int .i64 p.cp, .int .u64 (p.on : Int), .int .u64 (p.ac : Int), .int .u64 (p.pw : Int), v4, (.slice a5 p.qu.length kc5), (.slice a6 p.ti.length kc6), (.slice a7 p.ir.length kc7), v8, (.slice a9 p.ca.length kc9), (.slice a10 p.ke.length kc10), .bool p.bu, .bool p.up, .int .i64 p.cc, .int .i64 p.by'] 33 := Blk.new w _ _
  have K0 := k0.keep (Fr.of_below a1) k0.lt (by simp)
  have KV : Blk ((w.alloc (.cells #[.int .i64 p.cp, .int .u64 (p.on : Int), .int .u64 (p.ac : Int), .int .u64 (p.pw : Int), v4, (.slice a5 p.qu.length kc5), (.slice a6 p.ti.length kc6), (.slice a7 p.ir.length kc7), v8, (.slice a9 p.ca.length kc9), (.slice a10 p.ke.length kc10), .bool p.bu, .bool p.up, .int .i64 p.cc, .int .i64 p.by'] 33)).alloc (.cells #[(.slice a5 p.qu.length kc5), (.slice a6 p.ti.length kc6), (.slice a7 p.ir.length kc7), (.slice a9 p.ca.length kc9), (.slice a10 p.ke.length kc10)] 31)) (w.alloc (.cells #[.int .i64 p.cp, .int .u64 (p.on : Int), .int .u64 (p.ac : Int), .int .u64 (p.pw : Int), v4, (.slice a5 p.qu.length kc5), (.slice a6 p.ti.length kc6), (.slice a7 p.ir.length kc7), v8, (.slice a9 p.ca.length kc9), (.slice a10 p.ke.length kc10), .bool p.bu, .bool p.up, .int .i64 p.cc, .int .i64 p.by'] 33)).heap.size [(.slice a5 p.qu.length kc5), (.slice a6 p.ti.length kc6), (.slice a7 p.ir.length kc7), (.slice a9 p.ca.length kc9), (.slice a10 p.ke.length kc10)] 31 := Blk.new _ _ _
  have CA : Calls Tryz.prog _ _ _ _ := evL_any 5 (w.alloc (.cells #[.int .i64 p.cp, .int .u64 (p.on : Int), .int .u64 (p.ac : Int), .int .u64 (p.pw : Int), v4, (.slice a5 p.qu.length kc5), (.slice a6 p.ti.length kc6), (.slice a7 p.ir.length kc7), v8, (.slice a9 p.ca.length kc9), (.slice a10 p.ke.length kc10), .bool p.bu, .bool p.up, .int .i64 p.cc, .int .i64 p.by'] 33)).heap.size 0 5 (fun k => [(.slice a5 p.qu.length kc5), (.slice a6 p.ti.length kc6), (.slice a7 p.ir.length kc7), (.slice a9 p.ca.length kc9), (.slice a10 p.ke.length kc10)].getD k undef) (fun k => [p.qu.all (mays p), p.ti.all (mays p), p.ir.all (mays p), p.ca.all (mays p), p.ke.all (mays p)].getD k true) 79 #[] #[.pointer (some ⟨w.heap.size, 0, none⟩)] ((w.alloc (.cells #[.int .i64 p.cp, .int .u64 (p.on : Int), .int .u64 (p.ac : Int), .int .u64 (p.pw : Int), v4, (.slice a5 p.qu.length kc5), (.slice a6 p.ti.length kc6), (.slice a7 p.ir.length kc7), v8, (.slice a9 p.ca.length kc9), (.slice a10 p.ke.length kc10), .bool p.bu, .bool p.up, .int .i64 p.cc, .int .i64 p.by'] 33)).alloc (.cells #[(.slice a5 p.qu.length kc5), (.slice a6 p.ti.length kc6), (.slice a7 p.ir.length kc7), (.slice a9 p.ca.length kc9), (.slice a10 p.ke.length kc10)] 31)) (fun k hk => by
      have := KV.cell k
      rw [Nat.zero_add, this]
      have : k = 0 ∨ k = 1 ∨ k = 2 ∨ k = 3 ∨ k = 4 := by omega
      rcases this with rfl | rfl | rfl | rfl | rfl <;> rfl) fnc_pm1 (by decide) (fun k hk u bu => by
      have hk5 : k = 0 ∨ k = 1 ∨ k = 2 ∨ k = 3 ∨ k = 4 := by omega
      rcases hk5 with rfl | rfl | rfl | rfl | rfl
      · exact by rw [app2]; exact pm1_any p v4 (.slice a5 p.qu.length kc5) (.slice a6 p.ti.length kc6) (.slice a7 p.ir.length kc7) v8 (.slice a9 p.ca.length kc9) (.slice a10 p.ke.length kc10) p.qu (.slice a5 p.qu.length kc5) w.heap.size u h.ac ((K0.keep (Fr.of_below bu) K0.lt (by simp))) (h1.qu.below bu) hl.qu
      · exact by rw [app2]; exact pm1_any p v4 (.slice a5 p.qu.length kc5) (.slice a6 p.ti.length kc6) (.slice a7 p.ir.length kc7) v8 (.slice a9 p.ca.length kc9) (.slice a10 p.ke.length kc10) p.ti (.slice a6 p.ti.length kc6) w.heap.size u h.ac ((K0.keep (Fr.of_below bu) K0.lt (by simp))) (h1.ti.below bu) hl.ti
      · exact by rw [app2]; exact pm1_any p v4 (.slice a5 p.qu.length kc5) (.slice a6 p.ti.length kc6) (.slice a7 p.ir.length kc7) v8 (.slice a9 p.ca.length kc9) (.slice a10 p.ke.length kc10) p.ir (.slice a7 p.ir.length kc7) w.heap.size u h.ac ((K0.keep (Fr.of_below bu) K0.lt (by simp))) (h1.ir.below bu) hl.ir
      · exact by rw [app2]; exact pm1_any p v4 (.slice a5 p.qu.length kc5) (.slice a6 p.ti.length kc6) (.slice a7 p.ir.length kc7) v8 (.slice a9 p.ca.length kc9) (.slice a10 p.ke.length kc10) p.ca (.slice a9 p.ca.length kc9) w.heap.size u h.ac ((K0.keep (Fr.of_below bu) K0.lt (by simp))) (h1.ca.below bu) hl.ca
      · exact by rw [app2]; exact pm1_any p v4 (.slice a5 p.qu.length kc5) (.slice a6 p.ti.length kc6) (.slice a7 p.ir.length kc7) v8 (.slice a9 p.ca.length kc9) (.slice a10 p.ke.length kc10) p.ke (.slice a10 p.ke.length kc10) w.heap.size u h.ac ((K0.keep (Fr.of_below bu) K0.lt (by simp))) (h1.ke.below bu) hl.ke
)
  rw [show (w.alloc (.cells #[.int .i64 p.cp, .int .u64 (p.on : Int), .int .u64 (p.ac : Int), .int .u64 (p.pw : Int), v4, (.slice a5 p.qu.length kc5), (.slice a6 p.ti.length kc6), (.slice a7 p.ir.length kc7), v8, (.slice a9 p.ca.length kc9), (.slice a10 p.ke.length kc10), .bool p.bu, .bool p.up, .int .i64 p.cc, .int .i64 p.by'] 33)).heap.size = w.heap.size + 1 by simp] at CA
  have HA : Hid (Calls Tryz.prog _ _ _ _) := CA
  have HB1 : Hid (Below w.heap.size w ((w.alloc (.cells #[.int .i64 p.cp, .int .u64 (p.on : Int), .int .u64 (p.ac : Int), .int .u64 (p.pw : Int), v4, (.slice a5 p.qu.length kc5), (.slice a6 p.ti.length kc6), (.slice a7 p.ir.length kc7), v8, (.slice a9 p.ca.length kc9), (.slice a10 p.ke.length kc10), .bool p.bu, .bool p.up, .int .i64 p.cc, .int .i64 p.by'] 33)).alloc (.cells #[(.slice a5 p.qu.length kc5), (.slice a6 p.ti.length kc6), (.slice a7 p.ir.length kc7), (.slice a9 p.ca.length kc9), (.slice a10 p.ke.length kc10)] 31))) := g1
  have HH1 : Hid (PV _ _ _ _ _ _ _ _ _) := h1
  have HK1 : Hid (Blk _ _ _ _) := K0
  have HL : Hid (Few p) := hl
  have hmf := run_mkf Tryz.prog
  have k0 := k0
  have d5 := K0.cell 5
  have d6 := K0.cell 6
  have d7 := K0.cell 7
  have d9 := K0.cell 9
  have d10 := K0.cell 10
  simp only [List.getElem?_cons_zero, List.getElem?_cons_succ] at d5 d6 d7 d9 d10
  have HC : Hid (p.ac < 18446744073709551616) := h.ac
  rw [show rl4 p = ((List.range 5).all (fun k => [p.qu.all (mays p), p.ti.all (mays p), p.ir.all (mays p), p.ca.all (mays p), p.ke.all (mays p)].getD k true) && p.wo.all (mayw p)) by simp [rl4, List.range, List.range.loop]]
  generalize (List.range 5).all (fun k => [p.qu.all (mays p), p.ti.all (mays p), p.ir.all (mays p), p.ca.all (mays p), p.ke.all (mays p)].getD k true) = R at *
  obtain ⟨S, hS⟩ : ∃ S, p.wo.all (mayw p) = S := ⟨_, rfl⟩
  have HS : Hid (p.wo.all (mayw p) = S) := hS
  rw [hS]
  clear h h1 b0 a1 g1 k0 K0 KV CA hl hS
  go_enter Tryz.func17, Tryz.ntmps17
  go_wp2_with fail
  refine HA.out.mono ?_
  rintro e w5 ⟨rfl, B5⟩
  have k5 := HK1.out.keep (Fr.of_below B5) HK1.out.lt (by simp)
  have g5 := HB1.out.trans (B5.mono HB1.out.size)
  have h5 := HH1.out.below B5
  have CF : Hid (∀ _ : Unit, _) := fun _ => evP_any p.wo v8 81 #[] #[.pointer (some ⟨w.heap.size, 0, none⟩)] (mayw p) w5 h5.wo fnc_pm2 HL.out.wo (fun x hx u bu => by rw [app2]; exact pm2_any p v4 (.slice a5 p.qu.length kc5) (.slice a6 p.ti.length kc6) (.slice a7 p.ir.length kc7) v8 (.slice a9 p.ca.length kc9) (.slice a10 p.ke.length kc10) x w.heap.size u HC.out (k5.keep (Fr.of_below bu) k5.lt (by simp)))
  rw [HS.out] at CF
  have HB5 : Hid (Below w.heap.size w w5) := g5
  have e8 := k5.cell 8
  simp only [List.getElem?_cons_zero, List.getElem?_cons_succ] at e8
  clear k5 g5 h5 B5 HA HB1 HH1 HK1 d5 d6 d7 d9 d10
  cases R
  · go_wp2
    go_ret
    exact ⟨rfl, HB5.out⟩
  · go_wp2_with fail
    refine (CF.out ()).mono ?_
    rintro e w6 ⟨rfl, B6⟩
    have HB6 : Hid (Below w.heap.size w w6) := HB5.out.trans (B6.mono HB5.out.size)
    clear B6 e8
    go_wp2
    go_ret
    exact ⟨by simp, HB6.out⟩

set_option maxRecDepth 100000 in
set_option maxHeartbeats 2000000 in
theorem on_any (p : Pic) (v4 v5 v6 v7 v8 v9 v10 : Value) (w : World) (h : PV w p v4 v5 v6 v7 v8 v9 v10) (hl : Few p) :
    Calls Tryz.prog 19 #[.agg #[.int .i64 p.cp, .int .u64 (p.on : Int), .int .u64 (p.ac : Int), .int .u64 (p.pw : Int), v4, v5, v6, v7, v8, v9, v10, .bool p.bu, .bool p.up, .int .i64 p.cc, .int .i64 p.by']] w fun e w' => e = .returned (.bool (rl6 p)) ∧ Below w.heap.size w w' := by
  obtain ⟨a6, kc6, rfl⟩ := h.ti.shape
  obtain ⟨a7, kc7, rfl⟩ := h.ir.shape
  obtain ⟨a8, kc8, rfl⟩ := h.wo.shape
  obtain ⟨a9, kc9, rfl⟩ := h.ca.shape
  obtain ⟨a10, kc10, rfl⟩ := h.ke.shape
  have b0 : Below w.heap.size w (w.alloc (.cells #[.int .i64 p.cp, .int .u64 (p.on : Int), .int .u64 (p.ac : Int), .int .u64 (p.pw : Int), v4, v5, (.slice a6 p.ti.length kc6), (.slice a7 p.ir.length kc7), (.slice a8 p.wo.length kc8), (.slice a9 p.ca.length kc9), (.slice a10 p.ke.length kc10), .bool p.bu, .bool p.up, .int .i64 p.cc, .int .i64 p.by'] 33)) := (Below.refl _ _).alloc (Nat.le_refl _) _
  have a1 : Below (w.alloc (.cells #[.int .i64 p.cp, .int .u64 (p.on : Int), .int .u64 (p.ac : Int), .int .u64 (p.pw : Int), v4, v5, (.slice a6 p.ti.length kc6), (.slice a7 p.ir.length kc7), (.slice a8 p.wo.length kc8), (.slice a9 p.ca.length kc9), (.slice a10 p.ke.length kc10), .bool p.bu, .bool p.up, .int .i64 p.cc, .int .i64 p.by'] 33)).heap.size (w.alloc (.cells #[.int .i64 p.cp, .int .u64 (p.on : Int), .int .u64 (p.ac : Int), .int .u64 (p.pw : Int), v4, v5, (.slice a6 p.ti.length kc6), (.slice a7 p.ir.length kc7), (.slice a8 p.wo.length kc8), (.slice a9 p.ca.length kc9), (.slice a10 p.ke.length kc10), .bool p.bu, .bool p.up, .int .i64 p.cc, .int .i64 p.by'] 33)) ((w.alloc (.cells #[.int .i64 p.cp, .int .u64 (p.on : Int), .int .u64 (p.ac : Int), .int .u64 (p.pw : Int), v4, v5, (.slice a6 p.ti.length kc6), (.slice a7 p.ir.length kc7), (.slice a8 p.wo.length kc8), (.slice a9 p.ca.length kc9), (.slice a10 p.ke.length kc10), .bool p.bu, .bool p.up, .int .i64 p.cc, .int .i64 p.by'] 33)).alloc (.cells #[(.slice a6 p.ti.length kc6), (.slice a7 p.ir.length kc7), (.slice a8 p.wo.length kc8), (.slice a9 p.ca.length kc9), (.slice a10 p.ke.length kc10)] 31)) := (Below.refl _ _).alloc (Nat.le_refl _) _
  have g1 : Below w.heap.size w ((w.alloc (.cells #[.int .i64 p.cp, .int .u64 (p.on : Int), .int .u64 (p.ac : Int), .int .u64 (p.pw : Int), v4, v5, (.slice a6 p.ti.length kc6), (.slice a7 p.ir.length kc7), (.slice a8 p.wo.length kc8), (.slice a9 p.ca.length kc9), (.slice a10 p.ke.length kc10), .bool p.bu, .bool p.up, .int .i64 p.cc, .int .i64 p.by'] 33)).alloc (.cells #[(.slice a6 p.ti.length kc6), (.slice a7 p.ir.length kc7), (.slice a8 p.wo.length kc8), (.slice a9 p.ca.length kc9), (.slice a10 p.ke.length kc10)] 31)) := b0.trans (a1.mono b0.size)
  have h1 := h.below g1
  have k0 : Blk (w.alloc (.cells #[.int .i64 p.cp, .int .u64 (p.on : Int), .int .u64 (p.ac : Int), .int .u64 (p.pw : Int), v4, v5, (.slice a6 p.ti.length kc6), (.slice a7 p.ir.length kc7), (.slice a8 p.wo.length kc8), (.slice a9 p.ca.length kc9), (.slice a10 p.ke.length kc10), .bool p.bu, .bool p.up, .int .i64 p.cc, .int .i64 p.by'] 33)) w.heap.size [.int .i64 p.cp, .int .u64 (p.on : Int), .int .u64 (p.ac : Int), .int .u64 (p.pw : Int), v4, v5, (.slice a6 p.ti.length kc6), (.slice a7 p.ir.length kc7), (.slice a8 p.wo.length kc8), (.slice a9 p.ca.length kc9), (.slice a10 p.ke.length kc10), .bool p.bu, .bool p.up, .int .i64 p.cc, .int .i64 p.by'] 33 := Blk.new w _ _
  have K0 := k0.keep (Fr.of_below a1) k0.lt (by simp)
  have KV : Blk ((w.alloc (.cells #[.int .i64 p.cp, .int .u64 (p.on : Int), .int .u64 (p.ac : Int), .int .u64 (p.pw : Int), v4, v5, (.slice a6 p.ti.length kc6), (.slice a7 p.ir.length kc7), (.slice a8 p.wo.length kc8), (.slice a9 p.ca.length kc9), (.slice a10 p.ke.length kc10), .bool p.bu, .bool p.up, .int .i64 p.cc, .int .i64 p.by'] 33)).alloc (.cells #[(.slice a6 p.ti.length kc6), (.slice a7 p.ir.length kc7), (.slice a8 p.wo.length kc8), (.slice a9 p.ca.length kc9), (.slice a10 p.ke.length kc10)] 31)) (w.alloc (.cells #[.int .i64 p.cp, .int .u64 (p.on : Int), .int .u64 (p.ac : Int), .int .u64 (p.pw : Int), v4, v5, (.slice a6 p.ti.length kc6), (.slice a7 p.ir.length kc7), (.slice a8 p.wo.length kc8), (.slice a9 p.ca.length kc9), (.slice a10 p.ke.length kc10), .bool p.bu, .bool p.up, .int .i64 p.cc, .int .i64 p.by'] 33)).heap.size [(.slice a6 p.ti.length kc6), (.slice a7 p.ir.length kc7), (.slice a8 p.wo.length kc8), (.slice a9 p.ca.length kc9), (.slice a10 p.ke.length kc10)] 31 := Blk.new _ _ _
  have CA : Calls Tryz.prog _ _ _ _ := evL_any 5 (w.alloc (.cells #[.int .i64 p.cp, .int .u64 (p.on : Int), .int .u64 (p.ac : Int), .int .u64 (p.pw : Int), v4, v5, (.slice a6 p.ti.length kc6), (.slice a7 p.ir.length kc7), (.slice a8 p.wo.length kc8), (.slice a9 p.ca.length kc9), (.slice a10 p.ke.length kc10), .bool p.bu, .bool p.up, .int .i64 p.cc, .int .i64 p.by'] 33)).heap.size 0 5 (fun k => [(.slice a6 p.ti.length kc6), (.slice a7 p.ir.length kc7), (.slice a8 p.wo.length kc8), (.slice a9 p.ca.length kc9), (.slice a10 p.ke.length kc10)].getD k undef) (fun k => [onc p.ti, onc p.ir, onc p.wo, onc p.ca, onc p.ke].getD k true) 83 #[] #[] ((w.alloc (.cells #[.int .i64 p.cp, .int .u64 (p.on : Int), .int .u64 (p.ac : Int), .int .u64 (p.pw : Int), v4, v5, (.slice a6 p.ti.length kc6), (.slice a7 p.ir.length kc7), (.slice a8 p.wo.length kc8), (.slice a9 p.ca.length kc9), (.slice a10 p.ke.length kc10), .bool p.bu, .bool p.up, .int .i64 p.cc, .int .i64 p.by'] 33)).alloc (.cells #[(.slice a6 p.ti.length kc6), (.slice a7 p.ir.length kc7), (.slice a8 p.wo.length kc8), (.slice a9 p.ca.length kc9), (.slice a10 p.ke.length kc10)] 31)) (fun k hk => by
      have := KV.cell k
      rw [Nat.zero_add, this]
      have : k = 0 ∨ k = 1 ∨ k = 2 ∨ k = 3 ∨ k = 4 := by omega
      rcases this with rfl | rfl | rfl | rfl | rfl <;> rfl) fnc_once (by decide) (fun k hk u bu => by
      have hk5 : k = 0 ∨ k = 1 ∨ k = 2 ∨ k = 3 ∨ k = 4 := by omega
      rcases hk5 with rfl | rfl | rfl | rfl | rfl
      · exact by rw [app3]; exact once_any p.ti (.slice a6 p.ti.length kc6) u (h1.ti.below bu) h1.oti hl.ti
      · exact by rw [app3]; exact once_any p.ir (.slice a7 p.ir.length kc7) u (h1.ir.below bu) h1.oir hl.ir
      · exact by rw [app3]; exact once_any p.wo (.slice a8 p.wo.length kc8) u (h1.wo.below bu) h1.owo hl.wo
      · exact by rw [app3]; exact once_any p.ca (.slice a9 p.ca.length kc9) u (h1.ca.below bu) h1.oca hl.ca
      · exact by rw [app3]; exact once_any p.ke (.slice a10 p.ke.length kc10) u (h1.ke.below bu) h1.oke hl.ke
)
  rw [show (w.alloc (.cells #[.int .i64 p.cp, .int .u64 (p.on : Int), .int .u64 (p.ac : Int), .int .u64 (p.pw : Int), v4, v5, (.slice a6 p.ti.length kc6), (.slice a7 p.ir.length kc7), (.slice a8 p.wo.length kc8), (.slice a9 p.ca.length kc9), (.slice a10 p.ke.length kc10), .bool p.bu, .bool p.up, .int .i64 p.cc, .int .i64 p.by'] 33)).heap.size = w.heap.size + 1 by simp] at CA
  have HA : Hid (Calls Tryz.prog _ _ _ _) := CA
  have HB1 : Hid (Below w.heap.size w ((w.alloc (.cells #[.int .i64 p.cp, .int .u64 (p.on : Int), .int .u64 (p.ac : Int), .int .u64 (p.pw : Int), v4, v5, (.slice a6 p.ti.length kc6), (.slice a7 p.ir.length kc7), (.slice a8 p.wo.length kc8), (.slice a9 p.ca.length kc9), (.slice a10 p.ke.length kc10), .bool p.bu, .bool p.up, .int .i64 p.cc, .int .i64 p.by'] 33)).alloc (.cells #[(.slice a6 p.ti.length kc6), (.slice a7 p.ir.length kc7), (.slice a8 p.wo.length kc8), (.slice a9 p.ca.length kc9), (.slice a10 p.ke.length kc10)] 31))) := g1
  have HH1 : Hid (PV _ _ _ _ _ _ _ _ _) := h1
  have HK1 : Hid (Blk _ _ _ _) := K0
  have HL : Hid (Few p) := hl
  have hmf := run_mkf Tryz.prog
  have k0 := k0
  have d6 := K0.cell 6
  have d7 := K0.cell 7
  have d8 := K0.cell 8
  have d9 := K0.cell 9
  have d10 := K0.cell 10
  simp only [List.getElem?_cons_zero, List.getElem?_cons_succ] at d6 d7 d8 d9 d10
  rw [show rl6 p = (List.range 5).all (fun k => [onc p.ti, onc p.ir, onc p.wo, onc p.ca, onc p.ke].getD k true) by simp [rl6, List.range, List.range.loop]]
  generalize (List.range 5).all (fun k => [onc p.ti, onc p.ir, onc p.wo, onc p.ca, onc p.ke].getD k true) = R at *
  clear h h1 b0 a1 g1 k0 K0 KV CA hl
  go_enter Tryz.func19, Tryz.ntmps19
  go_wp2_with fail
  refine HA.out.mono ?_
  rintro e w5 ⟨rfl, B5⟩
  have HB5 : Hid (Below w.heap.size w w5) := HB1.out.trans (B5.mono HB1.out.size)
  clear B5 HA HB1 HH1 HK1 d6 d7 d8 d9 d10
  go_wp2
  go_ret
  exact ⟨rfl, HB5.out⟩

end Go.Proofs.YtfdmcbcomknebaaGreatDoor.Aud
