/- Contracts of the program's layers, as far as this claim needs them. -/
import Derived.Test.YtmkboahjkhkefaaGreatDoorQKnl
import Derived.Test.YtmkboahjkhkefaaGreatDoorQKkn
import Derived.Test.YtmkboahjkhkefaaGreatDoorRows
import Derived.WalkKit
import Derived.ProofKit
import Derived.OpenShut
import Derived.BigQuiet
import Derived.Deep.RegionHeld3
set_option linter.unusedVariables false
set_option linter.unusedSimpArgs false
namespace Go.Proofs.YtmkboahjkhkefaaGreatDoor.Krn
open Go.ChangeShapes Go.WideShapes Go.ChangeAt Go.RowKit
open Mm
set_option maxRecDepth 100000 in
set_option maxHeartbeats 16000000 in
theorem nil_walk (e0 e1 e2 e3 e4 : Int) (w : World) (ht : Tab w) (hs : 0 < w.heap.size) :
    Calls Tryz.prog 7 #[.agg #[.int .i64 e0, .int .i64 e1, .int .i64 e2, .int .u64 e3, .int .i64 e4]] w fun e w' => e = .returned (.bool true) ∧ Below w.heap.size w w' := by
  have KN : Hid (∀ u, Below w.heap.size w u → _) := fun u b => known_two u (tab_keep ht hs (Fr.of_below b) (by simp)) (by have := b.size; omega)
  have ND : Hid (∀ v, _) := fun v => nil_Do e0 e1 e2 e3 e4 v
  have B0 : Hid (Below w.heap.size w (w.alloc (.cells #[.int .i64 e0, .int .i64 e1, .int .i64 e2, .int .u64 e3, .int .i64 e4] 34))) := bel_new _ _
  clear ht hs
  have NCpus : Hid (∀ v, _) := fun v => nil_Cpus v
  have NOnline : Hid (∀ v, _) := fun v => nil_Online v
  have NActive : Hid (∀ v, _) := fun v => nil_Active v
  have NNow : Hid (∀ v, _) := fun v => nil_Now v
  have NOwner : Hid (∀ v, _) := fun v => nil_Owner v
  have NGov : Hid (∀ v, _) := fun v => nil_Gov v
  have NThreads : Hid (∀ v, _) := fun v => nil_Threads v
  have NQueues : Hid (∀ v, _) := fun v => nil_Queues v
  have NTimers : Hid (∀ v, _) := fun v => nil_Timers v
  have NIrqs : Hid (∀ v, _) := fun v => nil_Irqs v
  have NRoute : Hid (∀ v, _) := fun v => nil_Route v
  have NWorks : Hid (∀ v, _) := fun v => nil_Works v
  have NCalls : Hid (∀ v, _) := fun v => nil_Calls v
  have NObjects : Hid (∀ v, _) := fun v => nil_Objects v
  have NCounts : Hid (∀ v, _) := fun v => nil_Counts v
  have NDesk : Hid (∀ v, _) := fun v => nil_Desk v
  have NGate : Hid (∀ v, _) := fun v => nil_Gate v
  have NStop : Hid (∀ v, _) := fun v => nil_Stop v
  have NCores : Hid (∀ v, _) := fun v => nil_Cores v
  have NMeter : Hid (∀ v, _) := fun v => nil_Meter v
  go_enter Tryz.func7, Tryz.ntmps7
  go_wp2_with fail
  refine (ND.out _).mono ?_
  rintro e w1 ⟨rfl, b1⟩
  have B1 : Hid (Below w.heap.size w w1) := B0.out.trans (b1.mono B0.out.size)
  clear b1 B0
  go_wp2_with fail
  refine (NCpus.out _).mono ?_
  rintro e w2 ⟨rfl, b2⟩
  have B2 : Hid (Below w.heap.size w w2) := B1.out.trans (b2.mono B1.out.size)
  clear b2 B1 NCpus
  go_wp2_with fail
  refine (NOnline.out _).mono ?_
  rintro e w3 ⟨rfl, b3⟩
  have B3 : Hid (Below w.heap.size w w3) := B2.out.trans (b3.mono B2.out.size)
  clear b3 B2 NOnline
  go_wp2_with fail
  refine (NActive.out _).mono ?_
  rintro e w4 ⟨rfl, b4⟩
  have B4 : Hid (Below w.heap.size w w4) := B3.out.trans (b4.mono B3.out.size)
  clear b4 B3 NActive
  go_wp2_with fail
  refine (NNow.out _).mono ?_
  rintro e w5 ⟨rfl, b5⟩
  have B5 : Hid (Below w.heap.size w w5) := B4.out.trans (b5.mono B4.out.size)
  clear b5 B4 NNow
  go_wp2_with fail
  refine (NOwner.out _).mono ?_
  rintro e w6 ⟨rfl, b6⟩
  have B6 : Hid (Below w.heap.size w w6) := B5.out.trans (b6.mono B5.out.size)
  clear b6 B5 NOwner
  go_wp2_with fail
  refine (NGov.out _).mono ?_
  rintro e w7 ⟨rfl, b7⟩
  have B7 : Hid (Below w.heap.size w w7) := B6.out.trans (b7.mono B6.out.size)
  clear b7 B6 NGov
  go_wp2_with fail
  refine (NThreads.out _).mono ?_
  rintro e w8 ⟨rfl, b8⟩
  have B8 : Hid (Below w.heap.size w w8) := B7.out.trans (b8.mono B7.out.size)
  clear b8 B7 NThreads
  go_wp2_with fail
  refine (NQueues.out _).mono ?_
  rintro e w9 ⟨rfl, b9⟩
  have B9 : Hid (Below w.heap.size w w9) := B8.out.trans (b9.mono B8.out.size)
  clear b9 B8 NQueues
  go_wp2_with fail
  refine (NTimers.out _).mono ?_
  rintro e w10 ⟨rfl, b10⟩
  have B10 : Hid (Below w.heap.size w w10) := B9.out.trans (b10.mono B9.out.size)
  clear b10 B9 NTimers
  go_wp2_with fail
  refine (NIrqs.out _).mono ?_
  rintro e w11 ⟨rfl, b11⟩
  have B11 : Hid (Below w.heap.size w w11) := B10.out.trans (b11.mono B10.out.size)
  clear b11 B10 NIrqs
  go_wp2_with fail
  refine (NRoute.out _).mono ?_
  rintro e w12 ⟨rfl, b12⟩
  have B12 : Hid (Below w.heap.size w w12) := B11.out.trans (b12.mono B11.out.size)
  clear b12 B11 NRoute
  go_wp2_with fail
  refine (NWorks.out _).mono ?_
  rintro e w13 ⟨rfl, b13⟩
  have B13 : Hid (Below w.heap.size w w13) := B12.out.trans (b13.mono B12.out.size)
  clear b13 B12 NWorks
  go_wp2_with fail
  refine (NCalls.out _).mono ?_
  rintro e w14 ⟨rfl, b14⟩
  have B14 : Hid (Below w.heap.size w w14) := B13.out.trans (b14.mono B13.out.size)
  clear b14 B13 NCalls
  go_wp2_with fail
  refine (NObjects.out _).mono ?_
  rintro e w15 ⟨rfl, b15⟩
  have B15 : Hid (Below w.heap.size w w15) := B14.out.trans (b15.mono B14.out.size)
  clear b15 B14 NObjects
  go_wp2_with fail
  refine (NCounts.out _).mono ?_
  rintro e w16 ⟨rfl, b16⟩
  have B16 : Hid (Below w.heap.size w w16) := B15.out.trans (b16.mono B15.out.size)
  clear b16 B15 NCounts
  go_wp2_with fail
  refine (NDesk.out _).mono ?_
  rintro e w17 ⟨rfl, b17⟩
  have B17 : Hid (Below w.heap.size w w17) := B16.out.trans (b17.mono B16.out.size)
  clear b17 B16 NDesk
  go_wp2_with fail
  refine (NGate.out _).mono ?_
  rintro e w18 ⟨rfl, b18⟩
  have B18 : Hid (Below w.heap.size w w18) := B17.out.trans (b18.mono B17.out.size)
  clear b18 B17 NGate
  go_wp2_with fail
  refine (NStop.out _).mono ?_
  rintro e w19 ⟨rfl, b19⟩
  have B19 : Hid (Below w.heap.size w w19) := B18.out.trans (b19.mono B18.out.size)
  clear b19 B18 NStop
  go_wp2_with fail
  refine (NCores.out _).mono ?_
  rintro e w20 ⟨rfl, b20⟩
  have B20 : Hid (Below w.heap.size w w20) := B19.out.trans (b20.mono B19.out.size)
  clear b20 B19 NCores
  go_wp2_with fail
  refine (NMeter.out _).mono ?_
  rintro e w21 ⟨rfl, b21⟩
  have B21 : Hid (Below w.heap.size w w21) := B20.out.trans (b21.mono B20.out.size)
  clear b21 B20 NMeter
  go_wp2_with fail
  refine (KN.out _ B21.out).mono ?_
  rintro e u3 ⟨rfl, b3⟩
  go_wp2
  go_ret
  exact ⟨rfl, B21.out.trans (b3.mono B21.out.size)⟩
end Go.Proofs.YtmkboahjkhkefaaGreatDoor.Krn
