import Derived.Test.YtdlhlfpigcgapaaGreatDoorAZal
import Derived.Test.YtdlhlfpigcgapaaGreatDoorAXb
import Derived.LaidMore
import Derived.Stop.Joined
set_option maxRecDepth 100000
set_option maxHeartbeats 16000000
set_option linter.unusedVariables false
set_option linter.unusedSimpArgs false
set_option linter.defProp false
namespace Go.Proofs.YtdlhlfpigcgapaaGreatDoor
open Go.Proofs.Tryz
open Go.ChangeShapes Go.WideShapes Go.ChangeAt Go.WideMaps Go.WideElems Go.RowKit
open Mm
theorem own:ownKnob prog.godebug=none:=by kernel_rfl
theorem laidOut:laidOutB prog=true:=by kernel_rfl
theorem gTab:prog.globalNamed "math/bits.deBruijn64tab" = some 0:=by kernel_rfl
theorem tTab:(prog.globals[0]?).map (·.type)=some 314:=by kernel_rfl
def laidTab:List (String×DataW Unit):=[("math/bits.deBruijn64tab",Rows.laid_math_bits_deBruijn64tab)]
theorem tab_data:(Rows.laid_math_bits_deBruijn64tab:DataW Unit)=.agg (tab.map λn:Nat=>.lit (.int .u8 (n:Int))):=rfl
theorem door_met (os:Os) (args:Array Value):laidMetH prog laidTab ((World.doorLaid prog 400 os).forCall (λ_ _=>0) ⟨#[],args,[]⟩).memory:=
 laidMetH_of_parts3 (fuel:=8) (laidMet_of_run' 8 (by kernel_rfl) (by kernel_rfl)) (by kernel_rfl) (by kernel_rfl)
theorem of_laid {W:World} (h:laidMetH prog laidTab W):A9 W/\0<W.heap.size:=by
 rw [MakeChecks.laidMetH_plain _ _ _ (by kernel_rfl)] at h
 obtain ⟨ps,⟨g0,t0,cs0,f0,p0,q0,hg0,ht0,hv0,hd0,_,_⟩,_,_⟩:=h
 obtain rfl:=AHq (gTab.symm.trans hg0)
 obtain rfl:=AHq (tTab.symm.trans ht0)
 rw [tab_data] at hd0
 obtain ⟨xs,m1,rfl,hx1,hlen,hn3,hel⟩:=DataW.trod_array underlying314 hd0
 have c5:prog.cellsOf 5=1:=by kernel_rfl
 have hm:tab.map (λn:Nat=>(DataW.lit (Lit.int .u8 (n:Int)):DataW Unit))=xs.map λx=>x.1:=by
  simp only [AEj,DataW.agg.injEq] at hx1
  exact hx1.1
 have hT:A9 W:=by
  intro i hi
  have h1:=hel i hi
  have hx:xs[i]?=some xs[i]:=ADZ (by omega)
  rw [hx,c5,AEx] at h1
  obtain ⟨k,e1,e2,_⟩:=DataW.trod_int underlying5 h1
  have h2:(xs.map λx=>x.1)[i]?=some (DataW.lit (Lit.int .u8 k)):=by
   rw [ADn,hx,e2]
   rfl
  rw [<- hm,ADn] at h2
  have h3:tab[i]?=some tab[i]:=ADZ (by simpa [tab] using hi)
  rw [h3] at h2
  have h4:((tab[i]:Nat):Int)=k:=by
   have:=AHq h2
   simpa using this
  have h5:cs0[i]?=some (.int .u8 k):=by
   have h7:=AHo (λl:List Value=>l[0]?) e1
   simpa [ADm,AE0] using h7
  have h6:=World.var?_cell hg0 hv0 i
  rw [h5] at h6
  rw [ADY,h3]
  rw [AEc,h4]
  simpa using h6
 refine ⟨hT,?_⟩
 exact World.block_lt_of_cell? W _ (hT 0 (by omega))
end Go.Proofs.YtdlhlfpigcgapaaGreatDoor
