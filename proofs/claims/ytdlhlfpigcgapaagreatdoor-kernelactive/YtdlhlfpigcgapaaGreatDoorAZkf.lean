import Derived.Test.YtdlhlfpigcgapaaGreatDoorAZal
import Derived.Test.YtdlhlfpigcgapaaGreatDoorAZkb
set_option maxRecDepth 100000
set_option maxHeartbeats 16000000
set_option linter.unusedVariables false
set_option linter.unusedSimpArgs false
set_option linter.defProp false
namespace Go.Proofs.YtdlhlfpigcgapaaGreatDoor.Krn
open Go.Proofs.Tryz
open Go.ChangeShapes Go.WideShapes Go.ChangeAt Go.RowKit
open Mm
variable {t:TypeId} {b:Nat} {v0 v1 v2 v3 v4 v5 v6 v7 v8:Value}
abbrev oF0:Oper:=⟨some 13,.move (.tmp 0),23, "step.go:38",#[],none⟩
abbrev oF1:Oper:=⟨some 14,.nilCheck (.tmp 13),0, "step.go:38",#[⟨0,.data⟩],none⟩
abbrev oF2:Oper:=⟨some 15,.fieldAddr 68 (.tmp 14) 0,0, "step.go:38",#[⟨1,.data⟩],none⟩
abbrev oF3:Oper:=⟨some 16,.fieldAddr 66 (.tmp 15) 14,0, "step.go:38",#[⟨2,.data⟩],none⟩
abbrev oF4:Oper:=⟨some 17,.load 61 (.tmp 16),61, "step.go:38",#[⟨3,.data⟩],none⟩
abbrev oF5:Oper:=⟨some 18,.move (.tmp 1),3, "step.go:38",#[],none⟩
abbrev oF6:Oper:=⟨some 19,.call { callee:=Callee.value (.func 109),args:=#[.tmp 17,.tmp 18],argTypes:=#[61,3] },4, "step.go:39",#[⟨4,.data⟩,⟨5,.data⟩],none⟩
abbrev oF7:Oper:=⟨some 20,.move (.tmp 0),23, "step.go:38",#[],none⟩
abbrev oF8:Oper:=⟨some 21,.nilCheck (.tmp 20),0, "step.go:38",#[⟨7,.data⟩],none⟩
abbrev oF9:Oper:=⟨some 22,.fieldAddr 68 (.tmp 21) 0,0, "step.go:38",#[⟨8,.data⟩],none⟩
abbrev zI:Oper:=⟨some 23,.fieldAddr 66 (.tmp 22) 14,0, "step.go:38",#[⟨9,.data⟩],none⟩
abbrev zJ:Oper:=⟨some 24,.load 61 (.tmp 23),61, "step.go:38",#[⟨10,.data⟩],none⟩
abbrev zK:Oper:=⟨some 25,.move (.tmp 1),3, "step.go:38",#[],none⟩
abbrev zL:Oper:=⟨some 26,.call { callee:=Callee.value (.func 110),args:=#[.tmp 24,.tmp 25],argTypes:=#[61,3] },4, "step.go:40",#[⟨11,.data⟩,⟨12,.data⟩,⟨6,.chain⟩],none⟩
abbrev zM:Oper:=⟨some 27,.move (.tmp 0),23, "step.go:38",#[],none⟩
abbrev zN:Oper:=⟨some 28,.nilCheck (.tmp 27),0, "step.go:38",#[⟨14,.data⟩],none⟩
abbrev zO:Oper:=⟨some 29,.fieldAddr 68 (.tmp 28) 0,0, "step.go:38",#[⟨15,.data⟩],none⟩
abbrev zP:Oper:=⟨some 30,.fieldAddr 66 (.tmp 29) 12,0, "step.go:38",#[⟨16,.data⟩],none⟩
abbrev zQ:Oper:=⟨some 31,.load 46 (.tmp 30),46, "step.go:38",#[⟨17,.data⟩],none⟩
abbrev zR:Oper:=⟨some 32,.call { callee:=Callee.value (.func 22),args:=#[.tmp 31],argTypes:=#[46] },4, "step.go:41",#[⟨18,.data⟩,⟨13,.chain⟩],none⟩
abbrev zS:Oper:=⟨some 33,.move (.tmp 32),4, "step.go:38",#[⟨19,.data⟩,⟨19,.chain⟩],none⟩
abbrev zT:Oper:=⟨some 34,.move (.tmp 0),23, "step.go:38",#[⟨20,.guard⟩],some (20,true)⟩
abbrev zU:Oper:=⟨some 35,.nilCheck (.tmp 34),0, "step.go:38",#[⟨21,.data⟩,⟨20,.guard⟩],some (20,true)⟩
abbrev zV:Oper:=⟨some 36,.fieldAddr 68 (.tmp 35) 0,0, "step.go:38",#[⟨22,.data⟩,⟨20,.guard⟩],some (20,true)⟩
abbrev zW:Oper:=⟨some 37,.fieldAddr 66 (.tmp 36) 12,0, "step.go:38",#[⟨23,.data⟩,⟨20,.guard⟩],some (20,true)⟩
abbrev zX:Oper:=⟨some 38,.load 46 (.tmp 37),46, "step.go:38",#[⟨24,.data⟩,⟨20,.guard⟩],some (20,true)⟩
abbrev zY:Oper:=⟨some 39,.call { callee:=Callee.value (.func 111),args:=#[.tmp 38],argTypes:=#[46] },3, "step.go:41",#[⟨25,.data⟩,⟨20,.chain⟩,⟨20,.guard⟩],some (20,true)⟩
abbrev zZ:Oper:=⟨some 40,.move (.tmp 1),3, "step.go:38",#[⟨20,.guard⟩],some (20,true)⟩
abbrev AAA:Oper:=⟨some 41,.binOp BinOp.eql 3 (.tmp 39) (.tmp 40) 3,4, "step.go:38",#[⟨26,.data⟩,⟨27,.data⟩,⟨20,.guard⟩],some (20,true)⟩
abbrev AAB:Oper:=⟨some 42,.pick (.tmp 33) (.tmp 41) (.const (Value.bool false)),4, "step.go:38",#[⟨20,.data⟩,⟨28,.data⟩],none⟩
abbrev AAC:Oper:=⟨some 43,.move (.tmp 0),23, "step.go:38",#[],none⟩
abbrev AAD:Oper:=⟨some 44,.nilCheck (.tmp 43),0, "step.go:38",#[⟨30,.data⟩],none⟩
abbrev AAE:Oper:=⟨some 45,.fieldAddr 68 (.tmp 44) 0,0, "step.go:38",#[⟨31,.data⟩],none⟩
abbrev AAF:Oper:=⟨some 46,.fieldAddr 66 (.tmp 45) 1,0, "step.go:38",#[⟨32,.data⟩],none⟩
abbrev AAG:Oper:=⟨some 47,.load 29 (.tmp 46),29, "step.go:38",#[⟨33,.data⟩],none⟩
abbrev AAH:Oper:=⟨some 48,.move (.tmp 1),3, "step.go:38",#[],none⟩
abbrev AAI:Oper:=⟨some 49,.call { callee:=Callee.value (.func 12),args:=#[.tmp 47,.tmp 48],argTypes:=#[29,3] },4, "step.go:42",#[⟨34,.data⟩,⟨35,.data⟩,⟨26,.chain⟩],none⟩
abbrev AAJ:Oper:=⟨some 50,.move (.tmp 0),23, "step.go:38",#[],none⟩
abbrev AAK:Oper:=⟨some 51,.nilCheck (.tmp 50),0, "step.go:38",#[⟨37,.data⟩],none⟩
abbrev AAL:Oper:=⟨some 52,.fieldAddr 68 (.tmp 51) 0,0, "step.go:38",#[⟨38,.data⟩],none⟩
abbrev AAM:Oper:=⟨some 53,.fieldAddr 66 (.tmp 52) 9,0, "step.go:38",#[⟨39,.data⟩],none⟩
abbrev AAN:Oper:=⟨some 54,.load 58 (.tmp 53),58, "step.go:38",#[⟨40,.data⟩],none⟩
abbrev AAO:Oper:=⟨some 55,.move (.tmp 1),3, "step.go:38",#[],none⟩
abbrev AAP:Oper:=⟨some 56,.call { callee:=Callee.value (.func 56),args:=#[.tmp 54,.tmp 55],argTypes:=#[58,3] },3, "step.go:43",#[⟨41,.data⟩,⟨42,.data⟩,⟨36,.chain⟩],none⟩
abbrev AAQ:Oper:=⟨some 57,.binOp BinOp.gtr 3 (.tmp 56) (.const (Value.int IntKind.i64 0)) 3,4, "step.go:38",#[⟨43,.data⟩],none⟩
abbrev AAR:Oper:=⟨some 58,.move (.tmp 6),4, "step.go:38",#[],none⟩
abbrev AAS:Oper:=⟨some 59,.move (.tmp 0),23, "step.go:38",#[],none⟩
abbrev AAT:Oper:=⟨some 60,.nilCheck (.tmp 59),0, "step.go:38",#[⟨46,.data⟩],none⟩
abbrev AAU:Oper:=⟨some 61,.fieldAddr 68 (.tmp 60) 0,0, "step.go:38",#[⟨47,.data⟩],none⟩
abbrev AAV:Oper:=⟨some 62,.fieldAddr 66 (.tmp 61) 5,0, "step.go:38",#[⟨48,.data⟩],none⟩
abbrev AAW:Oper:=⟨some 63,.load 54 (.tmp 62),54, "step.go:38",#[⟨49,.data⟩],none⟩
abbrev AAX:Oper:=⟨some 64,.move (.tmp 1),3, "step.go:38",#[],none⟩
abbrev AAY:Oper:=⟨some 65,.call { callee:=Callee.value (.func 112),args:=#[.tmp 63,.tmp 64],argTypes:=#[54,3] },4, "step.go:45",#[⟨50,.data⟩,⟨51,.data⟩,⟨43,.chain⟩],none⟩
abbrev AAZ:Oper:=⟨some 66,.move (.tmp 0),23, "step.go:38",#[],none⟩
abbrev AA0:Oper:=⟨some 67,.nilCheck (.tmp 66),0, "step.go:38",#[⟨53,.data⟩],none⟩
abbrev AA1:Oper:=⟨some 68,.fieldAddr 68 (.tmp 67) 0,0, "step.go:38",#[⟨54,.data⟩],none⟩
abbrev AA2:Oper:=⟨some 69,.fieldAddr 66 (.tmp 68) 8,0, "step.go:38",#[⟨55,.data⟩],none⟩
abbrev AA3:Oper:=⟨some 70,.load 57 (.tmp 69),57, "step.go:38",#[⟨56,.data⟩],none⟩
abbrev AA4:Oper:=⟨some 71,.move (.tmp 1),3, "step.go:38",#[],none⟩
abbrev AA5:Oper:=⟨some 72,.call { callee:=Callee.value (.func 54),args:=#[.tmp 70,.tmp 71],argTypes:=#[57,3] },3, "step.go:46",#[⟨57,.data⟩,⟨58,.data⟩,⟨52,.chain⟩],none⟩
abbrev AA6:Oper:=⟨some 73,.binOp BinOp.gtr 3 (.tmp 72) (.const (Value.int IntKind.i64 0)) 3,4, "step.go:38",#[⟨59,.data⟩],none⟩
abbrev AA7:Oper:=⟨some 74,.move (.tmp 73),4, "step.go:38",#[⟨60,.data⟩,⟨59,.chain⟩],none⟩
abbrev XP:Oper:=⟨some 75,.move (.tmp 0),23, "step.go:38",#[⟨61,.guard⟩],some (61,false)⟩
abbrev XQ:Oper:=⟨some 76,.nilCheck (.tmp 75),0, "step.go:38",#[⟨62,.data⟩,⟨61,.guard⟩],some (61,false)⟩
abbrev XR:Oper:=⟨some 77,.fieldAddr 68 (.tmp 76) 0,0, "step.go:38",#[⟨63,.data⟩,⟨61,.guard⟩],some (61,false)⟩
abbrev XS:Oper:=⟨some 78,.fieldAddr 66 (.tmp 77) 8,0, "step.go:38",#[⟨64,.data⟩,⟨61,.guard⟩],some (61,false)⟩
abbrev XT:Oper:=⟨some 79,.load 57 (.tmp 78),57, "step.go:38",#[⟨65,.data⟩,⟨61,.guard⟩],some (61,false)⟩
abbrev XU:Oper:=⟨some 80,.call { callee:=Callee.value (.func 54),args:=#[.tmp 79,.const (Value.int IntKind.i64 (-1))],argTypes:=#[57,3] },3, "step.go:46",#[⟨66,.data⟩,⟨61,.chain⟩,⟨61,.guard⟩],some (61,false)⟩
abbrev XV:Oper:=⟨some 81,.binOp BinOp.gtr 3 (.tmp 80) (.const (Value.int IntKind.i64 0)) 3,4, "step.go:38",#[⟨67,.data⟩,⟨61,.guard⟩],some (61,false)⟩
abbrev XW:Oper:=⟨some 82,.pick (.tmp 74) (.const (Value.bool true)) (.tmp 81),4, "step.go:38",#[⟨61,.data⟩,⟨68,.data⟩],none⟩
abbrev AA8:Oper:=⟨some 83,.move (.tmp 0),23, "step.go:38",#[],none⟩
abbrev AA9:Oper:=⟨some 84,.nilCheck (.tmp 83),0, "step.go:38",#[⟨70,.data⟩],none⟩
abbrev AAa:Oper:=⟨some 85,.fieldAddr 68 (.tmp 84) 0,0, "step.go:38",#[⟨71,.data⟩],none⟩
abbrev AAb:Oper:=⟨some 86,.fieldAddr 66 (.tmp 85) 4,0, "step.go:38",#[⟨72,.data⟩],none⟩
abbrev AAc:Oper:=⟨some 87,.load 53 (.tmp 86),53, "step.go:38",#[⟨73,.data⟩],none⟩
abbrev AAd:Oper:=⟨some 88,.move (.tmp 1),3, "step.go:38",#[],none⟩
abbrev XX:Oper:=⟨some 89,.call { callee:=Callee.value (.func 50),args:=#[.tmp 87,.tmp 88],argTypes:=#[53,3] },3, "step.go:47",#[⟨74,.data⟩,⟨75,.data⟩,⟨67,.chain⟩],none⟩
abbrev XY:Oper:=⟨some 90,.binOp BinOp.gtr 3 (.tmp 89) (.const (Value.int IntKind.i64 0)) 3,4, "step.go:38",#[⟨76,.data⟩],none⟩
abbrev XZ:Oper:=⟨some 91,.build 196 #[(0,.tmp 19),(1,.tmp 26),(2,.tmp 42),(3,.tmp 49),(4,.tmp 57),(5,.tmp 58),(6,.tmp 65),(7,.tmp 82),(8,.tmp 90)],196, "step.go:38",#[⟨6,.data⟩,⟨13,.data⟩,⟨29,.data⟩,⟨36,.data⟩,⟨44,.data⟩,⟨45,.data⟩,⟨52,.data⟩,⟨69,.data⟩,⟨77,.data⟩],none⟩
abbrev Xa:Oper:=⟨none,.store 196 (.tmp 4) (.tmp 91),0, "step.go:38",#[⟨78,.data⟩,⟨76,.chain⟩,⟨0,.phase⟩,⟨1,.phase⟩,⟨2,.phase⟩,⟨3,.phase⟩,⟨4,.phase⟩,⟨5,.phase⟩,⟨6,.phase⟩,⟨7,.phase⟩,⟨8,.phase⟩,⟨9,.phase⟩,⟨10,.phase⟩,⟨11,.phase⟩,⟨12,.phase⟩,⟨13,.phase⟩,⟨14,.phase⟩,⟨15,.phase⟩,⟨16,.phase⟩,⟨17,.phase⟩,⟨18,.phase⟩,⟨19,.phase⟩,⟨20,.phase⟩,⟨21,.phase⟩,⟨22,.phase⟩,⟨23,.phase⟩,⟨24,.phase⟩,⟨25,.phase⟩,⟨26,.phase⟩,⟨27,.phase⟩,⟨28,.phase⟩,⟨29,.phase⟩,⟨30,.phase⟩,⟨31,.phase⟩,⟨32,.phase⟩,⟨33,.phase⟩,⟨34,.phase⟩,⟨35,.phase⟩,⟨36,.phase⟩,⟨37,.phase⟩,⟨38,.phase⟩,⟨39,.phase⟩,⟨40,.phase⟩,⟨41,.phase⟩,⟨42,.phase⟩,⟨43,.phase⟩,⟨44,.phase⟩,⟨45,.phase⟩,⟨46,.phase⟩,⟨47,.phase⟩,⟨48,.phase⟩,⟨49,.phase⟩,⟨50,.phase⟩,⟨51,.phase⟩,⟨52,.phase⟩,⟨53,.phase⟩,⟨54,.phase⟩,⟨55,.phase⟩,⟨56,.phase⟩,⟨57,.phase⟩,⟨58,.phase⟩,⟨59,.phase⟩,⟨60,.phase⟩,⟨61,.phase⟩,⟨62,.phase⟩,⟨63,.phase⟩,⟨64,.phase⟩,⟨65,.phase⟩,⟨66,.phase⟩,⟨67,.phase⟩,⟨68,.phase⟩,⟨69,.phase⟩,⟨70,.phase⟩,⟨71,.phase⟩,⟨72,.phase⟩,⟨73,.phase⟩,⟨74,.phase⟩,⟨75,.phase⟩,⟨76,.phase⟩,⟨77,.phase⟩,⟨78,.phase⟩],none⟩
section
variable {B:Nat} {w0:World} {A:List (Nat×List Value×TypeId)} {a:KA} {m m':Nat} {S S':KS} {w w':World}
def K9 {z:Nat} {x:Cor.Co.Fl} {tmps:Array Value} (h:AB w z [.bool x.stop,.bool x.held,.bool x.hot,.bool x.act,.bool x.call,.bool x.irq,.bool x.timer,.bool x.work,.bool x.thr] 196) (h2:tmps.getD 4 undef=.pointer (some ⟨z,0,none⟩)):
 (results Tryz.f72 tmps).run prog w=.ok (Cor.IM x) w:=by
 have q:=h.cell
 rw [Hg (p:=4) (ty:=196) rfl,h2]
 simp [go_sem,q 0,q 1,q 2,q 3,q 4,q 5,q 6,q 7,q 8,Cor.IM]
def KX.nine (h:KX B w0 ((b,[v0,v1,v2,v3,v4,v5,v6,v7,v8],t)::A) a m S w):(∀ j,w.frozen? ⟨b,j,none⟩=false)/\w.cell? ⟨b,0,none⟩=some v0/\w.cell? ⟨b,1,none⟩=some v1/\w.cell? ⟨b,2,none⟩=some v2/\w.cell? ⟨b,3,none⟩=some v3/\w.cell? ⟨b,4,none⟩=some v4/\w.cell? ⟨b,5,none⟩=some v5/\w.cell? ⟨b,6,none⟩=some v6/\w.cell? ⟨b,7,none⟩=some v7/\w.cell? ⟨b,8,none⟩=some v8:=
 ⟨h.AC.free,h.AC.cell 0,h.AC.cell 1,h.AC.cell 2,h.AC.cell 3,h.AC.cell 4,h.AC.cell 5,h.AC.cell 6,h.AC.cell 7,h.AC.cell 8⟩
def KX.Xb (h:KX B w0 ((b,[v0,v1,v2,v3,v4,v5,v6,v7,v8],t)::A) a m S w) (ne:∀ x∈A,x.1≠b) (hb:B<=b) (u0 u1 u2 u3 u4 u5 u6 u7 u8:Value):KX B w0 ((b,[u0,u1,u2,u3,u4,u5,u6,u7,u8],t)::A) a m S (((((((((w.setCell ⟨b,0,none⟩ u0).setCell ⟨b,1,none⟩ u1).setCell ⟨b,2,none⟩ u2).setCell ⟨b,3,none⟩ u3).setCell ⟨b,4,none⟩ u4).setCell ⟨b,5,none⟩ u5).setCell ⟨b,6,none⟩ u6).setCell ⟨b,7,none⟩ u7).setCell ⟨b,8,none⟩ u8):=((((((((h.AH ne hb 0 u0).AH ne hb 1 u1).AH ne hb 2 u2).AH ne hb 3 u3).AH ne hb 4 u4).AH ne hb 5 u5).AH ne hb 6 u6).AH ne hb 7 u7).AH ne hb 8 u8
def jB (h:KX B w0 A a m S w) (c:Int) (hR:S.R.isSome=false):
 Calls prog 72 #[.pointer (some ⟨a.k,0,none⟩),.int .i64 (c)] w λe w'=>e=.returned (Cor.IM (flags a.n S c))/\KX B w0 A a m S w':=by
 have ne:∀ x∈A,x.1≠w.heap.size:=λx hx=>by have:=(h.bx x hx).lt;omega
 have hac:=h.kb.2.2
 have h0:=h.new [.bool false,.bool false,.bool false,.bool false,.bool false,.bool false,.bool false,.bool false,.bool false] 196
 have CR:Hid (∀ _:Unit,_):=λ_=>Oy h0 c
 have C6:Hid (∀ v,KX B w0 ((w.heap.size,[.bool false,.bool false,.bool false,.bool false,.bool false,.bool false,.bool false,.bool false,.bool false],196)::A) a m S v->_):=λv k=>Vd k c
 have C13:Hid (∀ v,KX B w0 ((w.heap.size,[.bool false,.bool false,.bool false,.bool false,.bool false,.bool false,.bool false,.bool false,.bool false],196)::A) a m S v->_):=λv k=>Ve k c
 have C19:Hid (∀ v,KX B w0 ((w.heap.size,[.bool false,.bool false,.bool false,.bool false,.bool false,.bool false,.bool false,.bool false,.bool false],196)::A) a m S v->_):=λv k=>Ov k
 have C26:Hid (∀ v,KX B w0 ((w.heap.size,[.bool false,.bool false,.bool false,.bool false,.bool false,.bool false,.bool false,.bool false,.bool false],196)::A) a m S v->_):=λv k=>Qr k
 have C43:Hid (∀ v,KX B w0 ((w.heap.size,[.bool false,.bool false,.bool false,.bool false,.bool false,.bool false,.bool false,.bool false,.bool false],196)::A) a m S v->_):=λv k=>Va k c
 have C52:Hid (∀ v,KX B w0 ((w.heap.size,[.bool false,.bool false,.bool false,.bool false,.bool false,.bool false,.bool false,.bool false,.bool false],196)::A) a m S v->_):=λv k=>Sv k c
 have C59:Hid (∀ v,KX B w0 ((w.heap.size,[.bool false,.bool false,.bool false,.bool false,.bool false,.bool false,.bool false,.bool false,.bool false],196)::A) a m S v->_):=λv k=>K5 k c
 have C67:Hid (∀ v,KX B w0 ((w.heap.size,[.bool false,.bool false,.bool false,.bool false,.bool false,.bool false,.bool false,.bool false,.bool false],196)::A) a m S v->_):=λv k=>K5 k (-1)
 have C76:Hid (∀ v,KX B w0 ((w.heap.size,[.bool false,.bool false,.bool false,.bool false,.bool false,.bool false,.bool false,.bool false,.bool false],196)::A) a m S v->_):=λv k=>K4 k c
 have C36:Hid (∀ v,_):=λv=>As S.ac c v hac
 unfold flags
 generalize (Bh S c).isSome=b5 at *
 generalize (Bh S c).getD 0=r0 at *
 generalize tb S.sl c=b0 at *
 generalize tb S.sh c=b1 at *
 generalize tb S.ac c=b3 at *
 generalize Tim.U0 a.n S.now S.t c=b6 at *
 rw [show decide (0<(Cm.LP S.cl c).length)=decide ((0:Int)<((Cm.LP S.cl c).length:Int)) from AHp.2 (by omega),show decide (0<(Cm.E4 a.n S.wk c).length)=decide ((0:Int)<((Cm.E4 a.n S.wk c).length:Int)) from AHp.2 (by omega),show decide (0<(Cm.E4 a.n S.wk (-1)).length)=decide ((0:Int)<((Cm.E4 a.n S.wk (-1)).length:Int)) from AHp.2 (by omega)]
 generalize ((Cm.LP S.cl c).length:Int)=n4 at *
 generalize ((Cm.E4 a.n S.wk c).length:Int)=n7 at *
 generalize ((Cm.E4 a.n S.wk (-1)).length:Int)=n8 at *
 generalize Rqu.Bs a.n S.q c=n9 at *
 generalize Hp.cos S.R=co at *
 generalize S.R.isSome=ib at *
 subst hR
 generalize hb4:decide ((0:Int)<n4)=b4
 generalize hb9:decide ((0:Int)<n9)=b9
 generalize hb2:(co==c)=b2
 generalize hb7:decide ((0:Int)<n7)=b7
 generalize hb8:decide ((0:Int)<n8)=b8
 obtain ⟨V,hV⟩:∃ V,Cor.IM ⟨b0,b1,false&&b2,b3,b4,b5,b6,b7 || b8,b9⟩=V:=⟨_,rfl⟩
 have E:Hid (∀ x y,(false&&b2)=x->(b7 || b8)=y->Cor.IM ⟨b0,b1,x,b3,b4,b5,b6,y,b9⟩=V):=λx y hx hy=>by rw [<- hx,<- hy];exact hV
 rw [hV]
 clear hV
 go_enter func72,ntmps72
 go_wp2_with fail
 refine (CR.out ()).mono ?_
 rintro e w1 ⟨rfl,h1⟩
 go_wp2_with fail
 simp only [List.append]
 refine Hf [79] (λw'=>w'.cell? ⟨a.k,14,none⟩=some (.pointer (some ⟨a.st,0,none⟩))/\w'.cell? ⟨a.k,12,none⟩=some (.pointer (some ⟨a.dk,0,none⟩))/\w'.cell? ⟨a.k,1,none⟩=some (.int .u64 (S.ac:Int))/\w'.cell? ⟨a.k,9,none⟩=some (.pointer (some ⟨a.cl+3,0,none⟩))/\w'.cell? ⟨a.k,5,none⟩=some (.pointer (some ⟨a.tm,0,none⟩))/\w'.cell? ⟨a.k,8,none⟩=some (.pointer (some ⟨a.wk+6,0,none⟩))/\w'.cell? ⟨a.k,4,none⟩=some (.pointer (some ⟨a.rq+2,0,none⟩))) (by kernel_rfl) (by exact ⟨h1.drew.Ba,h1.drew.AN,h1.drew.c1,h1.drew.c9,h1.drew.c5,h1.drew.c8,h1.drew.c4⟩) (λhHeld=>?_)
 refine pK 0 oF0 hHeld ?_
 refine pK 1 oF1 hHeld ?_
 refine pK 2 oF2 hHeld ?_
 refine pK 3 oF3 hHeld ?_
 refine tK 4 oF4 hHeld ?_
 refine pK 5 oF5 hHeld ?_
 refine pK 7 oF7 hHeld ?_
 refine pK 8 oF8 hHeld ?_
 refine pK 9 oF9 hHeld ?_
 refine pK 10 zI hHeld ?_
 refine tK 11 zJ hHeld ?_
 refine pK 12 zK hHeld ?_
 refine pK 14 zM hHeld ?_
 refine pK 15 zN hHeld ?_
 refine pK 16 zO hHeld ?_
 refine pK 17 zP hHeld ?_
 refine tK 18 zQ hHeld ?_
 refine pK 30 AAC hHeld ?_
 refine pK 31 AAD hHeld ?_
 refine pK 32 AAE hHeld ?_
 refine pK 33 AAF hHeld ?_
 refine tK 34 AAG hHeld ?_
 refine pK 35 AAH hHeld ?_
 refine pK 37 AAJ hHeld ?_
 refine pK 38 AAK hHeld ?_
 refine pK 39 AAL hHeld ?_
 refine pK 40 AAM hHeld ?_
 refine tK 41 AAN hHeld ?_
 refine pK 42 AAO hHeld ?_
 refine pK 45 AAR hHeld ?_
 refine pK 46 AAS hHeld ?_
 refine pK 47 AAT hHeld ?_
 refine pK 48 AAU hHeld ?_
 refine pK 49 AAV hHeld ?_
 refine tK 50 AAW hHeld ?_
 refine pK 51 AAX hHeld ?_
 refine pK 53 AAZ hHeld ?_
 refine pK 54 AA0 hHeld ?_
 refine pK 55 AA1 hHeld ?_
 refine pK 56 AA2 hHeld ?_
 refine tK 57 AA3 hHeld ?_
 refine pK 58 AA4 hHeld ?_
 refine pK 70 AA8 hHeld ?_
 refine pK 71 AA9 hHeld ?_
 refine pK 72 AAa hHeld ?_
 refine pK 73 AAb hHeld ?_
 refine tK 74 AAc hHeld ?_
 refine pK 75 AAd hHeld ?_
 refine cK 6 oF6 (C6.out _ (h1.sm ⟨rfl,rfl,rfl,rfl⟩)) (λ_ h=>⟨h.Ba,h.AN,h.c1,h.c9,h.c5,h.c8,h.c4⟩) λw2 h2 hHeld=>?_
 refine cK 13 zL (C13.out _ (h2.sm ⟨rfl,rfl,rfl,rfl⟩)) (λ_ h=>⟨h.Ba,h.AN,h.c1,h.c9,h.c5,h.c8,h.c4⟩) λw3 h3 hHeld=>?_
 refine cK 19 zR (C19.out _ (h3.sm ⟨rfl,rfl,rfl,rfl⟩)) (λ_ h=>⟨h.Ba,h.AN,h.c1,h.c9,h.c5,h.c8,h.c4⟩) λw4 h4 hHeld=>?_
 refine pK 20 zS hHeld ?_
 refine xK 21 zT hHeld ?_
 refine xK 22 zU hHeld ?_
 refine xK 23 zV hHeld ?_
 refine xK 24 zW hHeld ?_
 refine xK 25 zX hHeld ?_
 refine xK 26 zY hHeld ?_
 refine xK 27 zZ hHeld ?_
 refine xK 28 AAA hHeld ?_
 refine pK 29 AAB hHeld ?_
 refine cK 36 AAI (C36.out _) (λ_ e=>e ▸ hHeld) λw' e hHeld=>?_
 subst e
 refine cK 43 AAP (C43.out _ (h4.sm ⟨rfl,rfl,rfl,rfl⟩)) (λ_ h=>⟨h.Ba,h.AN,h.c1,h.c9,h.c5,h.c8,h.c4⟩) λw5 h5 hHeld=>?_
 refine pK 44 AAQ hHeld ?_
 refine cK 52 AAY (C52.out _ (h5.sm ⟨rfl,rfl,rfl,rfl⟩)) (λ_ h=>⟨h.Ba,h.AN,h.c1,h.c9,h.c5,h.c8,h.c4⟩) λw6 h6 hHeld=>?_
 refine cK 59 AA5 (C59.out _ (h6.sm ⟨rfl,rfl,rfl,rfl⟩)) (λ_ h=>⟨h.Ba,h.AN,h.c1,h.c9,h.c5,h.c8,h.c4⟩) λw7 h7 hHeld=>?_
 refine pK 60 AA6 hHeld ?_
 refine pK 61 AA7 hHeld ?_
 cases b7 with
 | false=>
  refine pK 62 XP hHeld ?_
  refine pK 63 XQ hHeld ?_
  refine pK 64 XR hHeld ?_
  refine pK 65 XS hHeld ?_
  refine tK 66 XT hHeld ?_
  refine cK 67 XU (C67.out _ (h7.sm ⟨rfl,rfl,rfl,rfl⟩)) (λ_ h=>⟨h.Ba,h.AN,h.c1,h.c9,h.c5,h.c8,h.c4⟩) λw8 h8 hHeld=>?_
  refine pK 68 XV hHeld ?_
  refine pK 69 XW hHeld ?_
  refine cK 76 XX (C76.out _ (h8.sm ⟨rfl,rfl,rfl,rfl⟩)) (λ_ h=>⟨h.Ba,h.AN,h.c1,h.c9,h.c5,h.c8,h.c4⟩) λw9 h9 hHeld=>?_
  refine pK 77 XY hHeld ?_
  refine pK 78 XZ hHeld ?_
  obtain ⟨fz,x0,x1,x2,x3,x4,x5,x6,x7,x8⟩:=h9.nine
  refine AV (i:=79) (by kernel_rfl) (Bu (o:=Xa) rfl (λK hK=>?_))
  go_simp
  (try go_wp2_with fail)
  refine hK.out _ _ (λhU=>absurd hU (BK (by kernel_rfl))) (λhHeld=>?_)
  clear hHeld hK K
  try simp only [Act.put,AD1,AD5,AD2]
  refine B6 (by kernel_rfl) ?_ _
  go_wp2
  have H:=h9.Xb ne h.sz (.bool b0) (.bool b1) (.bool false) (.bool b3) (.bool b4) (.bool b5) (.bool b6) (.bool b8) (.bool b9)
  exact bodyPost_ret (K9 (x:=⟨b0,b1,false,b3,b4,b5,b6,b8,b9⟩) H.AC rfl) rfl ⟨AHo Ending.returned (E.out _ _ rfl rfl),H.drop⟩
 | true=>
  refine xK 62 XP hHeld ?_
  refine xK 63 XQ hHeld ?_
  refine xK 64 XR hHeld ?_
  refine xK 65 XS hHeld ?_
  refine xK 66 XT hHeld ?_
  refine xK 67 XU hHeld ?_
  refine xK 68 XV hHeld ?_
  refine pK 69 XW hHeld ?_
  refine cK 76 XX (C76.out _ (h7.sm ⟨rfl,rfl,rfl,rfl⟩)) (λ_ h=>⟨h.Ba,h.AN,h.c1,h.c9,h.c5,h.c8,h.c4⟩) λw8 h8 hHeld=>?_
  refine pK 77 XY hHeld ?_
  refine pK 78 XZ hHeld ?_
  obtain ⟨fz,x0,x1,x2,x3,x4,x5,x6,x7,x8⟩:=h8.nine
  refine AV (i:=79) (by kernel_rfl) (Bu (o:=Xa) rfl (λK hK=>?_))
  go_simp
  (try go_wp2_with fail)
  refine hK.out _ _ (λhU=>absurd hU (BK (by kernel_rfl))) (λhHeld=>?_)
  clear hHeld hK K
  try simp only [Act.put,AD1,AD5,AD2]
  refine B6 (by kernel_rfl) ?_ _
  go_wp2
  have H:=h8.Xb ne h.sz (.bool b0) (.bool b1) (.bool false) (.bool b3) (.bool b4) (.bool b5) (.bool b6) (.bool true) (.bool b9)
  exact bodyPost_ret (K9 (x:=⟨b0,b1,false,b3,b4,b5,b6,true,b9⟩) H.AC rfl) rfl ⟨AHo Ending.returned (E.out _ _ rfl rfl),H.drop⟩
def jC (h:KX B w0 A a m S w) (c:Int) (hR:S.R.isSome=true):
 Calls prog 72 #[.pointer (some ⟨a.k,0,none⟩),.int .i64 (c)] w λe w'=>e=.returned (Cor.IM (flags a.n S c))/\KX B w0 A a m S w':=by
 have ne:∀ x∈A,x.1≠w.heap.size:=λx hx=>by have:=(h.bx x hx).lt;omega
 have hac:=h.kb.2.2
 have h0:=h.new [.bool false,.bool false,.bool false,.bool false,.bool false,.bool false,.bool false,.bool false,.bool false] 196
 have CR:Hid (∀ _:Unit,_):=λ_=>Oy h0 c
 have C6:Hid (∀ v,KX B w0 ((w.heap.size,[.bool false,.bool false,.bool false,.bool false,.bool false,.bool false,.bool false,.bool false,.bool false],196)::A) a m S v->_):=λv k=>Vd k c
 have C13:Hid (∀ v,KX B w0 ((w.heap.size,[.bool false,.bool false,.bool false,.bool false,.bool false,.bool false,.bool false,.bool false,.bool false],196)::A) a m S v->_):=λv k=>Ve k c
 have C19:Hid (∀ v,KX B w0 ((w.heap.size,[.bool false,.bool false,.bool false,.bool false,.bool false,.bool false,.bool false,.bool false,.bool false],196)::A) a m S v->_):=λv k=>Ov k
 have C26:Hid (∀ v,KX B w0 ((w.heap.size,[.bool false,.bool false,.bool false,.bool false,.bool false,.bool false,.bool false,.bool false,.bool false],196)::A) a m S v->_):=λv k=>Qr k
 have C43:Hid (∀ v,KX B w0 ((w.heap.size,[.bool false,.bool false,.bool false,.bool false,.bool false,.bool false,.bool false,.bool false,.bool false],196)::A) a m S v->_):=λv k=>Va k c
 have C52:Hid (∀ v,KX B w0 ((w.heap.size,[.bool false,.bool false,.bool false,.bool false,.bool false,.bool false,.bool false,.bool false,.bool false],196)::A) a m S v->_):=λv k=>Sv k c
 have C59:Hid (∀ v,KX B w0 ((w.heap.size,[.bool false,.bool false,.bool false,.bool false,.bool false,.bool false,.bool false,.bool false,.bool false],196)::A) a m S v->_):=λv k=>K5 k c
 have C67:Hid (∀ v,KX B w0 ((w.heap.size,[.bool false,.bool false,.bool false,.bool false,.bool false,.bool false,.bool false,.bool false,.bool false],196)::A) a m S v->_):=λv k=>K5 k (-1)
 have C76:Hid (∀ v,KX B w0 ((w.heap.size,[.bool false,.bool false,.bool false,.bool false,.bool false,.bool false,.bool false,.bool false,.bool false],196)::A) a m S v->_):=λv k=>K4 k c
 have C36:Hid (∀ v,_):=λv=>As S.ac c v hac
 unfold flags
 generalize (Bh S c).isSome=b5 at *
 generalize (Bh S c).getD 0=r0 at *
 generalize tb S.sl c=b0 at *
 generalize tb S.sh c=b1 at *
 generalize tb S.ac c=b3 at *
 generalize Tim.U0 a.n S.now S.t c=b6 at *
 rw [show decide (0<(Cm.LP S.cl c).length)=decide ((0:Int)<((Cm.LP S.cl c).length:Int)) from AHp.2 (by omega),show decide (0<(Cm.E4 a.n S.wk c).length)=decide ((0:Int)<((Cm.E4 a.n S.wk c).length:Int)) from AHp.2 (by omega),show decide (0<(Cm.E4 a.n S.wk (-1)).length)=decide ((0:Int)<((Cm.E4 a.n S.wk (-1)).length:Int)) from AHp.2 (by omega)]
 generalize ((Cm.LP S.cl c).length:Int)=n4 at *
 generalize ((Cm.E4 a.n S.wk c).length:Int)=n7 at *
 generalize ((Cm.E4 a.n S.wk (-1)).length:Int)=n8 at *
 generalize Rqu.Bs a.n S.q c=n9 at *
 generalize Hp.cos S.R=co at *
 generalize S.R.isSome=ib at *
 subst hR
 generalize hb4:decide ((0:Int)<n4)=b4
 generalize hb9:decide ((0:Int)<n9)=b9
 generalize hb2:(co==c)=b2
 generalize hb7:decide ((0:Int)<n7)=b7
 generalize hb8:decide ((0:Int)<n8)=b8
 obtain ⟨V,hV⟩:∃ V,Cor.IM ⟨b0,b1,true&&b2,b3,b4,b5,b6,b7 || b8,b9⟩=V:=⟨_,rfl⟩
 have E:Hid (∀ x y,(true&&b2)=x->(b7 || b8)=y->Cor.IM ⟨b0,b1,x,b3,b4,b5,b6,y,b9⟩=V):=λx y hx hy=>by rw [<- hx,<- hy];exact hV
 rw [hV]
 clear hV
 go_enter func72,ntmps72
 go_wp2_with fail
 refine (CR.out ()).mono ?_
 rintro e w1 ⟨rfl,h1⟩
 go_wp2_with fail
 simp only [List.append]
 refine Hf [79] (λw'=>w'.cell? ⟨a.k,14,none⟩=some (.pointer (some ⟨a.st,0,none⟩))/\w'.cell? ⟨a.k,12,none⟩=some (.pointer (some ⟨a.dk,0,none⟩))/\w'.cell? ⟨a.k,1,none⟩=some (.int .u64 (S.ac:Int))/\w'.cell? ⟨a.k,9,none⟩=some (.pointer (some ⟨a.cl+3,0,none⟩))/\w'.cell? ⟨a.k,5,none⟩=some (.pointer (some ⟨a.tm,0,none⟩))/\w'.cell? ⟨a.k,8,none⟩=some (.pointer (some ⟨a.wk+6,0,none⟩))/\w'.cell? ⟨a.k,4,none⟩=some (.pointer (some ⟨a.rq+2,0,none⟩))) (by kernel_rfl) (by exact ⟨h1.drew.Ba,h1.drew.AN,h1.drew.c1,h1.drew.c9,h1.drew.c5,h1.drew.c8,h1.drew.c4⟩) (λhHeld=>?_)
 refine pK 0 oF0 hHeld ?_
 refine pK 1 oF1 hHeld ?_
 refine pK 2 oF2 hHeld ?_
 refine pK 3 oF3 hHeld ?_
 refine tK 4 oF4 hHeld ?_
 refine pK 5 oF5 hHeld ?_
 refine pK 7 oF7 hHeld ?_
 refine pK 8 oF8 hHeld ?_
 refine pK 9 oF9 hHeld ?_
 refine pK 10 zI hHeld ?_
 refine tK 11 zJ hHeld ?_
 refine pK 12 zK hHeld ?_
 refine pK 14 zM hHeld ?_
 refine pK 15 zN hHeld ?_
 refine pK 16 zO hHeld ?_
 refine pK 17 zP hHeld ?_
 refine tK 18 zQ hHeld ?_
 refine pK 30 AAC hHeld ?_
 refine pK 31 AAD hHeld ?_
 refine pK 32 AAE hHeld ?_
 refine pK 33 AAF hHeld ?_
 refine tK 34 AAG hHeld ?_
 refine pK 35 AAH hHeld ?_
 refine pK 37 AAJ hHeld ?_
 refine pK 38 AAK hHeld ?_
 refine pK 39 AAL hHeld ?_
 refine pK 40 AAM hHeld ?_
 refine tK 41 AAN hHeld ?_
 refine pK 42 AAO hHeld ?_
 refine pK 45 AAR hHeld ?_
 refine pK 46 AAS hHeld ?_
 refine pK 47 AAT hHeld ?_
 refine pK 48 AAU hHeld ?_
 refine pK 49 AAV hHeld ?_
 refine tK 50 AAW hHeld ?_
 refine pK 51 AAX hHeld ?_
 refine pK 53 AAZ hHeld ?_
 refine pK 54 AA0 hHeld ?_
 refine pK 55 AA1 hHeld ?_
 refine pK 56 AA2 hHeld ?_
 refine tK 57 AA3 hHeld ?_
 refine pK 58 AA4 hHeld ?_
 refine pK 70 AA8 hHeld ?_
 refine pK 71 AA9 hHeld ?_
 refine pK 72 AAa hHeld ?_
 refine pK 73 AAb hHeld ?_
 refine tK 74 AAc hHeld ?_
 refine pK 75 AAd hHeld ?_
 refine cK 6 oF6 (C6.out _ (h1.sm ⟨rfl,rfl,rfl,rfl⟩)) (λ_ h=>⟨h.Ba,h.AN,h.c1,h.c9,h.c5,h.c8,h.c4⟩) λw2 h2 hHeld=>?_
 refine cK 13 zL (C13.out _ (h2.sm ⟨rfl,rfl,rfl,rfl⟩)) (λ_ h=>⟨h.Ba,h.AN,h.c1,h.c9,h.c5,h.c8,h.c4⟩) λw3 h3 hHeld=>?_
 refine cK 19 zR (C19.out _ (h3.sm ⟨rfl,rfl,rfl,rfl⟩)) (λ_ h=>⟨h.Ba,h.AN,h.c1,h.c9,h.c5,h.c8,h.c4⟩) λw4 h4 hHeld=>?_
 refine pK 20 zS hHeld ?_
 refine pK 21 zT hHeld ?_
 refine pK 22 zU hHeld ?_
 refine pK 23 zV hHeld ?_
 refine pK 24 zW hHeld ?_
 refine tK 25 zX hHeld ?_
 refine pK 27 zZ hHeld ?_
 refine cK 26 zY (C26.out _ (h4.sm ⟨rfl,rfl,rfl,rfl⟩)) (λ_ h=>⟨h.Ba,h.AN,h.c1,h.c9,h.c5,h.c8,h.c4⟩) λw5 h5 hHeld=>?_
 refine pK 28 AAA hHeld ?_
 refine pK 29 AAB hHeld ?_
 refine cK 36 AAI (C36.out _) (λ_ e=>e ▸ hHeld) λw' e hHeld=>?_
 subst e
 refine cK 43 AAP (C43.out _ (h5.sm ⟨rfl,rfl,rfl,rfl⟩)) (λ_ h=>⟨h.Ba,h.AN,h.c1,h.c9,h.c5,h.c8,h.c4⟩) λw6 h6 hHeld=>?_
 refine pK 44 AAQ hHeld ?_
 refine cK 52 AAY (C52.out _ (h6.sm ⟨rfl,rfl,rfl,rfl⟩)) (λ_ h=>⟨h.Ba,h.AN,h.c1,h.c9,h.c5,h.c8,h.c4⟩) λw7 h7 hHeld=>?_
 refine cK 59 AA5 (C59.out _ (h7.sm ⟨rfl,rfl,rfl,rfl⟩)) (λ_ h=>⟨h.Ba,h.AN,h.c1,h.c9,h.c5,h.c8,h.c4⟩) λw8 h8 hHeld=>?_
 refine pK 60 AA6 hHeld ?_
 refine pK 61 AA7 hHeld ?_
 cases b7 with
 | false=>
  refine pK 62 XP hHeld ?_
  refine pK 63 XQ hHeld ?_
  refine pK 64 XR hHeld ?_
  refine pK 65 XS hHeld ?_
  refine tK 66 XT hHeld ?_
  refine cK 67 XU (C67.out _ (h8.sm ⟨rfl,rfl,rfl,rfl⟩)) (λ_ h=>⟨h.Ba,h.AN,h.c1,h.c9,h.c5,h.c8,h.c4⟩) λw9 h9 hHeld=>?_
  refine pK 68 XV hHeld ?_
  refine pK 69 XW hHeld ?_
  refine cK 76 XX (C76.out _ (h9.sm ⟨rfl,rfl,rfl,rfl⟩)) (λ_ h=>⟨h.Ba,h.AN,h.c1,h.c9,h.c5,h.c8,h.c4⟩) λw10 h10 hHeld=>?_
  refine pK 77 XY hHeld ?_
  refine pK 78 XZ hHeld ?_
  obtain ⟨fz,x0,x1,x2,x3,x4,x5,x6,x7,x8⟩:=h10.nine
  refine AV (i:=79) (by kernel_rfl) (Bu (o:=Xa) rfl (λK hK=>?_))
  go_simp
  (try go_wp2_with fail)
  refine hK.out _ _ (λhU=>absurd hU (BK (by kernel_rfl))) (λhHeld=>?_)
  clear hHeld hK K
  try simp only [Act.put,AD1,AD5,AD2]
  refine B6 (by kernel_rfl) ?_ _
  go_wp2
  have H:=h10.Xb ne h.sz (.bool b0) (.bool b1) (.bool b2) (.bool b3) (.bool b4) (.bool b5) (.bool b6) (.bool b8) (.bool b9)
  exact bodyPost_ret (K9 (x:=⟨b0,b1,b2,b3,b4,b5,b6,b8,b9⟩) H.AC rfl) rfl ⟨AHo Ending.returned (E.out _ _ rfl rfl),H.drop⟩
 | true=>
  refine xK 62 XP hHeld ?_
  refine xK 63 XQ hHeld ?_
  refine xK 64 XR hHeld ?_
  refine xK 65 XS hHeld ?_
  refine xK 66 XT hHeld ?_
  refine xK 67 XU hHeld ?_
  refine xK 68 XV hHeld ?_
  refine pK 69 XW hHeld ?_
  refine cK 76 XX (C76.out _ (h8.sm ⟨rfl,rfl,rfl,rfl⟩)) (λ_ h=>⟨h.Ba,h.AN,h.c1,h.c9,h.c5,h.c8,h.c4⟩) λw9 h9 hHeld=>?_
  refine pK 77 XY hHeld ?_
  refine pK 78 XZ hHeld ?_
  obtain ⟨fz,x0,x1,x2,x3,x4,x5,x6,x7,x8⟩:=h9.nine
  refine AV (i:=79) (by kernel_rfl) (Bu (o:=Xa) rfl (λK hK=>?_))
  go_simp
  (try go_wp2_with fail)
  refine hK.out _ _ (λhU=>absurd hU (BK (by kernel_rfl))) (λhHeld=>?_)
  clear hHeld hK K
  try simp only [Act.put,AD1,AD5,AD2]
  refine B6 (by kernel_rfl) ?_ _
  go_wp2
  have H:=h9.Xb ne h.sz (.bool b0) (.bool b1) (.bool b2) (.bool b3) (.bool b4) (.bool b5) (.bool b6) (.bool true) (.bool b9)
  exact bodyPost_ret (K9 (x:=⟨b0,b1,b2,b3,b4,b5,b6,true,b9⟩) H.AC rfl) rfl ⟨AHo Ending.returned (E.out _ _ rfl rfl),H.drop⟩
def Vr (h:KX B w0 A a m S w) (c:Int):
 Calls prog 72 #[.pointer (some ⟨a.k,0,none⟩),.int .i64 (c)] w λe w'=>e=.returned (Cor.IM (flags a.n S c))/\KX B w0 A a m S w':=by
 cases hR:S.R.isSome
 ·exact jB h c hR
 ·exact jC h c hR
end
end Go.Proofs.YtdlhlfpigcgapaaGreatDoor.Krn
